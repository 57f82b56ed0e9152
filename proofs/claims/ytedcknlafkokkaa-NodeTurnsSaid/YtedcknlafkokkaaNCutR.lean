/-
  A node cut in two, by the document's words: its Cut. No statement is proved here. No condition.
-/
import Derived.Test.YtedcknlafkokkaaNAt
import Derived.Test.YtedcknlafkokkaaNRefB
namespace Go.Proofs.Ytedcknlafkokkaa
open Go.RowKit

theorem first_small' {n : PN} (h : n.small) (i : Nat) : (n.first i).small := by
  unfold PN.first
  split
  · exact ⟨by show (n.cells.take i).length ≤ _; rw [List.length_take]; have := h.cells; omega, by simp, fun c hc => h.each c (List.mem_of_mem_take hc)⟩
  · exact ⟨by show (n.cells.take i).length ≤ _; rw [List.length_take]; have := h.cells; omega, by show (n.kids.take _).length ≤ _; rw [List.length_take]; have := h.kids; omega, fun c hc => h.each c (List.mem_of_mem_take hc)⟩
theorem second_small' {n : PN} (h : n.small) (i : Nat) : (n.second i).small := by
  unfold PN.second
  split
  · exact ⟨by show (n.cells.drop i).length ≤ _; rw [List.length_drop]; have := h.cells; omega, by simp, fun c hc => h.each c (List.mem_of_mem_drop hc)⟩
  · exact ⟨by show (n.cells.drop _).length ≤ _; rw [List.length_drop]; have := h.cells; omega, by show (n.kids.drop _).length ≤ _; rw [List.length_drop]; have := h.kids; omega, fun c hc => h.each c (List.mem_of_mem_drop hc)⟩
theorem best_snoc (f : Nat → Nat) (x : Nat) : ∀ (l : List Nat) (a : Nat), best f a (l ++ [x]) = if f x < f (best f a l) then x else best f a l
  | [], _ => rfl
  | i :: l, a => best_snoc f x l (if f i < f a then i else a)
/-- the lightest place below j -/
def PN.seek (n : PN) (j : Nat) : Nat := best n.odd n.from' ((List.range j).drop (n.from' + 1))
theorem seek_first (n : PN) : n.seek (n.from' + 1) = n.from' := by
  unfold PN.seek
  rw [List.drop_of_length_le (by simp)]
  rfl
theorem seek_step (n : PN) {j : Nat} (h : n.from' < j) : n.seek (j + 1) = if n.odd j < n.odd (n.seek j) then j else n.seek j := by
  unfold PN.seek
  rw [List.range_succ, List.drop_append_of_le_length (by rw [List.length_range]; omega)]
  exact best_snoc _ _ _ _
theorem six_node {W : World} {p q B C : Nat} {x y z x' y' z' v : Value} {n : PN} (h : NodeN W (fun b => B ≤ b) v n) (hp : p < B) (hq : q < B) (hC : C ≤ B) :
    NodeN ((((((W.setCell ⟨p, 0, none⟩ x).setCell ⟨p, 1, none⟩ y).setCell ⟨p, 2, none⟩ z).setCell ⟨q, 0, none⟩ x').setCell ⟨q, 1, none⟩ y').setCell ⟨q, 2, none⟩ z') (fun b => C ≤ b) v n :=
  h.kept (fun b h _ => Nat.le_trans hC h) (Nat.le_of_eq (by rw [set3_size, set3_size])) (fun b h _ => by rw [set3_far (Nat.ne_of_gt (Nat.lt_of_lt_of_le hq h)), set3_far (Nat.ne_of_gt (Nat.lt_of_lt_of_le hp h))])
set_option maxHeartbeats 8000000 in
set_option maxRecDepth 1000000 in
theorem refcut_any (n : PN) (v : Value) (w : World) (h : NodeN w Any v n) (hs : n.small) :
    Calls Try.prog 25 #[v] w fun e w' => ∃ va vb, e = .returned (.tuple #[va, .string n.cut.2.1, vb]) ∧ NodeN w' (fun b => w.heap.size ≤ b) va n.cut.1 ∧ NodeN w' (fun b => w.heap.size ≤ b) vb n.cut.2.2 ∧ Below w.heap.size w w' := by
  obtain ⟨vc, vk, rfl, hc, hk⟩ := id h
  obtain ⟨Ac, cc, rfl, -, -⟩ := hc.slice
  obtain ⟨Ak, ck, rfl, -, -⟩ := hk.slice
  have hlc := hs.cells
  have hlk := hs.kids
  obtain ⟨w1, hw1⟩ : ∃ w1, w1 = w.alloc (.cells #[.bool n.leaf, .slice Ac n.cells.length cc, .slice Ak n.kids.length ck] 25) := ⟨_, rfl⟩
  have hb1 : Below w.heap.size w w1 := by rw [hw1]; exact (Below.refl _ _).alloc (Nat.le_refl _) _
  have hs1 : w1.heap.size = w.heap.size + 1 := by rw [hw1]; simp
  have hx1 : w1.heap[w.heap.size]? = some (.cells #[.bool n.leaf, .slice Ac n.cells.length cc, .slice Ak n.kids.length ck] 25 (0, 0)) := by rw [hw1]; exact heap_alloc_new w _
  obtain ⟨w2, hw2⟩ : ∃ w2, w2 = w1.alloc (.cells #[.bool false, .slice none 0 0, .slice none 0 0] 25) := ⟨_, rfl⟩
  have hb2 : Below w1.heap.size w1 w2 := by rw [hw2]; exact (Below.refl _ _).alloc (Nat.le_refl _) _
  have hs2 : w2.heap.size = w.heap.size + 2 := by rw [hw2]; simp [hs1]
  have hy2 : w2.heap[w.heap.size + 1]? = some (.cells #[.bool false, .slice none 0 0, .slice none 0 0] 25 (0, 0)) := by rw [hw2, ← hs1]; exact heap_alloc_new w1 _
  have hx2 := (hb2.block w.heap.size (by omega)).trans hx1
  obtain ⟨w3, hw3⟩ : ∃ w3, w3 = w2.alloc (.cells #[.bool false, .slice none 0 0, .slice none 0 0] 25) := ⟨_, rfl⟩
  have hb3 : Below w2.heap.size w2 w3 := by rw [hw3]; exact (Below.refl _ _).alloc (Nat.le_refl _) _
  have hs3 : w3.heap.size = w.heap.size + 3 := by rw [hw3]; simp [hs2]
  have hz3 : w3.heap[w.heap.size + 2]? = some (.cells #[.bool false, .slice none 0 0, .slice none 0 0] 25 (0, 0)) := by rw [hw3, ← hs2]; exact heap_alloc_new w2 _
  have hx3 := (hb3.block w.heap.size (by omega)).trans hx2
  have hy3 := (hb3.block (w.heap.size + 1) (by omega)).trans hy2
  have hbw : Below w.heap.size w w3 := (hb1.trans (Joins.below_le hb2 hb1.size)).trans (Joins.below_le hb3 (by omega))
  have hnN : ∀ W, Below w3.heap.size w3 W → NodeN W Any (.agg #[.bool n.leaf, .slice Ac n.cells.length cc, .slice Ak n.kids.length ck]) n := fun W hW => h.grow (hbw.trans (Joins.below_le hW hbw.size))
  have hkeep : ∀ W, Below w3.heap.size w3 W → W.cell? ⟨w.heap.size, 0, none⟩ = some (.bool n.leaf) ∧ W.cell? ⟨w.heap.size, 1, none⟩ = some (.slice Ac n.cells.length cc) ∧ W.cell? ⟨w.heap.size, 2, none⟩ = some (.slice Ak n.kids.length ck) := fun W hW => by
    have e1 := (hW.block w.heap.size (by omega)).trans hx3
    exact ⟨(row_cells e1).1 0, (row_cells e1).1 1, (row_cells e1).1 2⟩
  have hres : ∀ W, Below w3.heap.size w3 W → (W.cell? ⟨w.heap.size + 1, 0, none⟩ = some (.bool false) ∧ W.cell? ⟨w.heap.size + 1, 1, none⟩ = some (.slice none 0 0) ∧ W.cell? ⟨w.heap.size + 1, 2, none⟩ = some (.slice none 0 0)) ∧ (W.frozen? ⟨w.heap.size + 1, 0, none⟩ = false ∧ W.frozen? ⟨w.heap.size + 1, 1, none⟩ = false ∧ W.frozen? ⟨w.heap.size + 1, 2, none⟩ = false) ∧ (W.cell? ⟨w.heap.size + 2, 0, none⟩ = some (.bool false) ∧ W.cell? ⟨w.heap.size + 2, 1, none⟩ = some (.slice none 0 0) ∧ W.cell? ⟨w.heap.size + 2, 2, none⟩ = some (.slice none 0 0)) ∧ W.frozen? ⟨w.heap.size + 2, 0, none⟩ = false ∧ W.frozen? ⟨w.heap.size + 2, 1, none⟩ = false ∧ W.frozen? ⟨w.heap.size + 2, 2, none⟩ = false := fun W hW => by
    have e1 := (hW.block (w.heap.size + 1) (by omega)).trans hy3
    have e2 := (hW.block (w.heap.size + 2) (by omega)).trans hz3
    exact ⟨⟨(row_cells e1).1 0, (row_cells e1).1 1, (row_cells e1).1 2⟩, ⟨(row_cells e1).2 0, (row_cells e1).2 1, (row_cells e1).2 2⟩, ⟨(row_cells e2).1 0, (row_cells e2).1 1, (row_cells e2).1 2⟩, (row_cells e2).2 0, (row_cells e2).2 1, (row_cells e2).2 2⟩
  have hend : ∀ W, Below w3.heap.size w3 W → ∀ x y z x' y' z' : Value, ((((((W.setCell ⟨w.heap.size + 1, 0, none⟩ x).setCell ⟨w.heap.size + 1, 1, none⟩ y).setCell ⟨w.heap.size + 1, 2, none⟩ z).setCell ⟨w.heap.size + 2, 0, none⟩ x').setCell ⟨w.heap.size + 2, 1, none⟩ y').setCell ⟨w.heap.size + 2, 2, none⟩ z').heap[w.heap.size + 1]? = some (.cells #[x, y, z] 25 (0, 0)) ∧ ((((((W.setCell ⟨w.heap.size + 1, 0, none⟩ x).setCell ⟨w.heap.size + 1, 1, none⟩ y).setCell ⟨w.heap.size + 1, 2, none⟩ z).setCell ⟨w.heap.size + 2, 0, none⟩ x').setCell ⟨w.heap.size + 2, 1, none⟩ y').setCell ⟨w.heap.size + 2, 2, none⟩ z').heap[w.heap.size + 2]? = some (.cells #[x', y', z'] 25 (0, 0)) ∧ Below w.heap.size w ((((((W.setCell ⟨w.heap.size + 1, 0, none⟩ x).setCell ⟨w.heap.size + 1, 1, none⟩ y).setCell ⟨w.heap.size + 1, 2, none⟩ z).setCell ⟨w.heap.size + 2, 0, none⟩ x').setCell ⟨w.heap.size + 2, 1, none⟩ y').setCell ⟨w.heap.size + 2, 2, none⟩ z') := fun W hW x y z x' y' z' => by
    have e1 := (hW.block (w.heap.size + 1) (by omega)).trans hy3
    have e2 := (hW.block (w.heap.size + 2) (by omega)).trans hz3
    have h6 := six (x := x) (y := y) (z := z) (x' := x') (y' := y') (z' := z') (by omega : w.heap.size + 1 ≠ w.heap.size + 2) e1 e2
    exact ⟨h6.1, h6.2, six_below (hbw.trans (Joins.below_le hW hbw.size)) (by omega) (by omega)⟩
  have htw := fun W hW => twin_any n _ W (hnN W hW) (by omega) (by omega)
  have HNN := Lib.hid hnN
  have HKEEP := Lib.hid hkeep
  have HRES := Lib.hid hres
  have HEND := Lib.hid hend
  have HTW := Lib.hid htw
  have HW1 := Lib.hid hw1
  have HW2 := Lib.hid hw2
  have HW3 := Lib.hid hw3
  have HSM := Lib.hid hs
  obtain ⟨x0, x1, x2⟩ := hkeep w3 (Below.refl _ _)
  have hzn := zero_nodeR
  clear hnN hkeep hres hend htw hw1 hw2 hw3 hb1 hb2 hb3 hs1 hs2 hx1 hx2 hy2 hx3 hy3 hz3 hbw hc hk h hs
  go_enter Try.func25, Try.ntmps25
  go_upto_region 1 with fail
  rw [← HW1.out, ← HW2.out]
  rw [← HW3.out]
  try rw [show w.heap.size + 1 + 1 = w.heap.size + 2 from rfl]
  go_upto_region 2 with fail
  cases hlf : n.leaf with
  | true =>
    rw [hlf] at x0
    have hF : n.from' = 1 := by unfold PN.from'; rw [hlf]; rfl
    have HF := Lib.hid hF
    clear hF hlf
    go_upto_region 4 with fail
    clear x0 x1 x2
    obtain ⟨x0, x1, x2⟩ := HKEEP.out w3 (Below.refl _ _)
    by_cases hff : n.cells.length ≤ 1
    · have j1 : (n.cells.length : Int) ≤ 1 := by omega
      have hcut : n.cut = (n, ⟨#[]⟩, PN.zero) := by unfold PN.cut; rw [if_pos (by rw [HF.out]; exact hff)]
      have HCUT := Lib.hid hcut
      clear hcut
      go_wp2_with fail
      refine (HTW.out w3 (Below.refl _ _)).mono ?_
      rintro e w5 ⟨v5, rfl, ho5, hb5⟩
      have hn5 := ho5.node
      obtain ⟨A1, c1, A2, c2, rfl, -, -⟩ := id ho5
      clear ho5 x0 x1 x2
      obtain ⟨⟨r0, r1, r2⟩, ⟨r3, r4, r5⟩, ⟨r6, r7, r8⟩, r9, r10, r11⟩ := HRES.out w5 hb5
      obtain ⟨k1, k2, k3⟩ := HEND.out w5 hb5 (.bool n.leaf) (.slice A1 n.cells.length c1) (.slice A2 n.kids.length c2) (.bool false) (.slice none 0 0) (.slice none 0 0)
      obtain ⟨w6, hw6⟩ : ∃ w6, w6 = ((((((w5.setCell ⟨w.heap.size + 1, 0, none⟩ (.bool n.leaf)).setCell ⟨w.heap.size + 1, 1, none⟩ (.slice A1 n.cells.length c1)).setCell ⟨w.heap.size + 1, 2, none⟩ (.slice A2 n.kids.length c2)).setCell ⟨w.heap.size + 2, 0, none⟩ (.bool false)).setCell ⟨w.heap.size + 2, 1, none⟩ (.slice none 0 0)).setCell ⟨w.heap.size + 2, 2, none⟩ (.slice none 0 0)) := ⟨_, rfl⟩
      rw [← hw6] at k1 k2 k3
      have hn6a : NodeN w6 (fun b => w.heap.size ≤ b) (.agg #[.bool n.leaf, .slice A1 n.cells.length c1, .slice A2 n.kids.length c2]) (n) := by rw [hw6]; exact six_node hn5 (by omega) (by omega) (by omega)
      have hn6b : NodeN w6 (fun b => w.heap.size ≤ b) (.agg #[.bool false, .slice none 0 0, .slice none 0 0]) (PN.zero) := ⟨_, _, rfl, CsN.nil _ _, KsN.nil _ _⟩
      have q0 : w6.cell? ⟨w.heap.size + 1, 0, none⟩ = some (.bool n.leaf) := (row_cells k1).1 0
      have q1 : w6.cell? ⟨w.heap.size + 1, 1, none⟩ = some (.slice A1 n.cells.length c1) := (row_cells k1).1 1
      have q2 : w6.cell? ⟨w.heap.size + 1, 2, none⟩ = some (.slice A2 n.kids.length c2) := (row_cells k1).1 2
      have q3 : w6.cell? ⟨w.heap.size + 2, 0, none⟩ = some (.bool false) := (row_cells k2).1 0
      have q4 : w6.cell? ⟨w.heap.size + 2, 1, none⟩ = some (.slice none 0 0) := (row_cells k2).1 1
      have q5 : w6.cell? ⟨w.heap.size + 2, 2, none⟩ = some (.slice none 0 0) := (row_cells k2).1 2
      have HN6A := Lib.hid hn6a
      have HN6B := Lib.hid hn6b
      have HB6 := Lib.hid k3
      have HW6 := Lib.hid hw6
      clear k1 k2 k3 hn6a hn6b hw6 hn5 
      go_wp2_with fail
      rw [← HW6.out]
      refine bodyPost_ret (v := .tuple #[.agg #[.bool n.leaf, .slice A1 n.cells.length c1, .slice A2 n.kids.length c2], .string ⟨#[]⟩, .agg #[.bool false, .slice none 0 0, .slice none 0 0]]) (by clear r0 r1 r2 r3 r4 r5 r6 r7 r8 r9 r10 r11; rw [results_ctc rfl]; go_simp; try rfl) rfl ?_
      rw [HCUT.out]
      exact ⟨_, _, rfl, HN6A.out, HN6B.out, HB6.out⟩
    · have j1 : ¬ (n.cells.length : Int) ≤ 1 := by omega
      have hnf : ¬ n.cells.length ≤ n.from' := by rw [HF.out]; exact hff
      obtain ⟨hpl, hpf⟩ := place_lt hnf
      obtain ⟨P, hP⟩ : ∃ P, P = n.place := ⟨_, rfl⟩
      rw [← hP] at hpl hpf
      obtain ⟨cP, hcP⟩ : ∃ c, n.cells[P]? = some c := ⟨_, List.getElem?_eq_getElem hpl⟩
      have hcut : n.cut = (n.first P, cP.key, n.second P) := by unfold PN.cut; rw [if_neg hnf, ← hP]; unfold keyAt; rw [hcP]; rfl
      have hup : n.seek n.cells.length = P := hP.symm
      have HCUT := Lib.hid hcut
      have HUP := Lib.hid hup
      have HCP := Lib.hid hcP
      clear hcut hup hcP hP hpf hnf
      go_wp2_with fail
      go_loopw [6, 7, 8, 9, 10, 11, 12] (fun s6 s7 s8 _ _ _ _ wr => ∃ j : Nat, s8 = .int .i64 (j : Int) ∧ 1 ≤ j ∧ j ≤ n.cells.length ∧ ((j = 1 ∧ s6 = .int .i64 (-1) ∧ s7 = .int .i64 0) ∨ (1 < j ∧ ∃ bp lv : Nat, s6 = .int .i64 (bp : Int) ∧ s7 = .int .i64 (lv : Int) ∧ Hid (bp = n.seek j) ∧ Hid (lv = n.odd (n.seek j)))) ∧ Hid (Below w3.heap.size w3 wr)) (fun _ _ s8 _ _ _ _ _ => n.cells.length - (intOf s8).toNat)
      case atStart => exact ⟨1, rfl, by omega, by omega, Or.inl ⟨rfl, rfl, rfl⟩, Lib.hid (Below.refl _ _)⟩
      case round =>
        obtain ⟨j, rfl, hj0, hj, hst, hbw⟩ := hrel
        obtain ⟨wz, hwz⟩ : ∃ wz : World, wz = wr := ⟨_, rfl⟩
        subst hwz
        clear x0 x1 x2
        obtain ⟨x0, x1, x2⟩ := HKEEP.out _ hbw.out
        by_cases hjl : j < n.cells.length
        · have a1 : (j : Int) < (n.cells.length : Int) := by omega
          have a0 : (0 : Int) ≤ (j : Int) := by omega
          obtain ⟨c, hcj⟩ : ∃ c, n.cells[j]? = some c := ⟨_, List.getElem?_eq_getElem hjl⟩
          have cA := refat_any n _ j c wz (HNN.out _ hbw.out) hcj (by omega) (by omega)
          have hsa := first_small' HSM.out j
          have hsb := second_small' HSM.out j
          have hod : n.odd j = max ((n.first j).by.length - (n.second j).by.length) ((n.second j).by.length - (n.first j).by.length) := rfl
          obtain ⟨pa, hpa⟩ : ∃ p, p = n.first j := ⟨_, rfl⟩
          obtain ⟨pb, hpb⟩ : ∃ p, p = n.second j := ⟨_, rfl⟩
          rw [← hpa, ← hpb] at cA hod
          rw [← hpa] at hsa
          rw [← hpb] at hsb
          have HSA := Lib.hid hsa
          have HSB := Lib.hid hsb
          have HOD := Lib.hid hod
          clear hpa hpb hsa hsb hod hcj
          go_upto_region 10 with fail
          go_wp2_with fail
          refine cA.mono ?_
          rintro e wa ⟨va, vb, rfl, hna, hnb, hba⟩
          obtain ⟨vca, vka, rfl, hca, hka⟩ := id hna
          obtain ⟨A7, c7, rfl, -, -⟩ := hca.slice
          obtain ⟨A7', c7', rfl, -, -⟩ := hka.slice
          obtain ⟨vcb, vkb, rfl, hcb, hkb⟩ := id hnb
          obtain ⟨A9, c9, rfl, -, -⟩ := hcb.slice
          obtain ⟨A9', c9', rfl, -, -⟩ := hkb.slice
          obtain ⟨wd, hwd⟩ : ∃ wd, wd = (wa.alloc (.cells #[.bool pa.leaf, .slice A7 pa.cells.length c7, .slice A7' pa.kids.length c7'] 25)).alloc (.cells #[.bool pb.leaf, .slice A9 pb.cells.length c9, .slice A9' pb.kids.length c9'] 25) := ⟨_, rfl⟩
          have hbd : Below wa.heap.size wa wd := by rw [hwd]; exact ((Below.refl _ _).alloc (Nat.le_refl _) _).alloc (by simp) _
          have e1 : wd.heap[wa.heap.size]? = some (.cells #[.bool pa.leaf, .slice A7 pa.cells.length c7, .slice A7' pa.kids.length c7'] 25 (0, 0)) := by rw [hwd]; exact (heap_alloc_old _ _ (by simp)).trans (heap_alloc_new wa _)
          have e2 : wd.heap[wa.heap.size + 1]? = some (.cells #[.bool pb.leaf, .slice A9 pb.cells.length c9, .slice A9' pb.kids.length c9'] 25 (0, 0)) := by
            rw [hwd]
            have := heap_alloc_new (wa.alloc (.cells #[.bool pa.leaf, .slice A7 pa.cells.length c7, .slice A7' pa.kids.length c7'] 25)) (.cells #[.bool pb.leaf, .slice A9 pb.cells.length c9, .slice A9' pb.kids.length c9'] 25)
            simpa using this
          have l1 := (Array.getElem?_eq_some_iff.1 e1).1
          have l2 := (Array.getElem?_eq_some_iff.1 e2).1
          have hb3a : Below w3.heap.size w3 wa := hbw.out.trans (Joins.below_le hba hbw.out.size)
          have hb3d : Below w3.heap.size w3 wd := hb3a.trans (Joins.below_le hbd hb3a.size)
          have hS : ∀ W, Below wd.heap.size wd W → (W.cell? ⟨wa.heap.size, 0, none⟩ = some (.bool pa.leaf) ∧ W.cell? ⟨wa.heap.size, 1, none⟩ = some (.slice A7 pa.cells.length c7) ∧ W.cell? ⟨wa.heap.size, 2, none⟩ = some (.slice A7' pa.kids.length c7')) ∧ (W.cell? ⟨wa.heap.size + 1, 0, none⟩ = some (.bool pb.leaf) ∧ W.cell? ⟨wa.heap.size + 1, 1, none⟩ = some (.slice A9 pb.cells.length c9) ∧ W.cell? ⟨wa.heap.size + 1, 2, none⟩ = some (.slice A9' pb.kids.length c9')) := fun W hW => by
            have f1 := (hW.block _ l1).trans e1
            have f2 := (hW.block _ l2).trans e2
            exact ⟨⟨(row_cells f1).1 0, (row_cells f1).1 1, (row_cells f1).1 2⟩, ⟨(row_cells f2).1 0, (row_cells f2).1 1, (row_cells f2).1 2⟩⟩
          have hV : ∀ W, Below wd.heap.size wd W → NodeN W Any (.agg #[.bool pa.leaf, .slice A7 pa.cells.length c7, .slice A7' pa.kids.length c7']) pa ∧ NodeN W Any (.agg #[.bool pb.leaf, .slice A9 pb.cells.length c9, .slice A9' pb.kids.length c9']) pb ∧ Below w3.heap.size w3 W := fun W hW =>
            ⟨(hna.any.grow hbd).grow hW, (hnb.any.grow hbd).grow hW, hb3d.trans (Joins.below_le hW hb3d.size)⟩
          have HS := Lib.hid hS
          have HV := Lib.hid hV
          have HWD := Lib.hid hwd
          clear cA hna hnb hca hka hcb hkb hba hwd hbd e1 e2 l1 l2 hb3a hb3d hS hV hbw x0 x1 x2
          go_upto_region 11 with fail
          rw [← HWD.out]
          have hbe : Below wd.heap.size wd wd.drew := (Below.refl _ _).drew
          have hsd := HS.out _ hbe
          have TOK : Hid True := Lib.hid trivial
          obtain ⟨X, hX⟩ : ∃ X, X = pa.by.length := ⟨_, rfl⟩
          obtain ⟨Y, hY⟩ : ∃ Y, Y = pb.by.length := ⟨_, rfl⟩
          have hXb : X ≤ 21010011 := by rw [hX]; exact PN.by_le HSA.out
          have hYb : Y ≤ 21010011 := by rw [hY]; exact PN.by_le HSB.out
          obtain ⟨D, hD⟩ : ∃ D, D = n.odd j := ⟨_, rfl⟩
          have hDX : D = max (X - Y) (Y - X) := by rw [hD, HOD.out, hX, hY]
          have HD := Lib.hid hD
          have HX := Lib.hid hX
          have HY := Lib.hid hY
          have hDb : D ≤ 21010011 := by omega
          clear hX hY hD
          by_cases hxy : Y ≤ X
          · have hDe : (X : Int) - (Y : Int) = (D : Int) := by omega
            clear hDX
            have hw1 : wrap64 ((X : Int) - (Y : Int)) = (D : Int) := by unfold wrap64; omega
            have hw2 : IntKind.i64.wrap ((X : Int) - (Y : Int)) = (D : Int) := by rw [IntKind.wrap_i64]; omega
            clear hDe hxy
            go_region_held3 (fun W => (W.cell? ⟨wa.heap.size, 0, none⟩ = some (.bool pa.leaf) ∧ W.cell? ⟨wa.heap.size, 1, none⟩ = some (.slice A7 pa.cells.length c7) ∧ W.cell? ⟨wa.heap.size, 2, none⟩ = some (.slice A7' pa.kids.length c7')) ∧ (W.cell? ⟨wa.heap.size + 1, 0, none⟩ = some (.bool pb.leaf) ∧ W.cell? ⟨wa.heap.size + 1, 1, none⟩ = some (.slice A9 pb.cells.length c9) ∧ W.cell? ⟨wa.heap.size + 1, 2, none⟩ = some (.slice A9' pb.kids.length c9'))) (first | with_reducible exact hsd | exact HS.out _ hbe)
              (first
                | (go_at_call 30; have htok := TOK.out; refine (xbytes_any pa _ _ (HV.out _ hbe).1 HSA.out).mono ?_; rintro e wy ⟨vx, rfl, hrd, hby⟩; obtain ⟨Ax, cx, rfl, -⟩ := hrd; rw [← HX.out]; replace hbe := hbe.trans (Joins.below_le hby hbe.size); clear hby htok TOK)
                | (go_at_call 30; refine (xbytes_any pb _ _ (HV.out _ hbe).2.1 HSB.out).mono ?_; rintro e wy ⟨vx, rfl, hrd, hby⟩; obtain ⟨Ax2, cx2, rfl, -⟩ := hrd; rw [← HY.out]; replace hbe := hbe.trans (Joins.below_le hby hbe.size); clear hby))
            obtain ⟨ws, hws⟩ : ∃ ws, ws = wy := ⟨_, rfl⟩
            rw [← hws] at hbe ⊢
            have HBE := Lib.hid (HV.out _ hbe).2.2
            clear hsd hws hbe hw1 hw2
            have g1 : ¬ (D : Int) < 0 := by omega
            rcases hst with ⟨hjF, rfl, rfl⟩ | ⟨hjF, bp, lv, rfl, rfl, hbp, hlv⟩
            · have hu : n.seek (j + 1) = j := by have h9 := seek_first n; rw [HF.out] at h9; rw [hjF]; exact h9
              have HU := Lib.hid hu
              clear hu
              go_wp2_with fail
              try clear a0
              exact ⟨⟨j + 1, by go_num, by omega, by omega, Or.inr ⟨by omega, j, D, rfl, rfl, Lib.hid HU.out.symm, Lib.hid (by rw [HU.out, HD.out])⟩, HBE⟩, by simp [intOf]; omega⟩
            · have hFj : n.from' < j := by rw [HF.out]; omega
              have hup := seek_step n hFj
              have HBP := Lib.hid hbp.out
              have HLV := Lib.hid hlv.out
              by_cases hdl : D < lv
              · have hu : n.seek (j + 1) = j := by rw [hup, if_pos (by rw [← HD.out, ← HLV.out]; exact hdl)]
                have HU := Lib.hid hu
                have d1 : (D : Int) < (lv : Int) := by omega
                have d2 : ¬ (bp : Int) < 0 := by omega
                clear hu hup hFj hbp hlv
                go_wp2_with fail
                try clear a0
                exact ⟨⟨j + 1, by go_num, by omega, by omega, Or.inr ⟨by omega, j, D, rfl, rfl, Lib.hid HU.out.symm, Lib.hid (by rw [HU.out, HD.out])⟩, HBE⟩, by simp [intOf]; omega⟩
              · have hu : n.seek (j + 1) = n.seek j := by rw [hup, if_neg (by rw [← HD.out, ← HLV.out]; exact hdl)]
                have HU := Lib.hid hu
                have d1 : ¬ (D : Int) < (lv : Int) := by omega
                have d2 : ¬ (bp : Int) < 0 := by omega
                clear hu hup hFj hbp hlv
                go_wp2_with fail
                try clear a0
                exact ⟨⟨j + 1, by go_num, by omega, by omega, Or.inr ⟨by omega, bp, lv, rfl, rfl, Lib.hid (HBP.out.trans HU.out.symm), Lib.hid (by rw [HU.out]; exact HLV.out)⟩, HBE⟩, by simp [intOf]; omega⟩
          · have hDe : (X : Int) - (Y : Int) = -(D : Int) := by omega
            have hDp : 0 < D := by omega
            clear hDX
            have hw1 : wrap64 ((X : Int) - (Y : Int)) = -(D : Int) := by unfold wrap64; omega
            have hw2 : IntKind.i64.wrap ((X : Int) - (Y : Int)) = -(D : Int) := by rw [IntKind.wrap_i64]; omega
            clear hDe hxy
            go_region_held3 (fun W => (W.cell? ⟨wa.heap.size, 0, none⟩ = some (.bool pa.leaf) ∧ W.cell? ⟨wa.heap.size, 1, none⟩ = some (.slice A7 pa.cells.length c7) ∧ W.cell? ⟨wa.heap.size, 2, none⟩ = some (.slice A7' pa.kids.length c7')) ∧ (W.cell? ⟨wa.heap.size + 1, 0, none⟩ = some (.bool pb.leaf) ∧ W.cell? ⟨wa.heap.size + 1, 1, none⟩ = some (.slice A9 pb.cells.length c9) ∧ W.cell? ⟨wa.heap.size + 1, 2, none⟩ = some (.slice A9' pb.kids.length c9'))) (first | with_reducible exact hsd | exact HS.out _ hbe)
              (first
                | (go_at_call 30; have htok := TOK.out; refine (xbytes_any pa _ _ (HV.out _ hbe).1 HSA.out).mono ?_; rintro e wy ⟨vx, rfl, hrd, hby⟩; obtain ⟨Ax, cx, rfl, -⟩ := hrd; rw [← HX.out]; replace hbe := hbe.trans (Joins.below_le hby hbe.size); clear hby htok TOK)
                | (go_at_call 30; refine (xbytes_any pb _ _ (HV.out _ hbe).2.1 HSB.out).mono ?_; rintro e wy ⟨vx, rfl, hrd, hby⟩; obtain ⟨Ax2, cx2, rfl, -⟩ := hrd; rw [← HY.out]; replace hbe := hbe.trans (Joins.below_le hby hbe.size); clear hby))
            obtain ⟨ws, hws⟩ : ∃ ws, ws = wy := ⟨_, rfl⟩
            rw [← hws] at hbe ⊢
            have HBE := Lib.hid (HV.out _ hbe).2.2
            clear hsd hws hbe hw1 hw2
            have g1 : -(D : Int) < 0 := by omega
            have g2 : wrap64 (-(-(D : Int))) = (D : Int) := by unfold wrap64; omega
            have g3 : IntKind.i64.wrap (-(-(D : Int))) = (D : Int) := by rw [IntKind.wrap_i64]; omega
            have g4 : IntKind.i64.wrap (D : Int) = (D : Int) := by rw [IntKind.wrap_i64]; omega
            rcases hst with ⟨hjF, rfl, rfl⟩ | ⟨hjF, bp, lv, rfl, rfl, hbp, hlv⟩
            · have hu : n.seek (j + 1) = j := by have h9 := seek_first n; rw [HF.out] at h9; rw [hjF]; exact h9
              have HU := Lib.hid hu
              clear hu
              go_wp2_with fail
              try clear g2 g3 g4
              exact ⟨⟨j + 1, by go_num, by omega, by omega, Or.inr ⟨by omega, j, D, rfl, rfl, Lib.hid HU.out.symm, Lib.hid (by rw [HU.out, HD.out])⟩, HBE⟩, by simp [intOf]; omega⟩
            · have hFj : n.from' < j := by rw [HF.out]; omega
              have hup := seek_step n hFj
              have HBP := Lib.hid hbp.out
              have HLV := Lib.hid hlv.out
              by_cases hdl : D < lv
              · have hu : n.seek (j + 1) = j := by rw [hup, if_pos (by rw [← HD.out, ← HLV.out]; exact hdl)]
                have HU := Lib.hid hu
                have d1 : (D : Int) < (lv : Int) := by omega
                have d2 : ¬ (bp : Int) < 0 := by omega
                clear hu hup hFj hbp hlv
                go_wp2_with fail
                try clear g2 g3 g4
                exact ⟨⟨j + 1, by go_num, by omega, by omega, Or.inr ⟨by omega, j, D, rfl, rfl, Lib.hid HU.out.symm, Lib.hid (by rw [HU.out, HD.out])⟩, HBE⟩, by simp [intOf]; omega⟩
              · have hu : n.seek (j + 1) = n.seek j := by rw [hup, if_neg (by rw [← HD.out, ← HLV.out]; exact hdl)]
                have HU := Lib.hid hu
                have d1 : ¬ (D : Int) < (lv : Int) := by omega
                have d2 : ¬ (bp : Int) < 0 := by omega
                clear hu hup hFj hbp hlv
                go_wp2_with fail
                try clear g2 g3 g4
                exact ⟨⟨j + 1, by go_num, by omega, by omega, Or.inr ⟨by omega, bp, lv, rfl, rfl, Lib.hid (HBP.out.trans HU.out.symm), Lib.hid (by rw [HU.out]; exact HLV.out)⟩, HBE⟩, by simp [intOf]; omega⟩
        · have a1 : ¬ (j : Int) < (n.cells.length : Int) := by omega
          have hje : j = n.cells.length := by omega
          rcases hst with ⟨h9, -, -⟩ | ⟨-, bp, lv, rfl, rfl, hbp, -⟩
          · omega
          have hbP : bp = P := by rw [hbp.out, hje, HUP.out]
          subst hbP
          have cA := refat_any n _ bp cP wz (HNN.out _ hbw.out) HCP.out (by omega) (by omega)
          clear hje hbp
          go_wp2_with fail
          refine cA.mono ?_
          rintro e wa ⟨va, vb, rfl, hna, hnb, hba⟩
          obtain ⟨vca, vka, rfl, hca, hka⟩ := id hna
          obtain ⟨A7, c7, rfl, -, -⟩ := hca.slice
          obtain ⟨A7', c7', rfl, -, -⟩ := hka.slice
          obtain ⟨vcb, vkb, rfl, hcb, hkb⟩ := id hnb
          obtain ⟨A9, c9, rfl, -, -⟩ := hcb.slice
          obtain ⟨A9', c9', rfl, -, -⟩ := hkb.slice
          have hb3a : Below w3.heap.size w3 wa := hbw.out.trans (Joins.below_le hba hbw.out.size)
          have hsz := hbw.out.size
          clear cA hca hka hcb hkb hba hbw x0 x1 x2
          obtain ⟨⟨r0, r1, r2⟩, ⟨r3, r4, r5⟩, ⟨r6, r7, r8⟩, r9, r10, r11⟩ := HRES.out wa hb3a
          obtain ⟨k1, k2, k3⟩ := HEND.out wa hb3a (.bool (n.first bp).leaf) (.slice A7 (n.first bp).cells.length c7) (.slice A7' (n.first bp).kids.length c7') (.bool (n.second bp).leaf) (.slice A9 (n.second bp).cells.length c9) (.slice A9' (n.second bp).kids.length c9')
          obtain ⟨w6, hw6⟩ : ∃ w6, w6 = ((((((wa.setCell ⟨w.heap.size + 1, 0, none⟩ (.bool (n.first bp).leaf)).setCell ⟨w.heap.size + 1, 1, none⟩ (.slice A7 (n.first bp).cells.length c7)).setCell ⟨w.heap.size + 1, 2, none⟩ (.slice A7' (n.first bp).kids.length c7')).setCell ⟨w.heap.size + 2, 0, none⟩ (.bool (n.second bp).leaf)).setCell ⟨w.heap.size + 2, 1, none⟩ (.slice A9 (n.second bp).cells.length c9)).setCell ⟨w.heap.size + 2, 2, none⟩ (.slice A9' (n.second bp).kids.length c9')) := ⟨_, rfl⟩
          rw [← hw6] at k1 k2 k3
          have hn6a : NodeN w6 (fun b => w.heap.size ≤ b) (.agg #[.bool (n.first bp).leaf, .slice A7 (n.first bp).cells.length c7, .slice A7' (n.first bp).kids.length c7']) (n.first bp) := by rw [hw6]; exact six_node hna (by omega) (by omega) (by omega)
          have hn6b : NodeN w6 (fun b => w.heap.size ≤ b) (.agg #[.bool (n.second bp).leaf, .slice A9 (n.second bp).cells.length c9, .slice A9' (n.second bp).kids.length c9']) (n.second bp) := by rw [hw6]; exact six_node hnb (by omega) (by omega) (by omega)
          have q0 : w6.cell? ⟨w.heap.size + 1, 0, none⟩ = some (.bool (n.first bp).leaf) := (row_cells k1).1 0
          have q1 : w6.cell? ⟨w.heap.size + 1, 1, none⟩ = some (.slice A7 (n.first bp).cells.length c7) := (row_cells k1).1 1
          have q2 : w6.cell? ⟨w.heap.size + 1, 2, none⟩ = some (.slice A7' (n.first bp).kids.length c7') := (row_cells k1).1 2
          have q3 : w6.cell? ⟨w.heap.size + 2, 0, none⟩ = some (.bool (n.second bp).leaf) := (row_cells k2).1 0
          have q4 : w6.cell? ⟨w.heap.size + 2, 1, none⟩ = some (.slice A9 (n.second bp).cells.length c9) := (row_cells k2).1 1
          have q5 : w6.cell? ⟨w.heap.size + 2, 2, none⟩ = some (.slice A9' (n.second bp).kids.length c9') := (row_cells k2).1 2
          have HN6A := Lib.hid hn6a
          have HN6B := Lib.hid hn6b
          have HB6 := Lib.hid k3
          have HW6 := Lib.hid hw6
          clear k1 k2 k3 hn6a hn6b hw6 hna hnb
          go_wp2_with fail
          rw [← HW6.out]
          refine bodyPost_ret (v := .tuple #[.agg #[.bool (n.first bp).leaf, .slice A7 (n.first bp).cells.length c7, .slice A7' (n.first bp).kids.length c7'], .string cP.key, .agg #[.bool (n.second bp).leaf, .slice A9 (n.second bp).cells.length c9, .slice A9' (n.second bp).kids.length c9']]) (by clear r0 r1 r2 r3 r4 r5 r6 r7 r8 r9 r10 r11; rw [results_ctc rfl]; go_simp; try rfl) rfl ?_
          rw [HCUT.out]
          exact ⟨_, _, rfl, HN6A.out, HN6B.out, HB6.out⟩
  | false =>
    rw [hlf] at x0
    have hF : n.from' = 0 := by unfold PN.from'; rw [hlf]; rfl
    have HF := Lib.hid hF
    clear hF hlf
    go_upto_region 4 with fail
    clear x0 x1 x2
    obtain ⟨x0, x1, x2⟩ := HKEEP.out w3 (Below.refl _ _)
    by_cases hff : n.cells.length ≤ 0
    · have j1 : (n.cells.length : Int) ≤ 0 := by omega
      have hcut : n.cut = (n, ⟨#[]⟩, PN.zero) := by unfold PN.cut; rw [if_pos (by rw [HF.out]; exact hff)]
      have HCUT := Lib.hid hcut
      clear hcut
      have j2 : n.cells = [] := List.eq_nil_of_length_eq_zero (by omega)
      go_upto_region 5 with fail
      clear j1 j2
      go_wp2_with fail
      refine (HTW.out w3 (Below.refl _ _)).mono ?_
      rintro e w5 ⟨v5, rfl, ho5, hb5⟩
      have hn5 := ho5.node
      obtain ⟨A1, c1, A2, c2, rfl, -, -⟩ := id ho5
      clear ho5 x0 x1 x2
      obtain ⟨⟨r0, r1, r2⟩, ⟨r3, r4, r5⟩, ⟨r6, r7, r8⟩, r9, r10, r11⟩ := HRES.out w5 hb5
      obtain ⟨k1, k2, k3⟩ := HEND.out w5 hb5 (.bool n.leaf) (.slice A1 n.cells.length c1) (.slice A2 n.kids.length c2) (.bool false) (.slice none 0 0) (.slice none 0 0)
      obtain ⟨w6, hw6⟩ : ∃ w6, w6 = ((((((w5.setCell ⟨w.heap.size + 1, 0, none⟩ (.bool n.leaf)).setCell ⟨w.heap.size + 1, 1, none⟩ (.slice A1 n.cells.length c1)).setCell ⟨w.heap.size + 1, 2, none⟩ (.slice A2 n.kids.length c2)).setCell ⟨w.heap.size + 2, 0, none⟩ (.bool false)).setCell ⟨w.heap.size + 2, 1, none⟩ (.slice none 0 0)).setCell ⟨w.heap.size + 2, 2, none⟩ (.slice none 0 0)) := ⟨_, rfl⟩
      rw [← hw6] at k1 k2 k3
      have hn6a : NodeN w6 (fun b => w.heap.size ≤ b) (.agg #[.bool n.leaf, .slice A1 n.cells.length c1, .slice A2 n.kids.length c2]) (n) := by rw [hw6]; exact six_node hn5 (by omega) (by omega) (by omega)
      have hn6b : NodeN w6 (fun b => w.heap.size ≤ b) (.agg #[.bool false, .slice none 0 0, .slice none 0 0]) (PN.zero) := ⟨_, _, rfl, CsN.nil _ _, KsN.nil _ _⟩
      have q0 : w6.cell? ⟨w.heap.size + 1, 0, none⟩ = some (.bool n.leaf) := (row_cells k1).1 0
      have q1 : w6.cell? ⟨w.heap.size + 1, 1, none⟩ = some (.slice A1 n.cells.length c1) := (row_cells k1).1 1
      have q2 : w6.cell? ⟨w.heap.size + 1, 2, none⟩ = some (.slice A2 n.kids.length c2) := (row_cells k1).1 2
      have q3 : w6.cell? ⟨w.heap.size + 2, 0, none⟩ = some (.bool false) := (row_cells k2).1 0
      have q4 : w6.cell? ⟨w.heap.size + 2, 1, none⟩ = some (.slice none 0 0) := (row_cells k2).1 1
      have q5 : w6.cell? ⟨w.heap.size + 2, 2, none⟩ = some (.slice none 0 0) := (row_cells k2).1 2
      have HN6A := Lib.hid hn6a
      have HN6B := Lib.hid hn6b
      have HB6 := Lib.hid k3
      have HW6 := Lib.hid hw6
      clear k1 k2 k3 hn6a hn6b hw6 hn5 
      go_wp2_with fail
      rw [← HW6.out]
      refine bodyPost_ret (v := .tuple #[.agg #[.bool n.leaf, .slice A1 n.cells.length c1, .slice A2 n.kids.length c2], .string ⟨#[]⟩, .agg #[.bool false, .slice none 0 0, .slice none 0 0]]) (by clear r0 r1 r2 r3 r4 r5 r6 r7 r8 r9 r10 r11; rw [results_ctc rfl]; go_simp; try rfl) rfl ?_
      rw [HCUT.out]
      exact ⟨_, _, rfl, HN6A.out, HN6B.out, HB6.out⟩
    · have j1 : ¬ (n.cells.length : Int) ≤ 0 := by omega
      have hnf : ¬ n.cells.length ≤ n.from' := by rw [HF.out]; exact hff
      obtain ⟨hpl, hpf⟩ := place_lt hnf
      obtain ⟨P, hP⟩ : ∃ P, P = n.place := ⟨_, rfl⟩
      rw [← hP] at hpl hpf
      obtain ⟨cP, hcP⟩ : ∃ c, n.cells[P]? = some c := ⟨_, List.getElem?_eq_getElem hpl⟩
      have hcut : n.cut = (n.first P, cP.key, n.second P) := by unfold PN.cut; rw [if_neg hnf, ← hP]; unfold keyAt; rw [hcP]; rfl
      have hup : n.seek n.cells.length = P := hP.symm
      have HCUT := Lib.hid hcut
      have HUP := Lib.hid hup
      have HCP := Lib.hid hcP
      clear hcut hup hcP hP hpf hnf
      have j2 : ¬ n.cells = [] := fun h => by rw [h] at hff; exact hff (Nat.le_refl _)
      go_wp2_with fail
      clear j1 j2
      go_loopw [6, 7, 8, 9, 10, 11, 12] (fun s6 s7 s8 _ _ _ _ wr => ∃ j : Nat, s8 = .int .i64 (j : Int) ∧ 0 ≤ j ∧ j ≤ n.cells.length ∧ ((j = 0 ∧ s6 = .int .i64 (-1) ∧ s7 = .int .i64 0) ∨ (0 < j ∧ ∃ bp lv : Nat, s6 = .int .i64 (bp : Int) ∧ s7 = .int .i64 (lv : Int) ∧ Hid (bp = n.seek j) ∧ Hid (lv = n.odd (n.seek j)))) ∧ Hid (Below w3.heap.size w3 wr)) (fun _ _ s8 _ _ _ _ _ => n.cells.length - (intOf s8).toNat)
      case atStart => exact ⟨0, rfl, by omega, by omega, Or.inl ⟨rfl, rfl, rfl⟩, Lib.hid (Below.refl _ _)⟩
      case round =>
        obtain ⟨j, rfl, hj0, hj, hst, hbw⟩ := hrel
        obtain ⟨wz, hwz⟩ : ∃ wz : World, wz = wr := ⟨_, rfl⟩
        subst hwz
        clear x0 x1 x2
        obtain ⟨x0, x1, x2⟩ := HKEEP.out _ hbw.out
        by_cases hjl : j < n.cells.length
        · have a1 : (j : Int) < (n.cells.length : Int) := by omega
          have a0 : (0 : Int) ≤ (j : Int) := by omega
          obtain ⟨c, hcj⟩ : ∃ c, n.cells[j]? = some c := ⟨_, List.getElem?_eq_getElem hjl⟩
          have cA := refat_any n _ j c wz (HNN.out _ hbw.out) hcj (by omega) (by omega)
          have hsa := first_small' HSM.out j
          have hsb := second_small' HSM.out j
          have hod : n.odd j = max ((n.first j).by.length - (n.second j).by.length) ((n.second j).by.length - (n.first j).by.length) := rfl
          obtain ⟨pa, hpa⟩ : ∃ p, p = n.first j := ⟨_, rfl⟩
          obtain ⟨pb, hpb⟩ : ∃ p, p = n.second j := ⟨_, rfl⟩
          rw [← hpa, ← hpb] at cA hod
          rw [← hpa] at hsa
          rw [← hpb] at hsb
          have HSA := Lib.hid hsa
          have HSB := Lib.hid hsb
          have HOD := Lib.hid hod
          clear hpa hpb hsa hsb hod hcj
          go_upto_region 10 with fail
          go_wp2_with fail
          refine cA.mono ?_
          rintro e wa ⟨va, vb, rfl, hna, hnb, hba⟩
          obtain ⟨vca, vka, rfl, hca, hka⟩ := id hna
          obtain ⟨A7, c7, rfl, -, -⟩ := hca.slice
          obtain ⟨A7', c7', rfl, -, -⟩ := hka.slice
          obtain ⟨vcb, vkb, rfl, hcb, hkb⟩ := id hnb
          obtain ⟨A9, c9, rfl, -, -⟩ := hcb.slice
          obtain ⟨A9', c9', rfl, -, -⟩ := hkb.slice
          obtain ⟨wd, hwd⟩ : ∃ wd, wd = (wa.alloc (.cells #[.bool pa.leaf, .slice A7 pa.cells.length c7, .slice A7' pa.kids.length c7'] 25)).alloc (.cells #[.bool pb.leaf, .slice A9 pb.cells.length c9, .slice A9' pb.kids.length c9'] 25) := ⟨_, rfl⟩
          have hbd : Below wa.heap.size wa wd := by rw [hwd]; exact ((Below.refl _ _).alloc (Nat.le_refl _) _).alloc (by simp) _
          have e1 : wd.heap[wa.heap.size]? = some (.cells #[.bool pa.leaf, .slice A7 pa.cells.length c7, .slice A7' pa.kids.length c7'] 25 (0, 0)) := by rw [hwd]; exact (heap_alloc_old _ _ (by simp)).trans (heap_alloc_new wa _)
          have e2 : wd.heap[wa.heap.size + 1]? = some (.cells #[.bool pb.leaf, .slice A9 pb.cells.length c9, .slice A9' pb.kids.length c9'] 25 (0, 0)) := by
            rw [hwd]
            have := heap_alloc_new (wa.alloc (.cells #[.bool pa.leaf, .slice A7 pa.cells.length c7, .slice A7' pa.kids.length c7'] 25)) (.cells #[.bool pb.leaf, .slice A9 pb.cells.length c9, .slice A9' pb.kids.length c9'] 25)
            simpa using this
          have l1 := (Array.getElem?_eq_some_iff.1 e1).1
          have l2 := (Array.getElem?_eq_some_iff.1 e2).1
          have hb3a : Below w3.heap.size w3 wa := hbw.out.trans (Joins.below_le hba hbw.out.size)
          have hb3d : Below w3.heap.size w3 wd := hb3a.trans (Joins.below_le hbd hb3a.size)
          have hS : ∀ W, Below wd.heap.size wd W → (W.cell? ⟨wa.heap.size, 0, none⟩ = some (.bool pa.leaf) ∧ W.cell? ⟨wa.heap.size, 1, none⟩ = some (.slice A7 pa.cells.length c7) ∧ W.cell? ⟨wa.heap.size, 2, none⟩ = some (.slice A7' pa.kids.length c7')) ∧ (W.cell? ⟨wa.heap.size + 1, 0, none⟩ = some (.bool pb.leaf) ∧ W.cell? ⟨wa.heap.size + 1, 1, none⟩ = some (.slice A9 pb.cells.length c9) ∧ W.cell? ⟨wa.heap.size + 1, 2, none⟩ = some (.slice A9' pb.kids.length c9')) := fun W hW => by
            have f1 := (hW.block _ l1).trans e1
            have f2 := (hW.block _ l2).trans e2
            exact ⟨⟨(row_cells f1).1 0, (row_cells f1).1 1, (row_cells f1).1 2⟩, ⟨(row_cells f2).1 0, (row_cells f2).1 1, (row_cells f2).1 2⟩⟩
          have hV : ∀ W, Below wd.heap.size wd W → NodeN W Any (.agg #[.bool pa.leaf, .slice A7 pa.cells.length c7, .slice A7' pa.kids.length c7']) pa ∧ NodeN W Any (.agg #[.bool pb.leaf, .slice A9 pb.cells.length c9, .slice A9' pb.kids.length c9']) pb ∧ Below w3.heap.size w3 W := fun W hW =>
            ⟨(hna.any.grow hbd).grow hW, (hnb.any.grow hbd).grow hW, hb3d.trans (Joins.below_le hW hb3d.size)⟩
          have HS := Lib.hid hS
          have HV := Lib.hid hV
          have HWD := Lib.hid hwd
          clear cA hna hnb hca hka hcb hkb hba hwd hbd e1 e2 l1 l2 hb3a hb3d hS hV hbw x0 x1 x2
          go_upto_region 11 with fail
          rw [← HWD.out]
          have hbe : Below wd.heap.size wd wd.drew := (Below.refl _ _).drew
          have hsd := HS.out _ hbe
          have TOK : Hid True := Lib.hid trivial
          obtain ⟨X, hX⟩ : ∃ X, X = pa.by.length := ⟨_, rfl⟩
          obtain ⟨Y, hY⟩ : ∃ Y, Y = pb.by.length := ⟨_, rfl⟩
          have hXb : X ≤ 21010011 := by rw [hX]; exact PN.by_le HSA.out
          have hYb : Y ≤ 21010011 := by rw [hY]; exact PN.by_le HSB.out
          obtain ⟨D, hD⟩ : ∃ D, D = n.odd j := ⟨_, rfl⟩
          have hDX : D = max (X - Y) (Y - X) := by rw [hD, HOD.out, hX, hY]
          have HD := Lib.hid hD
          have HX := Lib.hid hX
          have HY := Lib.hid hY
          have hDb : D ≤ 21010011 := by omega
          clear hX hY hD
          by_cases hxy : Y ≤ X
          · have hDe : (X : Int) - (Y : Int) = (D : Int) := by omega
            clear hDX
            have hw1 : wrap64 ((X : Int) - (Y : Int)) = (D : Int) := by unfold wrap64; omega
            have hw2 : IntKind.i64.wrap ((X : Int) - (Y : Int)) = (D : Int) := by rw [IntKind.wrap_i64]; omega
            clear hDe hxy
            go_region_held3 (fun W => (W.cell? ⟨wa.heap.size, 0, none⟩ = some (.bool pa.leaf) ∧ W.cell? ⟨wa.heap.size, 1, none⟩ = some (.slice A7 pa.cells.length c7) ∧ W.cell? ⟨wa.heap.size, 2, none⟩ = some (.slice A7' pa.kids.length c7')) ∧ (W.cell? ⟨wa.heap.size + 1, 0, none⟩ = some (.bool pb.leaf) ∧ W.cell? ⟨wa.heap.size + 1, 1, none⟩ = some (.slice A9 pb.cells.length c9) ∧ W.cell? ⟨wa.heap.size + 1, 2, none⟩ = some (.slice A9' pb.kids.length c9'))) (first | with_reducible exact hsd | exact HS.out _ hbe)
              (first
                | (go_at_call 30; have htok := TOK.out; refine (xbytes_any pa _ _ (HV.out _ hbe).1 HSA.out).mono ?_; rintro e wy ⟨vx, rfl, hrd, hby⟩; obtain ⟨Ax, cx, rfl, -⟩ := hrd; rw [← HX.out]; replace hbe := hbe.trans (Joins.below_le hby hbe.size); clear hby htok TOK)
                | (go_at_call 30; refine (xbytes_any pb _ _ (HV.out _ hbe).2.1 HSB.out).mono ?_; rintro e wy ⟨vx, rfl, hrd, hby⟩; obtain ⟨Ax2, cx2, rfl, -⟩ := hrd; rw [← HY.out]; replace hbe := hbe.trans (Joins.below_le hby hbe.size); clear hby))
            obtain ⟨ws, hws⟩ : ∃ ws, ws = wy := ⟨_, rfl⟩
            rw [← hws] at hbe ⊢
            have HBE := Lib.hid (HV.out _ hbe).2.2
            clear hsd hws hbe hw1 hw2
            have g1 : ¬ (D : Int) < 0 := by omega
            rcases hst with ⟨hjF, rfl, rfl⟩ | ⟨hjF, bp, lv, rfl, rfl, hbp, hlv⟩
            · have hu : n.seek (j + 1) = j := by have h9 := seek_first n; rw [HF.out] at h9; rw [hjF]; exact h9
              have HU := Lib.hid hu
              clear hu
              go_wp2_with fail
              try clear a0
              exact ⟨⟨j + 1, by go_num, by omega, by omega, Or.inr ⟨by omega, j, D, rfl, rfl, Lib.hid HU.out.symm, Lib.hid (by rw [HU.out, HD.out])⟩, HBE⟩, by simp [intOf]; omega⟩
            · have hFj : n.from' < j := by rw [HF.out]; omega
              have hup := seek_step n hFj
              have HBP := Lib.hid hbp.out
              have HLV := Lib.hid hlv.out
              by_cases hdl : D < lv
              · have hu : n.seek (j + 1) = j := by rw [hup, if_pos (by rw [← HD.out, ← HLV.out]; exact hdl)]
                have HU := Lib.hid hu
                have d1 : (D : Int) < (lv : Int) := by omega
                have d2 : ¬ (bp : Int) < 0 := by omega
                clear hu hup hFj hbp hlv
                go_wp2_with fail
                try clear a0
                exact ⟨⟨j + 1, by go_num, by omega, by omega, Or.inr ⟨by omega, j, D, rfl, rfl, Lib.hid HU.out.symm, Lib.hid (by rw [HU.out, HD.out])⟩, HBE⟩, by simp [intOf]; omega⟩
              · have hu : n.seek (j + 1) = n.seek j := by rw [hup, if_neg (by rw [← HD.out, ← HLV.out]; exact hdl)]
                have HU := Lib.hid hu
                have d1 : ¬ (D : Int) < (lv : Int) := by omega
                have d2 : ¬ (bp : Int) < 0 := by omega
                clear hu hup hFj hbp hlv
                go_wp2_with fail
                try clear a0
                exact ⟨⟨j + 1, by go_num, by omega, by omega, Or.inr ⟨by omega, bp, lv, rfl, rfl, Lib.hid (HBP.out.trans HU.out.symm), Lib.hid (by rw [HU.out]; exact HLV.out)⟩, HBE⟩, by simp [intOf]; omega⟩
          · have hDe : (X : Int) - (Y : Int) = -(D : Int) := by omega
            have hDp : 0 < D := by omega
            clear hDX
            have hw1 : wrap64 ((X : Int) - (Y : Int)) = -(D : Int) := by unfold wrap64; omega
            have hw2 : IntKind.i64.wrap ((X : Int) - (Y : Int)) = -(D : Int) := by rw [IntKind.wrap_i64]; omega
            clear hDe hxy
            go_region_held3 (fun W => (W.cell? ⟨wa.heap.size, 0, none⟩ = some (.bool pa.leaf) ∧ W.cell? ⟨wa.heap.size, 1, none⟩ = some (.slice A7 pa.cells.length c7) ∧ W.cell? ⟨wa.heap.size, 2, none⟩ = some (.slice A7' pa.kids.length c7')) ∧ (W.cell? ⟨wa.heap.size + 1, 0, none⟩ = some (.bool pb.leaf) ∧ W.cell? ⟨wa.heap.size + 1, 1, none⟩ = some (.slice A9 pb.cells.length c9) ∧ W.cell? ⟨wa.heap.size + 1, 2, none⟩ = some (.slice A9' pb.kids.length c9'))) (first | with_reducible exact hsd | exact HS.out _ hbe)
              (first
                | (go_at_call 30; have htok := TOK.out; refine (xbytes_any pa _ _ (HV.out _ hbe).1 HSA.out).mono ?_; rintro e wy ⟨vx, rfl, hrd, hby⟩; obtain ⟨Ax, cx, rfl, -⟩ := hrd; rw [← HX.out]; replace hbe := hbe.trans (Joins.below_le hby hbe.size); clear hby htok TOK)
                | (go_at_call 30; refine (xbytes_any pb _ _ (HV.out _ hbe).2.1 HSB.out).mono ?_; rintro e wy ⟨vx, rfl, hrd, hby⟩; obtain ⟨Ax2, cx2, rfl, -⟩ := hrd; rw [← HY.out]; replace hbe := hbe.trans (Joins.below_le hby hbe.size); clear hby))
            obtain ⟨ws, hws⟩ : ∃ ws, ws = wy := ⟨_, rfl⟩
            rw [← hws] at hbe ⊢
            have HBE := Lib.hid (HV.out _ hbe).2.2
            clear hsd hws hbe hw1 hw2
            have g1 : -(D : Int) < 0 := by omega
            have g2 : wrap64 (-(-(D : Int))) = (D : Int) := by unfold wrap64; omega
            have g3 : IntKind.i64.wrap (-(-(D : Int))) = (D : Int) := by rw [IntKind.wrap_i64]; omega
            have g4 : IntKind.i64.wrap (D : Int) = (D : Int) := by rw [IntKind.wrap_i64]; omega
            rcases hst with ⟨hjF, rfl, rfl⟩ | ⟨hjF, bp, lv, rfl, rfl, hbp, hlv⟩
            · have hu : n.seek (j + 1) = j := by have h9 := seek_first n; rw [HF.out] at h9; rw [hjF]; exact h9
              have HU := Lib.hid hu
              clear hu
              go_wp2_with fail
              try clear g2 g3 g4
              exact ⟨⟨j + 1, by go_num, by omega, by omega, Or.inr ⟨by omega, j, D, rfl, rfl, Lib.hid HU.out.symm, Lib.hid (by rw [HU.out, HD.out])⟩, HBE⟩, by simp [intOf]; omega⟩
            · have hFj : n.from' < j := by rw [HF.out]; omega
              have hup := seek_step n hFj
              have HBP := Lib.hid hbp.out
              have HLV := Lib.hid hlv.out
              by_cases hdl : D < lv
              · have hu : n.seek (j + 1) = j := by rw [hup, if_pos (by rw [← HD.out, ← HLV.out]; exact hdl)]
                have HU := Lib.hid hu
                have d1 : (D : Int) < (lv : Int) := by omega
                have d2 : ¬ (bp : Int) < 0 := by omega
                clear hu hup hFj hbp hlv
                go_wp2_with fail
                try clear g2 g3 g4
                exact ⟨⟨j + 1, by go_num, by omega, by omega, Or.inr ⟨by omega, j, D, rfl, rfl, Lib.hid HU.out.symm, Lib.hid (by rw [HU.out, HD.out])⟩, HBE⟩, by simp [intOf]; omega⟩
              · have hu : n.seek (j + 1) = n.seek j := by rw [hup, if_neg (by rw [← HD.out, ← HLV.out]; exact hdl)]
                have HU := Lib.hid hu
                have d1 : ¬ (D : Int) < (lv : Int) := by omega
                have d2 : ¬ (bp : Int) < 0 := by omega
                clear hu hup hFj hbp hlv
                go_wp2_with fail
                try clear g2 g3 g4
                exact ⟨⟨j + 1, by go_num, by omega, by omega, Or.inr ⟨by omega, bp, lv, rfl, rfl, Lib.hid (HBP.out.trans HU.out.symm), Lib.hid (by rw [HU.out]; exact HLV.out)⟩, HBE⟩, by simp [intOf]; omega⟩
        · have a1 : ¬ (j : Int) < (n.cells.length : Int) := by omega
          have hje : j = n.cells.length := by omega
          rcases hst with ⟨h9, -, -⟩ | ⟨-, bp, lv, rfl, rfl, hbp, -⟩
          · omega
          have hbP : bp = P := by rw [hbp.out, hje, HUP.out]
          subst hbP
          have cA := refat_any n _ bp cP wz (HNN.out _ hbw.out) HCP.out (by omega) (by omega)
          clear hje hbp
          go_wp2_with fail
          refine cA.mono ?_
          rintro e wa ⟨va, vb, rfl, hna, hnb, hba⟩
          obtain ⟨vca, vka, rfl, hca, hka⟩ := id hna
          obtain ⟨A7, c7, rfl, -, -⟩ := hca.slice
          obtain ⟨A7', c7', rfl, -, -⟩ := hka.slice
          obtain ⟨vcb, vkb, rfl, hcb, hkb⟩ := id hnb
          obtain ⟨A9, c9, rfl, -, -⟩ := hcb.slice
          obtain ⟨A9', c9', rfl, -, -⟩ := hkb.slice
          have hb3a : Below w3.heap.size w3 wa := hbw.out.trans (Joins.below_le hba hbw.out.size)
          have hsz := hbw.out.size
          clear cA hca hka hcb hkb hba hbw x0 x1 x2
          obtain ⟨⟨r0, r1, r2⟩, ⟨r3, r4, r5⟩, ⟨r6, r7, r8⟩, r9, r10, r11⟩ := HRES.out wa hb3a
          obtain ⟨k1, k2, k3⟩ := HEND.out wa hb3a (.bool (n.first bp).leaf) (.slice A7 (n.first bp).cells.length c7) (.slice A7' (n.first bp).kids.length c7') (.bool (n.second bp).leaf) (.slice A9 (n.second bp).cells.length c9) (.slice A9' (n.second bp).kids.length c9')
          obtain ⟨w6, hw6⟩ : ∃ w6, w6 = ((((((wa.setCell ⟨w.heap.size + 1, 0, none⟩ (.bool (n.first bp).leaf)).setCell ⟨w.heap.size + 1, 1, none⟩ (.slice A7 (n.first bp).cells.length c7)).setCell ⟨w.heap.size + 1, 2, none⟩ (.slice A7' (n.first bp).kids.length c7')).setCell ⟨w.heap.size + 2, 0, none⟩ (.bool (n.second bp).leaf)).setCell ⟨w.heap.size + 2, 1, none⟩ (.slice A9 (n.second bp).cells.length c9)).setCell ⟨w.heap.size + 2, 2, none⟩ (.slice A9' (n.second bp).kids.length c9')) := ⟨_, rfl⟩
          rw [← hw6] at k1 k2 k3
          have hn6a : NodeN w6 (fun b => w.heap.size ≤ b) (.agg #[.bool (n.first bp).leaf, .slice A7 (n.first bp).cells.length c7, .slice A7' (n.first bp).kids.length c7']) (n.first bp) := by rw [hw6]; exact six_node hna (by omega) (by omega) (by omega)
          have hn6b : NodeN w6 (fun b => w.heap.size ≤ b) (.agg #[.bool (n.second bp).leaf, .slice A9 (n.second bp).cells.length c9, .slice A9' (n.second bp).kids.length c9']) (n.second bp) := by rw [hw6]; exact six_node hnb (by omega) (by omega) (by omega)
          have q0 : w6.cell? ⟨w.heap.size + 1, 0, none⟩ = some (.bool (n.first bp).leaf) := (row_cells k1).1 0
          have q1 : w6.cell? ⟨w.heap.size + 1, 1, none⟩ = some (.slice A7 (n.first bp).cells.length c7) := (row_cells k1).1 1
          have q2 : w6.cell? ⟨w.heap.size + 1, 2, none⟩ = some (.slice A7' (n.first bp).kids.length c7') := (row_cells k1).1 2
          have q3 : w6.cell? ⟨w.heap.size + 2, 0, none⟩ = some (.bool (n.second bp).leaf) := (row_cells k2).1 0
          have q4 : w6.cell? ⟨w.heap.size + 2, 1, none⟩ = some (.slice A9 (n.second bp).cells.length c9) := (row_cells k2).1 1
          have q5 : w6.cell? ⟨w.heap.size + 2, 2, none⟩ = some (.slice A9' (n.second bp).kids.length c9') := (row_cells k2).1 2
          have HN6A := Lib.hid hn6a
          have HN6B := Lib.hid hn6b
          have HB6 := Lib.hid k3
          have HW6 := Lib.hid hw6
          clear k1 k2 k3 hn6a hn6b hw6 hna hnb
          go_wp2_with fail
          rw [← HW6.out]
          refine bodyPost_ret (v := .tuple #[.agg #[.bool (n.first bp).leaf, .slice A7 (n.first bp).cells.length c7, .slice A7' (n.first bp).kids.length c7'], .string cP.key, .agg #[.bool (n.second bp).leaf, .slice A9 (n.second bp).cells.length c9, .slice A9' (n.second bp).kids.length c9']]) (by clear r0 r1 r2 r3 r4 r5 r6 r7 r8 r9 r10 r11; rw [results_ctc rfl]; go_simp; try rfl) rfl ?_
          rw [HCUT.out]
          exact ⟨_, _, rfl, HN6A.out, HN6B.out, HB6.out⟩
end Go.Proofs.Ytedcknlafkokkaa
