/-
  NodeHalves, walked. No condition.
-/
import Derived.Test.YtikkeenjalghmaaNBig
import Derived.Test.YtikkeenjalghmaaNJoin
import Derived.Test.YtikkeenjalghmaaNBack
namespace Go.Proofs.Ytikkeenjalghmaa
open Go.RowKit

theorem NodeN.fst {w : World} {N : Nat → Prop} {b : Bool} {x y : Value} {n : PN} (h : NodeN w N (.agg #[.bool b, x, y]) n) : CsN w N x n.cells := by
  obtain ⟨vc, vk, he, h1, -⟩ := h
  injection he with he
  have e1 : (#[Value.bool b, x, y] : Array Value)[1]? = (#[Value.bool n.leaf, vc, vk] : Array Value)[1]? := by rw [he]
  have e2 : x = vc := by simpa using e1
  rw [e2]
  exact h1
theorem cut_small {n : PN} (h : n.cells.length ≤ n.from') : n.cut = (n, ⟨#[]⟩, PN.zero) := by unfold PN.cut; rw [if_pos h]
theorem cut_big {n : PN} (h : ¬ n.cells.length ≤ n.from') : n.cut = (n.first n.place, keyAt n.cells n.place, n.second n.place) := by unfold PN.cut; rw [if_neg h]
theorem first_small {n : PN} (h : n.small) (i : Nat) : (n.first i).small := by
  unfold PN.first
  split
  · exact ⟨by show (n.cells.take i).length ≤ _; rw [List.length_take]; have := h.cells; omega, by simp, fun c hc => h.each c (List.mem_of_mem_take hc)⟩
  · exact ⟨by show (n.cells.take i).length ≤ _; rw [List.length_take]; have := h.cells; omega, by show (n.kids.take _).length ≤ _; rw [List.length_take]; have := h.kids; omega, fun c hc => h.each c (List.mem_of_mem_take hc)⟩
theorem second_small {n : PN} (h : n.small) (i : Nat) : (n.second i).small := by
  unfold PN.second
  split
  · exact ⟨by show (n.cells.drop i).length ≤ _; rw [List.length_drop]; have := h.cells; omega, by simp, fun c hc => h.each c (List.mem_of_mem_drop hc)⟩
  · exact ⟨by show (n.cells.drop _).length ≤ _; rw [List.length_drop]; have := h.cells; omega, by show (n.kids.drop _).length ≤ _; rw [List.length_drop]; have := h.kids; omega, fun c hc => h.each c (List.mem_of_mem_drop hc)⟩
theorem large_hundred {n : PN} (h : false = n.large) : n.cells.length ≤ 100 := by
  unfold PN.large at h
  have h := h.symm
  rw [Bool.or_eq_false_iff, Bool.or_eq_false_iff] at h
  have := of_decide_eq_false h.2.1
  omega
set_option maxHeartbeats 8000000 in
set_option maxRecDepth 1000000 in
theorem nodehalves_walk (n : PN) (v : Value) (w : World) (h : NodeN w Any v n) (hs : ∀ c ∈ n.cells, c.key.size ≤ 140737488355328 ∧ c.val.size ≤ 140737488355328) (hl : n.cells.length ≤ 140737488355328) (hk : n.kids.length ≤ 140737488355328) :
    Calls Try.prog 6 #[v] w fun e w' => e = .returned (.bool true) ∧ Below w.heap.size w w' := by
  obtain ⟨vc, vk, rfl, hc, hk'⟩ := id h
  obtain ⟨Ac, cc, rfl, -, -⟩ := hc.slice
  obtain ⟨Ak, ck, rfl, -, -⟩ := hk'.slice
  obtain ⟨lf, hlf⟩ : ∃ lf, lf = n.leaf := ⟨_, rfl⟩
  rw [← hlf] at h ⊢
  obtain ⟨w1, hw1⟩ : ∃ w1, w1 = w.alloc (.cells #[.bool lf, .slice Ac n.cells.length cc, .slice Ak n.kids.length ck] 25) := ⟨_, rfl⟩
  have hb1 : Below w.heap.size w w1 := by rw [hw1]; exact (Below.refl _ _).alloc (Nat.le_refl _) _
  have hx1 : w1.heap[w.heap.size]? = some (.cells #[.bool lf, .slice Ac n.cells.length cc, .slice Ak n.kids.length ck] 25 (0, 0)) := by rw [hw1]; exact heap_alloc_new w _
  have hl1 : w.heap.size < w1.heap.size := (Array.getElem?_eq_some_iff.1 hx1).1
  have hkeep : ∀ W, Below w1.heap.size w1 W → W.cell? ⟨w.heap.size, 0, none⟩ = some (.bool lf) ∧ W.cell? ⟨w.heap.size, 1, none⟩ = some (.slice Ac n.cells.length cc) ∧ W.cell? ⟨w.heap.size, 2, none⟩ = some (.slice Ak n.kids.length ck) := fun W hW => by
    have e := (hW.block _ hl1).trans hx1
    exact ⟨(row_cells e).1 0, (row_cells e).1 1, (row_cells e).1 2⟩
  have hnode : ∀ W, Below w1.heap.size w1 W → NodeN W Any (.agg #[.bool lf, .slice Ac n.cells.length cc, .slice Ak n.kids.length ck]) n := fun W hW => h.grow (hb1.trans (Joins.below_le hW hb1.size))
  have hcells : ∀ W, Below w1.heap.size w1 W → CsN W Any (.slice Ac n.cells.length cc) n.cells := fun W hW => hc.grow (hb1.trans (Joins.below_le hW hb1.size))
  have cL := large_any n _ w1 (hnode _ (Below.refl _ _)) hs hl hk
  have HKEEP := Lib.hid hkeep
  have HNODE := Lib.hid hnode
  have HCELLS := Lib.hid hcells
  have HB1 := Lib.hid hb1
  have HW1 := Lib.hid hw1
  have HLF := Lib.hid hlf
  obtain ⟨T, hT⟩ : ∃ T, T = n.large := ⟨_, rfl⟩
  rw [← hT] at cL
  have HT := Lib.hid hT
  obtain ⟨x0, x1, x2⟩ := hkeep w1 (Below.refl _ _)
  clear hc hk' h hs hl hk hw1 hb1 hx1 hl1 hkeep hnode hcells hT hlf
  go_enter Try.func6, Try.ntmps6
  go_upto_region 1 with fail
  rw [← HW1.out]
  go_wp2_with fail
  refine cL.mono ?_
  rintro e w2 ⟨rfl, hb2⟩
  clear cL x0 x1 x2
  have cA := awake_any w2
  have HB2 := Lib.hid hb2
  clear hb2
  have hfin : ∀ W, Below w1.heap.size w1 W → Below w.heap.size w W := fun W hW => HB1.out.trans (Joins.below_le hW HB1.out.size)
  have HFIN := Lib.hid hfin
  clear hfin
  cases T with
  | true =>
    go_wp2_with fail
    refine cA.mono ?_
    rintro e w3 ⟨rfl, hb3⟩
    have HF := Lib.hid (HFIN.out _ (HB2.out.trans (Joins.below_le hb3 HB2.out.size)))
    clear cA hb3
    go_wp2_with fail
    go_ret
    exact ⟨rfl, HF.out⟩
  | false =>
    have hsm : n.small := large_no HT.out.symm
    have h100 : n.cells.length ≤ 100 := large_hundred HT.out
    go_wp2_with fail
    refine cA.mono ?_
    rintro e w3 ⟨rfl, hb3⟩
    have hb13 := HB2.out.trans (Joins.below_le hb3 HB2.out.size)
    have HB13 := Lib.hid hb13
    obtain ⟨x0, x1, x2⟩ := HKEEP.out _ hb13
    have cG := given_any n _ w3 (HNODE.out _ hb13) hsm.cells hsm.kids
    clear cA hb3 hb13
    go_wp2_with fail
    refine cG.mono ?_
    rintro e w4 ⟨v4, rfl, ho4, hb4⟩
    have hn4 : NodeN w4 Any v4 n := ho4.node.any
    obtain ⟨A4, c4, A4', c4', rfl, -, -⟩ := id ho4
    rw [← HLF.out] at hn4 ⊢
    obtain ⟨w5, hw5⟩ : ∃ w5, w5 = w4.alloc (.cells #[.bool lf, .slice A4 n.cells.length c4, .slice A4' n.kids.length c4'] 31) := ⟨_, rfl⟩
    have hb5 : Below w4.heap.size w4 w5 := by rw [hw5]; exact (Below.refl _ _).alloc (Nat.le_refl _) _
    have hx5 : w5.heap[w4.heap.size]? = some (.cells #[.bool lf, .slice A4 n.cells.length c4, .slice A4' n.kids.length c4'] 31 (0, 0)) := by rw [hw5]; exact heap_alloc_new w4 _
    have hl5 : w4.heap.size < w5.heap.size := (Array.getElem?_eq_some_iff.1 hx5).1
    have hb14 := HB13.out.trans (Joins.below_le hb4 HB13.out.size)
    have hb15 := hb14.trans (Joins.below_le hb5 hb14.size)
    have hin : ∀ W, Below w5.heap.size w5 W → (W.cell? ⟨w4.heap.size, 0, none⟩ = some (.bool lf) ∧ W.cell? ⟨w4.heap.size, 1, none⟩ = some (.slice A4 n.cells.length c4) ∧ W.cell? ⟨w4.heap.size, 2, none⟩ = some (.slice A4' n.kids.length c4')) ∧ NodeN W Any (.agg #[.bool lf, .slice A4 n.cells.length c4, .slice A4' n.kids.length c4']) n ∧ Below w1.heap.size w1 W := fun W hW => by
      have e := (hW.block _ hl5).trans hx5
      exact ⟨⟨(row_cells e).1 0, (row_cells e).1 1, (row_cells e).1 2⟩, (hn4.grow hb5).grow hW, hb15.trans (Joins.below_le hW hb15.size)⟩
    have HIN := Lib.hid hin
    have HW5 := Lib.hid hw5
    clear cG ho4 hb4 hn4 hw5 hb5 hx5 hl5 hb14 hb15 hin x0 x1 x2
    go_upto_region 4 with fail
    rw [← HW5.out]
    obtain ⟨⟨i0, i1, i2⟩, hn5, hb15⟩ := HIN.out _ (Below.refl _ _)
    have cC := check_any n _ w5 hn5 (by omega)
    obtain ⟨ck', hck⟩ : ∃ b, b = n.chk := ⟨_, rfl⟩
    rw [← hck] at cC
    have HCK := Lib.hid hck
    clear hn5 hb15 hck
    go_wp2_with fail
    refine cC.mono ?_
    rintro e w6 ⟨rfl, hb6⟩
    have HB56 := Lib.hid hb6
    clear cC hb6 i0 i1 i2
    cases ck' with
    | false =>
      have HF := Lib.hid (HFIN.out _ (HIN.out _ HB56.out).2.2)
      go_wp2_with fail
      go_ret
      exact ⟨rfl, HF.out⟩
    | true =>
      have hmay : n.may := n.chk_iff.1 HCK.out.symm
      have HMAY := Lib.hid hmay
      have HSM := Lib.hid hsm
      clear hmay hsm
      go_wp2_with fail
      go_loopw [4, 5, 6] (fun s4 _ _ wr => ∃ i : Nat, s4 = .int .i64 (i : Int) ∧ i ≤ n.cells.length ∧ Hid (Below w5.heap.size w5 wr)) (fun s4 _ _ _ => n.cells.length - (intOf s4).toNat)
      case atStart => exact ⟨0, rfl, Nat.zero_le _, HB56⟩
      case round =>
        clear HB56
        obtain ⟨i, rfl, hi, hbw⟩ := hrel
        obtain ⟨wz, hwz⟩ : ∃ wz : World, wz = wr := ⟨_, rfl⟩
        subst hwz
        obtain ⟨⟨i0, i1, i2⟩, hnz, hbz⟩ := HIN.out _ hbw.out
        obtain ⟨x0, x1, x2⟩ := HKEEP.out _ hbz
        by_cases hil : i < n.cells.length
        · have a1 : (i : Int) < (n.cells.length : Int) := by omega
          have a0 : (0 : Int) ≤ (i : Int) := by omega
          obtain ⟨c, hci⟩ : ∃ c, n.cells[i]? = some c := ⟨_, List.getElem?_eq_getElem hil⟩
          obtain ⟨b, o, n', k', hv, -, hbs, c0, c1, c2, c3⟩ := (HCELLS.out _ hbz).cell hci
          injection hv with e1 e2 e3
          subst e1 e2 e3
          have hfk := find_key HMAY.out hci
          have HFK := Lib.hid hfk
          have hS : ∀ W, Below wz.heap.size wz W → (W.cell? ⟨w4.heap.size, 0, none⟩ = some (.bool lf) ∧ W.cell? ⟨w4.heap.size, 1, none⟩ = some (.slice A4 n.cells.length c4) ∧ W.cell? ⟨w4.heap.size, 2, none⟩ = some (.slice A4' n.kids.length c4')) ∧ W.cell? ⟨w.heap.size, 1, none⟩ = some (.slice (some ⟨b, o, none⟩) n.cells.length cc) ∧ W.cell? ⟨b, o + i * 4, none⟩ = some (.string c.key) := fun W hW => by
            have hW5 := hbw.out.trans (Joins.below_le hW hbw.out.size)
            obtain ⟨h1, -, h3⟩ := HIN.out _ hW5
            exact ⟨h1, (HKEEP.out _ h3).2.1, (hW.cell (p := ⟨b, o + i * 4, none⟩) hbs).trans c0⟩
          have HS := Lib.hid hS
          clear hfk hS c1 c2 c3 c0 hci i0 i1 i2 x0 x2 hnz hbz
          go_upto_region 9 with fail
          have hbe : Below wz.heap.size wz wz.drew := (Below.refl _ _).drew
          have hst := HS.out _ hbe
          go_region_held3 (fun w' => (w'.cell? ⟨w4.heap.size, 0, none⟩ = some (.bool lf) ∧ w'.cell? ⟨w4.heap.size, 1, none⟩ = some (.slice A4 n.cells.length c4) ∧ w'.cell? ⟨w4.heap.size, 2, none⟩ = some (.slice A4' n.kids.length c4')) ∧ w'.cell? ⟨w.heap.size, 1, none⟩ = some (.slice (some ⟨b, o, none⟩) n.cells.length cc) ∧ w'.cell? ⟨b, o + i * 4, none⟩ = some (.string c.key)) (first | with_reducible exact hst | exact HS.out _ hbe)
            (first
              | (go_at_call 21; refine (find_any n c.key _ _ (HIN.out _ (hbw.out.trans (Joins.below_le hbe hbw.out.size))).2.1 (by omega)).mono ?_; rintro e wy ⟨rfl, hby⟩; rw [HFK.out]; replace hbe := hbe.trans (Joins.below_le hby hbe.size); clear hby))
          have HBN := Lib.hid (hbw.out.trans (Joins.below_le hbe hbw.out.size))
          clear hbe hst HS hbw
          go_wp2_with fail
          exact ⟨⟨i + 1, by go_num, hil, HBN⟩, by simp [intOf]; omega⟩
        · have a1 : ¬ (i : Int) < (n.cells.length : Int) := by omega
          have cT := cut_any n _ wz hnz HSM.out
          clear hnz hbz
          go_wp2_with fail
          refine cT.mono ?_
          rintro e wc ⟨va, vb, M, rfl, ⟨hoA, -⟩, hoB, hM, hbc⟩
          have hNA : NodeN wc Any va n.cut.1 := hoA.node.any
          have hNB : NodeN wc Any vb n.cut.2.2 := hoB.node.any
          obtain ⟨pa, s, pb, hcut⟩ : ∃ pa s pb, n.cut = (pa, s, pb) := ⟨_, _, _, rfl⟩
          rw [hcut] at hNA hNB hoA hoB ⊢
          dsimp only at hNA hNB hoA hoB ⊢
          obtain ⟨A7, c7, A7', c7', rfl, -, -⟩ := hoA
          obtain ⟨A9, c9, A9', c9', rfl, -, -⟩ := hoB
          obtain ⟨wd, hwd⟩ : ∃ wd, wd = (wc.alloc (.cells #[.bool pa.leaf, .slice A7 pa.cells.length c7, .slice A7' pa.kids.length c7'] 31)).alloc (.cells #[.bool pb.leaf, .slice A9 pb.cells.length c9, .slice A9' pb.kids.length c9'] 31) := ⟨_, rfl⟩
          have hbd : Below wc.heap.size wc wd := by rw [hwd]; exact ((Below.refl _ _).alloc (Nat.le_refl _) _).alloc (by simp) _
          have e1 : wd.heap[wc.heap.size]? = some (.cells #[.bool pa.leaf, .slice A7 pa.cells.length c7, .slice A7' pa.kids.length c7'] 31 (0, 0)) := by rw [hwd]; exact (heap_alloc_old _ _ (by simp)).trans (heap_alloc_new wc _)
          have e2 : wd.heap[wc.heap.size + 1]? = some (.cells #[.bool pb.leaf, .slice A9 pb.cells.length c9, .slice A9' pb.kids.length c9'] 31 (0, 0)) := by
            rw [hwd]
            have := heap_alloc_new (wc.alloc (.cells #[.bool pa.leaf, .slice A7 pa.cells.length c7, .slice A7' pa.kids.length c7'] 31)) (.cells #[.bool pb.leaf, .slice A9 pb.cells.length c9, .slice A9' pb.kids.length c9'] 31)
            simpa using this
          have l1 := (Array.getElem?_eq_some_iff.1 e1).1
          have l2 := (Array.getElem?_eq_some_iff.1 e2).1
          have hb5c : Below w5.heap.size w5 wc := hbw.out.trans (Joins.below_le hbc hbw.out.size)
          have hb5d : Below w5.heap.size w5 wd := hb5c.trans (Joins.below_le hbd hb5c.size)
          have hS : ∀ W, Below wd.heap.size wd W → (W.cell? ⟨wc.heap.size, 0, none⟩ = some (.bool pa.leaf) ∧ W.cell? ⟨wc.heap.size, 1, none⟩ = some (.slice A7 pa.cells.length c7) ∧ W.cell? ⟨wc.heap.size, 2, none⟩ = some (.slice A7' pa.kids.length c7')) ∧ (W.cell? ⟨wc.heap.size + 1, 0, none⟩ = some (.bool pb.leaf) ∧ W.cell? ⟨wc.heap.size + 1, 1, none⟩ = some (.slice A9 pb.cells.length c9) ∧ W.cell? ⟨wc.heap.size + 1, 2, none⟩ = some (.slice A9' pb.kids.length c9')) ∧ (W.cell? ⟨w.heap.size, 0, none⟩ = some (.bool lf) ∧ W.cell? ⟨w.heap.size, 1, none⟩ = some (.slice Ac n.cells.length cc) ∧ W.cell? ⟨w.heap.size, 2, none⟩ = some (.slice Ak n.kids.length ck)) := fun W hW => by
            have f1 := (hW.block _ l1).trans e1
            have f2 := (hW.block _ l2).trans e2
            exact ⟨⟨(row_cells f1).1 0, (row_cells f1).1 1, (row_cells f1).1 2⟩, ⟨(row_cells f2).1 0, (row_cells f2).1 1, (row_cells f2).1 2⟩, HKEEP.out _ (HIN.out _ (hb5d.trans (Joins.below_le hW hb5d.size))).2.2⟩
          have hV : ∀ W, Below wd.heap.size wd W → NodeN W Any (.agg #[.bool pa.leaf, .slice A7 pa.cells.length c7, .slice A7' pa.kids.length c7']) pa ∧ NodeN W Any (.agg #[.bool pb.leaf, .slice A9 pb.cells.length c9, .slice A9' pb.kids.length c9']) pb ∧ NodeN W Any (.agg #[.bool lf, .slice Ac n.cells.length cc, .slice Ak n.kids.length ck]) n ∧ Below w.heap.size w W := fun W hW => by
            have h1W := (HIN.out _ (hb5d.trans (Joins.below_le hW hb5d.size))).2.2
            exact ⟨(hNA.grow hbd).grow hW, (hNB.grow hbd).grow hW, HNODE.out _ h1W, HFIN.out _ h1W⟩
          have HS := Lib.hid hS
          have HV := Lib.hid hV
          have HWD := Lib.hid hwd
          have HCUT := Lib.hid hcut
          clear cT hNA hNB hbc hwd hbd e1 e2 l1 l2 hb5c hb5d hS hV hcut hM hbw i0 i1 i2 x0 x1 x2
          go_upto_region 13 with fail
          rw [← HWD.out]
          obtain ⟨⟨p0, p1, p2⟩, ⟨q0, q1, q2⟩, x0, x1, x2⟩ := HS.out _ (Below.refl _ _)
          have hbe : Below wd.heap.size wd wd.drew := (Below.refl _ _).drew
          have hst := HS.out _ hbe
          by_cases hfr : n.cells.length ≤ n.from'
          · have hce := HCUT.out
            rw [cut_small hfr] at hce
            injection hce with hpa hce
            injection hce with hse hpb
            subst hpa hse hpb
            have hcond : (lf = true ∧ (n.cells.length : Int) < 2) ∨ (lf = false ∧ (n.cells.length : Int) < 1) := by
              unfold PN.from' at hfr
              rw [← HLF.out] at hfr
              cases lf with
              | true => left; exact ⟨rfl, by rw [if_pos rfl] at hfr; omega⟩
              | false => right; exact ⟨rfl, by rw [if_neg (by decide)] at hfr; omega⟩
            have z0 : PN.zero.leaf = false := rfl
            have z1 : PN.zero.cells.length = 0 := rfl
            have z2 : PN.zero.kids.length = 0 := rfl
            rw [z0] at q0
            rw [z1] at q1
            rw [z2] at q2
            clear hfr HCUT
            rcases hcond with ⟨rfl, hlt⟩ | ⟨rfl, hlt⟩
            · go_upto_region 14 with fail
              go_region_held3 (fun w' => (w'.cell? ⟨wc.heap.size, 0, none⟩ = some (.bool n.leaf) ∧ w'.cell? ⟨wc.heap.size, 1, none⟩ = some (.slice A7 n.cells.length c7) ∧ w'.cell? ⟨wc.heap.size, 2, none⟩ = some (.slice A7' n.kids.length c7')) ∧ (w'.cell? ⟨wc.heap.size + 1, 0, none⟩ = some (.bool PN.zero.leaf) ∧ w'.cell? ⟨wc.heap.size + 1, 1, none⟩ = some (.slice A9 PN.zero.cells.length c9) ∧ w'.cell? ⟨wc.heap.size + 1, 2, none⟩ = some (.slice A9' PN.zero.kids.length c9')) ∧ (w'.cell? ⟨w.heap.size, 0, none⟩ = some (.bool true) ∧ w'.cell? ⟨w.heap.size, 1, none⟩ = some (.slice Ac n.cells.length cc) ∧ w'.cell? ⟨w.heap.size, 2, none⟩ = some (.slice Ak n.kids.length ck))) (first | with_reducible exact hst | exact HS.out _ hbe)
                (first
                  | (go_at_call 19; refine (back_any n _ _ (HV.out _ hbe).1 HSM.out.cells HSM.out.kids).mono ?_; rintro e wy ⟨vB, rfl, hoB, hby⟩; have HOB := Lib.hid (show NodeN wy Any vB n from hoB.node.any); replace hbe := hbe.trans (Joins.below_le hby hbe.size); clear hoB hby)
                  | (go_at_call 18; refine (same_yes n _ _ _ HOB.out (HV.out _ hbe).2.2.1 (by omega) (by have := HSM.out.kids; omega)).mono ?_; rintro e wy ⟨rfl, hby⟩; replace hbe := hbe.trans (Joins.below_le hby hbe.size); clear hby))
              have HF := Lib.hid (HV.out _ hbe).2.2.2
              clear hbe hst HS HV
              go_wp2_with fail
              go_ret
              exact ⟨rfl, HF.out⟩
            · go_upto_region 14 with fail
              go_region_held3 (fun w' => (w'.cell? ⟨wc.heap.size, 0, none⟩ = some (.bool n.leaf) ∧ w'.cell? ⟨wc.heap.size, 1, none⟩ = some (.slice A7 n.cells.length c7) ∧ w'.cell? ⟨wc.heap.size, 2, none⟩ = some (.slice A7' n.kids.length c7')) ∧ (w'.cell? ⟨wc.heap.size + 1, 0, none⟩ = some (.bool PN.zero.leaf) ∧ w'.cell? ⟨wc.heap.size + 1, 1, none⟩ = some (.slice A9 PN.zero.cells.length c9) ∧ w'.cell? ⟨wc.heap.size + 1, 2, none⟩ = some (.slice A9' PN.zero.kids.length c9')) ∧ (w'.cell? ⟨w.heap.size, 0, none⟩ = some (.bool false) ∧ w'.cell? ⟨w.heap.size, 1, none⟩ = some (.slice Ac n.cells.length cc) ∧ w'.cell? ⟨w.heap.size, 2, none⟩ = some (.slice Ak n.kids.length ck))) (first | with_reducible exact hst | exact HS.out _ hbe)
                (first
                  | (go_at_call 19; refine (back_any n _ _ (HV.out _ hbe).1 HSM.out.cells HSM.out.kids).mono ?_; rintro e wy ⟨vB, rfl, hoB, hby⟩; have HOB := Lib.hid (show NodeN wy Any vB n from hoB.node.any); replace hbe := hbe.trans (Joins.below_le hby hbe.size); clear hoB hby)
                  | (go_at_call 18; refine (same_yes n _ _ _ HOB.out (HV.out _ hbe).2.2.1 (by omega) (by have := HSM.out.kids; omega)).mono ?_; rintro e wy ⟨rfl, hby⟩; replace hbe := hbe.trans (Joins.below_le hby hbe.size); clear hby))
              have HF := Lib.hid (HV.out _ hbe).2.2.2
              clear hbe hst HS HV
              go_wp2_with fail
              go_ret
              exact ⟨rfl, HF.out⟩
          · have hce := HCUT.out
            rw [cut_big hfr] at hce
            obtain ⟨hpl, hpf⟩ := place_lt hfr
            obtain ⟨c, hcp⟩ : ∃ c, n.cells[n.place]? = some c := ⟨_, List.getElem?_eq_getElem hpl⟩
            have hkey : keyAt n.cells n.place = c.key := by unfold keyAt; rw [hcp]; rfl
            rw [hkey] at hce
            injection hce with hpa hce
            injection hce with hse hpb
            have hcond : (lf = true ∧ ¬ (n.cells.length : Int) < 2) ∨ lf = false := by
              unfold PN.from' at hfr
              rw [← HLF.out] at hfr
              cases lf with
              | true => left; exact ⟨rfl, by rw [if_pos rfl] at hfr; omega⟩
              | false => right; rfl
            have hone : ¬ (n.cells.length : Int) < 1 := by omega
            have hma : pa.may := by rw [← hpa]; exact first_may HMAY.out hpl
            have hmb : pb.may := by rw [← hpb]; exact second_may HMAY.out hpl
            have hsa : pa.small := by rw [← hpa]; exact first_small HSM.out _
            have hsb : pb.small := by rw [← hpb]; exact second_small HSM.out _
            have hjo : PN.join pa s pb = n := by rw [← hpa, ← hse, ← hpb]; exact join_halves HMAY.out hcp
            have hlow : ∀ d ∈ pa.cells, kLt d.key s = true := fun d hd => by rw [← hse]; rw [← hpa] at hd; exact first_below HMAY.out hcp hd
            have hup : ∀ d ∈ pb.cells, kLt d.key s = false := fun d hd => by rw [← hse]; rw [← hpb] at hd; exact second_not HMAY.out hcp hd
            have hod : lf = true → pa.by.length ≤ bigOf n.cells + pb.by.length ∧ pb.by.length ≤ bigOf n.cells + pa.by.length := fun hl => by
              have hll : n.leaf = true := HLF.out.symm.trans hl
              have h2 : 2 ≤ n.cells.length := by
                unfold PN.from' at hfr
                rw [hll, if_pos rfl] at hfr
                omega
              have h3 := leaf_alike hll h2 h100 (B := bigOf n.cells) fun c hc => bigOf_ge hc
              unfold PN.odd PN.wt at h3
              rw [hpa, hpb] at h3
              omega
            have HMA := Lib.hid (PN.chk_yes hma)
            have HMB := Lib.hid (PN.chk_yes hmb)
            have HSA := Lib.hid hsa
            have HSB := Lib.hid hsb
            have HJO := Lib.hid hjo
            have HLOW := Lib.hid hlow
            have HUP := Lib.hid hup
            have HOD := Lib.hid hod
            have hzA : pa.size = pa.by.length := by unfold PN.size; rw [if_pos (PN.chk_yes hma)]
            have hzB : pb.size = pb.by.length := by unfold PN.size; rw [if_pos (PN.chk_yes hmb)]
            have HZA := Lib.hid hzA
            have HZB := Lib.hid hzB
            have hac := hsa.cells
            have hak := hsa.kids
            have hbc := hsb.cells
            have hbk := hsb.kids
            clear hfr HCUT hpl hpf hcp hkey hpa hse hpb hma hmb hsa hsb hjo hlow hup hod hzA hzB
            have TOK : Hid True := Lib.hid trivial
            rcases hcond with ⟨rfl, hlt⟩ | rfl
            · go_upto_region 15 with fail
              go_region_held3 (fun w' => (w'.cell? ⟨wc.heap.size, 0, none⟩ = some (.bool pa.leaf) ∧ w'.cell? ⟨wc.heap.size, 1, none⟩ = some (.slice A7 pa.cells.length c7) ∧ w'.cell? ⟨wc.heap.size, 2, none⟩ = some (.slice A7' pa.kids.length c7')) ∧ (w'.cell? ⟨wc.heap.size + 1, 0, none⟩ = some (.bool pb.leaf) ∧ w'.cell? ⟨wc.heap.size + 1, 1, none⟩ = some (.slice A9 pb.cells.length c9) ∧ w'.cell? ⟨wc.heap.size + 1, 2, none⟩ = some (.slice A9' pb.kids.length c9')) ∧ (w'.cell? ⟨w.heap.size, 0, none⟩ = some (.bool true) ∧ w'.cell? ⟨w.heap.size, 1, none⟩ = some (.slice Ac n.cells.length cc) ∧ w'.cell? ⟨w.heap.size, 2, none⟩ = some (.slice Ak n.kids.length ck))) (first | with_reducible exact hst | exact HS.out _ hbe)
                (first
                  | (go_at_call 12; have htok := TOK.out; refine (check_any pa _ _ (HV.out _ hbe).1 (by omega)).mono ?_; rintro e wy ⟨rfl, hby⟩; rw [HMA.out]; replace hbe := hbe.trans (Joins.below_le hby hbe.size); clear hby htok TOK)
                  | (go_at_call 12; refine (check_any pb _ _ (HV.out _ hbe).2.1 (by omega)).mono ?_; rintro e wy ⟨rfl, hby⟩; rw [HMB.out]; replace hbe := hbe.trans (Joins.below_le hby hbe.size); clear hby)
                  | (go_at_call 25; refine (join_any pa pb s _ _ _ (HV.out _ hbe).1 (HV.out _ hbe).2.1 (by omega) (by omega) (by omega) (by omega)).mono ?_; rintro e wy ⟨vJ, rfl, hoJ, hby⟩; rw [HJO.out] at hoJ; have HOJ := Lib.hid (show NodeN wy Any vJ n from hoJ.node.any); replace hbe := hbe.trans (Joins.below_le hby hbe.size); clear hoJ hby)
                  | (go_at_call 19; refine (back_any n _ _ HOJ.out HSM.out.cells HSM.out.kids).mono ?_; rintro e wy ⟨vB, rfl, hoB, hby⟩; have HOB := Lib.hid (show NodeN wy Any vB n from hoB.node.any); replace hbe := hbe.trans (Joins.below_le hby hbe.size); clear hoB hby)
                  | (go_at_call 18; refine (same_yes n _ _ _ HOB.out (HV.out _ hbe).2.2.1 (by omega) (by have := HSM.out.kids; omega)).mono ?_; rintro e wy ⟨rfl, hby⟩; replace hbe := hbe.trans (Joins.below_le hby hbe.size); clear hby))
              obtain ⟨wq, hwq⟩ : ∃ wq, wq = wy := ⟨_, rfl⟩
              rw [← hwq] at hbe ⊢
              have HBE := Lib.hid hbe
              clear hbe hst hwq HOJ HOB p0 p1 p2 q0 q1 q2 x0 x1 x2
              go_wp2_with fail
              go_loopw [10] (fun s10 wr => ∃ i : Nat, s10 = .int .i64 (i : Int) ∧ i ≤ pa.cells.length ∧ Hid (Below wd.heap.size wd wr)) (fun s10 _ => pa.cells.length - (intOf s10).toNat)
              case atStart => exact ⟨0, rfl, Nat.zero_le _, HBE⟩
              case round =>
                clear HBE
                obtain ⟨i, rfl, hi, hbw⟩ := hrel
                obtain ⟨wu, hwu⟩ : ∃ wu : World, wu = wr := ⟨_, rfl⟩
                subst hwu
                obtain ⟨⟨-, p1, -⟩, -⟩ := HS.out _ hbw.out
                by_cases hil : i < pa.cells.length
                · have b1 : (i : Int) < (pa.cells.length : Int) := by omega
                  have b0 : (0 : Int) ≤ (i : Int) := by omega
                  obtain ⟨d, hdi⟩ : ∃ c, pa.cells[i]? = some c := ⟨_, List.getElem?_eq_getElem hil⟩
                  obtain ⟨b, o, n', k', hv, -, hbs, c0, c1, c2, c3⟩ := (NodeN.fst (HV.out _ hbw.out).1).cell hdi
                  injection hv with e1 e2 e3
                  subst e1 e2 e3
                  have hlt2 : Op.bytesLess d.key.toList s.toList = true := HLOW.out d (List.mem_of_getElem? hdi)
                  clear hdi c1 c2 c3
                  go_wp2_with fail
                  exact ⟨⟨i + 1, by go_num, hil, Lib.hid hbw.out⟩, by simp [intOf]; omega⟩
                · have b1 : ¬ (i : Int) < (pa.cells.length : Int) := by omega
                  have HBW := Lib.hid hbw.out
                  clear hbw
                  go_wp2_with fail
                  go_loopw [11] (fun s11 wr => ∃ j : Nat, s11 = .int .i64 (j : Int) ∧ j ≤ pb.cells.length ∧ Hid (Below wd.heap.size wd wr)) (fun s11 _ => pb.cells.length - (intOf s11).toNat)
                  case atStart => exact ⟨0, rfl, Nat.zero_le _, HBW⟩
                  case round =>
                    clear HBW p1
                    obtain ⟨j, rfl, hj, hbw⟩ := hrel
                    obtain ⟨wv, hwv⟩ : ∃ wv : World, wv = wr := ⟨_, rfl⟩
                    subst hwv
                    obtain ⟨⟨p0, p1, p2⟩, ⟨q0, q1, q2⟩, x0, x1, x2⟩ := HS.out _ hbw.out
                    by_cases hjl : j < pb.cells.length
                    · have d1 : (j : Int) < (pb.cells.length : Int) := by omega
                      have d0 : (0 : Int) ≤ (j : Int) := by omega
                      obtain ⟨d, hdi⟩ : ∃ c, pb.cells[j]? = some c := ⟨_, List.getElem?_eq_getElem hjl⟩
                      obtain ⟨b, o, n', k', hv, -, hbs, c0, c1, c2, c3⟩ := (NodeN.fst (HV.out _ hbw.out).2.1).cell hdi
                      injection hv with e1 e2 e3
                      subst e1 e2 e3
                      have hlt2 : Op.bytesLess d.key.toList s.toList = false := HUP.out d (List.mem_of_getElem? hdi)
                      clear hdi c1 c2 c3
                      go_wp2_with fail
                      exact ⟨⟨j + 1, by go_num, hjl, Lib.hid hbw.out⟩, by simp [intOf]; omega⟩
                    · have d1 : ¬ (j : Int) < (pb.cells.length : Int) := by omega
                      have hbe : Below wd.heap.size wd wv.drew := hbw.out.drew
                      have hst := HS.out _ hbe
                      have TOK : Hid True := Lib.hid trivial
                      obtain ⟨X, hX⟩ : ∃ X, X = pa.size := ⟨_, rfl⟩
                      obtain ⟨Y, hY⟩ : ∃ Y, Y = pb.size := ⟨_, rfl⟩
                      have hXb : X ≤ 21010011 := by rw [hX, HZA.out]; exact PN.by_le HSA.out
                      have hYb : Y ≤ 21010011 := by rw [hY, HZB.out]; exact PN.by_le HSB.out
                      have hb1 : X ≤ bigOf n.cells + Y := by rw [hX, hY, HZA.out, HZB.out]; exact (HOD.out (by simp)).1
                      have hb2 : Y ≤ bigOf n.cells + X := by rw [hX, hY, HZA.out, HZB.out]; exact (HOD.out (by simp)).2
                      have HX := Lib.hid hX
                      have HY := Lib.hid hY
                      have hw1 : wrap64 ((X : Int) - (Y : Int)) = (X : Int) - (Y : Int) := by unfold wrap64; omega
                      have hw2 : IntKind.i64.wrap ((X : Int) - (Y : Int)) = (X : Int) - (Y : Int) := by rw [IntKind.wrap_i64]; omega
                      clear hX hY hbw
                      go_upto_region 27 with fail
                      clear p0 p1 p2 q0 q1 q2 x0 x1 x2
                      go_region_held3 (fun w' => (w'.cell? ⟨wc.heap.size, 0, none⟩ = some (.bool pa.leaf) ∧ w'.cell? ⟨wc.heap.size, 1, none⟩ = some (.slice A7 pa.cells.length c7) ∧ w'.cell? ⟨wc.heap.size, 2, none⟩ = some (.slice A7' pa.kids.length c7')) ∧ (w'.cell? ⟨wc.heap.size + 1, 0, none⟩ = some (.bool pb.leaf) ∧ w'.cell? ⟨wc.heap.size + 1, 1, none⟩ = some (.slice A9 pb.cells.length c9) ∧ w'.cell? ⟨wc.heap.size + 1, 2, none⟩ = some (.slice A9' pb.kids.length c9')) ∧ (w'.cell? ⟨w.heap.size, 0, none⟩ = some (.bool true) ∧ w'.cell? ⟨w.heap.size, 1, none⟩ = some (.slice Ac n.cells.length cc) ∧ w'.cell? ⟨w.heap.size, 2, none⟩ = some (.slice Ak n.kids.length ck))) (first | with_reducible exact hst | exact HS.out _ hbe)
                        (first
                          | (go_at_call 14; have htok := TOK.out; refine (size_any pa _ _ (HV.out _ hbe).1 HSA.out).mono ?_; rintro e wy ⟨rfl, hby⟩; rw [← HX.out]; replace hbe := hbe.trans (Joins.below_le hby hbe.size); clear hby htok TOK)
                          | (go_at_call 14; refine (size_any pb _ _ (HV.out _ hbe).2.1 HSB.out).mono ?_; rintro e wy ⟨rfl, hby⟩; rw [← HY.out]; replace hbe := hbe.trans (Joins.below_le hby hbe.size); clear hby))
                      obtain ⟨ws, hws⟩ : ∃ ws, ws = wy := ⟨_, rfl⟩
                      rw [← hws] at hbe ⊢
                      have HBE := Lib.hid hbe
                      obtain ⟨-, -, x0, x1, x2⟩ := HS.out _ hbe
                      clear hst hws
                      have cB := biggest_any n _ ws (HV.out _ hbe).2.2.1 HLF.out.symm HMAY.out HSM.out
                      obtain ⟨Z, hZ⟩ : ∃ Z, Z = bigOf n.cells := ⟨_, rfl⟩
                      rw [← hZ] at cB hb1 hb2
                      have HZ := Lib.hid hZ
                      have h1 : (X : Int) - (Y : Int) ≤ (Z : Int) := by omega
                      have h2 : -((X : Int) - (Y : Int)) ≤ (Z : Int) := by omega
                      have h2' : (Y : Int) - (X : Int) ≤ (Z : Int) := by omega
                      have hw3 : wrap64 (-((X : Int) - (Y : Int))) = (Y : Int) - (X : Int) := by unfold wrap64; omega
                      have hw4 : IntKind.i64.wrap (-((X : Int) - (Y : Int))) = (Y : Int) - (X : Int) := by rw [IntKind.wrap_i64]; omega
                      clear hZ hbe
                      go_wp2_with fail
                      refine cB.mono ?_
                      rintro e wt ⟨rfl, hbt⟩
                      have hbe2 := HBE.out.trans (Joins.below_le hbt HBE.out.size)
                      obtain ⟨-, -, y0, y1, y2⟩ := HS.out _ hbe2
                      have cB2 := biggest_any n _ wt (HV.out _ hbe2).2.2.1 HLF.out.symm HMAY.out HSM.out
                      rw [← HZ.out] at cB2
                      have HBE2 := Lib.hid hbe2
                      clear hbt hbe2 cB x0 x1 x2
                      go_wp2_with fail
                      refine cB2.mono ?_
                      rintro e wt2 ⟨rfl, hbt⟩
                      have HF := Lib.hid (HV.out _ (HBE2.out.trans (Joins.below_le hbt HBE2.out.size))).2.2.2
                      go_wp2_with fail
                      go_ret
                      exact ⟨rfl, HF.out⟩
            · go_upto_region 15 with fail
              go_region_held3 (fun w' => (w'.cell? ⟨wc.heap.size, 0, none⟩ = some (.bool pa.leaf) ∧ w'.cell? ⟨wc.heap.size, 1, none⟩ = some (.slice A7 pa.cells.length c7) ∧ w'.cell? ⟨wc.heap.size, 2, none⟩ = some (.slice A7' pa.kids.length c7')) ∧ (w'.cell? ⟨wc.heap.size + 1, 0, none⟩ = some (.bool pb.leaf) ∧ w'.cell? ⟨wc.heap.size + 1, 1, none⟩ = some (.slice A9 pb.cells.length c9) ∧ w'.cell? ⟨wc.heap.size + 1, 2, none⟩ = some (.slice A9' pb.kids.length c9')) ∧ (w'.cell? ⟨w.heap.size, 0, none⟩ = some (.bool false) ∧ w'.cell? ⟨w.heap.size, 1, none⟩ = some (.slice Ac n.cells.length cc) ∧ w'.cell? ⟨w.heap.size, 2, none⟩ = some (.slice Ak n.kids.length ck))) (first | with_reducible exact hst | exact HS.out _ hbe)
                (first
                  | (go_at_call 12; have htok := TOK.out; refine (check_any pa _ _ (HV.out _ hbe).1 (by omega)).mono ?_; rintro e wy ⟨rfl, hby⟩; rw [HMA.out]; replace hbe := hbe.trans (Joins.below_le hby hbe.size); clear hby htok TOK)
                  | (go_at_call 12; refine (check_any pb _ _ (HV.out _ hbe).2.1 (by omega)).mono ?_; rintro e wy ⟨rfl, hby⟩; rw [HMB.out]; replace hbe := hbe.trans (Joins.below_le hby hbe.size); clear hby)
                  | (go_at_call 25; refine (join_any pa pb s _ _ _ (HV.out _ hbe).1 (HV.out _ hbe).2.1 (by omega) (by omega) (by omega) (by omega)).mono ?_; rintro e wy ⟨vJ, rfl, hoJ, hby⟩; rw [HJO.out] at hoJ; have HOJ := Lib.hid (show NodeN wy Any vJ n from hoJ.node.any); replace hbe := hbe.trans (Joins.below_le hby hbe.size); clear hoJ hby)
                  | (go_at_call 19; refine (back_any n _ _ HOJ.out HSM.out.cells HSM.out.kids).mono ?_; rintro e wy ⟨vB, rfl, hoB, hby⟩; have HOB := Lib.hid (show NodeN wy Any vB n from hoB.node.any); replace hbe := hbe.trans (Joins.below_le hby hbe.size); clear hoB hby)
                  | (go_at_call 18; refine (same_yes n _ _ _ HOB.out (HV.out _ hbe).2.2.1 (by omega) (by have := HSM.out.kids; omega)).mono ?_; rintro e wy ⟨rfl, hby⟩; replace hbe := hbe.trans (Joins.below_le hby hbe.size); clear hby))
              obtain ⟨wq, hwq⟩ : ∃ wq, wq = wy := ⟨_, rfl⟩
              rw [← hwq] at hbe ⊢
              have HBE := Lib.hid hbe
              clear hbe hst hwq HOJ HOB p0 p1 p2 q0 q1 q2 x0 x1 x2
              go_wp2_with fail
              go_loopw [10] (fun s10 wr => ∃ i : Nat, s10 = .int .i64 (i : Int) ∧ i ≤ pa.cells.length ∧ Hid (Below wd.heap.size wd wr)) (fun s10 _ => pa.cells.length - (intOf s10).toNat)
              case atStart => exact ⟨0, rfl, Nat.zero_le _, HBE⟩
              case round =>
                clear HBE
                obtain ⟨i, rfl, hi, hbw⟩ := hrel
                obtain ⟨wu, hwu⟩ : ∃ wu : World, wu = wr := ⟨_, rfl⟩
                subst hwu
                obtain ⟨⟨-, p1, -⟩, -⟩ := HS.out _ hbw.out
                by_cases hil : i < pa.cells.length
                · have b1 : (i : Int) < (pa.cells.length : Int) := by omega
                  have b0 : (0 : Int) ≤ (i : Int) := by omega
                  obtain ⟨d, hdi⟩ : ∃ c, pa.cells[i]? = some c := ⟨_, List.getElem?_eq_getElem hil⟩
                  obtain ⟨b, o, n', k', hv, -, hbs, c0, c1, c2, c3⟩ := (NodeN.fst (HV.out _ hbw.out).1).cell hdi
                  injection hv with e1 e2 e3
                  subst e1 e2 e3
                  have hlt2 : Op.bytesLess d.key.toList s.toList = true := HLOW.out d (List.mem_of_getElem? hdi)
                  clear hdi c1 c2 c3
                  go_wp2_with fail
                  exact ⟨⟨i + 1, by go_num, hil, Lib.hid hbw.out⟩, by simp [intOf]; omega⟩
                · have b1 : ¬ (i : Int) < (pa.cells.length : Int) := by omega
                  have HBW := Lib.hid hbw.out
                  clear hbw
                  go_wp2_with fail
                  go_loopw [11] (fun s11 wr => ∃ j : Nat, s11 = .int .i64 (j : Int) ∧ j ≤ pb.cells.length ∧ Hid (Below wd.heap.size wd wr)) (fun s11 _ => pb.cells.length - (intOf s11).toNat)
                  case atStart => exact ⟨0, rfl, Nat.zero_le _, HBW⟩
                  case round =>
                    clear HBW p1
                    obtain ⟨j, rfl, hj, hbw⟩ := hrel
                    obtain ⟨wv, hwv⟩ : ∃ wv : World, wv = wr := ⟨_, rfl⟩
                    subst hwv
                    obtain ⟨⟨p0, p1, p2⟩, ⟨q0, q1, q2⟩, x0, x1, x2⟩ := HS.out _ hbw.out
                    by_cases hjl : j < pb.cells.length
                    · have d1 : (j : Int) < (pb.cells.length : Int) := by omega
                      have d0 : (0 : Int) ≤ (j : Int) := by omega
                      obtain ⟨d, hdi⟩ : ∃ c, pb.cells[j]? = some c := ⟨_, List.getElem?_eq_getElem hjl⟩
                      obtain ⟨b, o, n', k', hv, -, hbs, c0, c1, c2, c3⟩ := (NodeN.fst (HV.out _ hbw.out).2.1).cell hdi
                      injection hv with e1 e2 e3
                      subst e1 e2 e3
                      have hlt2 : Op.bytesLess d.key.toList s.toList = false := HUP.out d (List.mem_of_getElem? hdi)
                      clear hdi c1 c2 c3
                      go_wp2_with fail
                      exact ⟨⟨j + 1, by go_num, hjl, Lib.hid hbw.out⟩, by simp [intOf]; omega⟩
                    · have d1 : ¬ (j : Int) < (pb.cells.length : Int) := by omega
                      have hbe : Below wd.heap.size wd wv.drew := hbw.out.drew
                      have hst := HS.out _ hbe
                      have TOK : Hid True := Lib.hid trivial
                      obtain ⟨X, hX⟩ : ∃ X, X = pa.size := ⟨_, rfl⟩
                      obtain ⟨Y, hY⟩ : ∃ Y, Y = pb.size := ⟨_, rfl⟩
                      have hXb : X ≤ 21010011 := by rw [hX, HZA.out]; exact PN.by_le HSA.out
                      have hYb : Y ≤ 21010011 := by rw [hY, HZB.out]; exact PN.by_le HSB.out
                      have HX := Lib.hid hX
                      have HY := Lib.hid hY
                      have hw1 : wrap64 ((X : Int) - (Y : Int)) = (X : Int) - (Y : Int) := by unfold wrap64; omega
                      have hw2 : IntKind.i64.wrap ((X : Int) - (Y : Int)) = (X : Int) - (Y : Int) := by rw [IntKind.wrap_i64]; omega
                      clear hX hY hbw
                      go_upto_region 27 with fail
                      clear p0 p1 p2 q0 q1 q2 x0 x1 x2
                      go_region_held3 (fun w' => (w'.cell? ⟨wc.heap.size, 0, none⟩ = some (.bool pa.leaf) ∧ w'.cell? ⟨wc.heap.size, 1, none⟩ = some (.slice A7 pa.cells.length c7) ∧ w'.cell? ⟨wc.heap.size, 2, none⟩ = some (.slice A7' pa.kids.length c7')) ∧ (w'.cell? ⟨wc.heap.size + 1, 0, none⟩ = some (.bool pb.leaf) ∧ w'.cell? ⟨wc.heap.size + 1, 1, none⟩ = some (.slice A9 pb.cells.length c9) ∧ w'.cell? ⟨wc.heap.size + 1, 2, none⟩ = some (.slice A9' pb.kids.length c9')) ∧ (w'.cell? ⟨w.heap.size, 0, none⟩ = some (.bool false) ∧ w'.cell? ⟨w.heap.size, 1, none⟩ = some (.slice Ac n.cells.length cc) ∧ w'.cell? ⟨w.heap.size, 2, none⟩ = some (.slice Ak n.kids.length ck))) (first | with_reducible exact hst | exact HS.out _ hbe)
                        (first
                          | (go_at_call 14; have htok := TOK.out; refine (size_any pa _ _ (HV.out _ hbe).1 HSA.out).mono ?_; rintro e wy ⟨rfl, hby⟩; rw [← HX.out]; replace hbe := hbe.trans (Joins.below_le hby hbe.size); clear hby htok TOK)
                          | (go_at_call 14; refine (size_any pb _ _ (HV.out _ hbe).2.1 HSB.out).mono ?_; rintro e wy ⟨rfl, hby⟩; rw [← HY.out]; replace hbe := hbe.trans (Joins.below_le hby hbe.size); clear hby))
                      obtain ⟨ws, hws⟩ : ∃ ws, ws = wy := ⟨_, rfl⟩
                      rw [← hws] at hbe ⊢
                      have HBE := Lib.hid hbe
                      obtain ⟨-, -, x0, x1, x2⟩ := HS.out _ hbe
                      clear hst hws
                      have HF := Lib.hid (HV.out _ hbe).2.2.2
                      clear hbe
                      go_wp2_with fail
                      go_ret
                      exact ⟨rfl, HF.out⟩
end Go.Proofs.Ytikkeenjalghmaa
