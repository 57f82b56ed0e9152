/-
  NodeTurns, walked. No condition.
-/
import Derived.Test.YtedcknlafkokkaaNJoinR
import Derived.Test.YtedcknlafkokkaaNSpoil
import Derived.Test.YtedcknlafkokkaaNBack
namespace Go.Proofs.Ytedcknlafkokkaa
open Go.RowKit

theorem large_len {n : PN} (h : n.large = false) : n.cells.length ≤ 100 ∧ n.kids.length ≤ 100 := by
  unfold PN.large at h
  rw [Bool.or_eq_false_iff, Bool.or_eq_false_iff] at h
  obtain ⟨-, h2, h3⟩ := h
  have h2 := of_decide_eq_false h2
  have h3 := of_decide_eq_false h3
  exact ⟨by omega, by omega⟩
theorem cut_len (n : PN) : (n.cut.1.cells.length ≤ n.cells.length ∧ n.cut.1.kids.length ≤ n.kids.length) ∧ (n.cut.2.2.cells.length ≤ n.cells.length ∧ n.cut.2.2.kids.length ≤ n.kids.length) := by
  unfold PN.cut
  split
  · exact ⟨⟨Nat.le_refl _, Nat.le_refl _⟩, Nat.zero_le _, Nat.zero_le _⟩
  · unfold PN.first PN.second
    split
    · simp
      omega
    · simp
      omega
theorem join_len (a b : PN) (s : ByteArray) : (PN.join a s b).cells.length ≤ a.cells.length + b.cells.length + 1 ∧ (PN.join a s b).kids.length ≤ a.kids.length + b.kids.length := by
  unfold PN.join
  split
  · simp
  · simp
    omega
theorem two_new0 (w : World) (x y : Obj) : ((w.alloc x).alloc y).heap[w.heap.size]? = some x := (heap_alloc_old (w.alloc x) y (by simp)).trans (heap_alloc_new w x)
theorem two_new1 (w : World) (x y : Obj) : ((w.alloc x).alloc y).heap[w.heap.size + 1]? = some y := by
  have := heap_alloc_new (w.alloc x) y
  rw [show (w.alloc x).heap.size = w.heap.size + 1 by simp] at this
  exact this
/-- of the blocks of w7 those of X are as they were -/
def Qp (w w7 : World) (X : Nat → Prop) (W : World) : Prop := Below w.heap.size w W ∧ w7.heap.size ≤ W.heap.size ∧ ∀ b, b < w7.heap.size → X b → W.heap[b]? = w7.heap[b]?
section
variable {w w7 W W' : World} {X Y : Nat → Prop}
theorem Qp.mono (h : Qp w w7 X W) (hx : ∀ b, Y b → X b) : Qp w w7 Y W := ⟨h.1, h.2.1, fun b h1 h2 => h.2.2 b h1 (hx b h2)⟩
theorem Qp.grow (h : Qp w w7 X W) (hb : Below W.heap.size W W') : Qp w w7 X W' := ⟨h.1.trans (Joins.below_le hb h.1.size), Nat.le_trans h.2.1 hb.size, fun b h1 h2 => (hb.block b (by have := h.2.1; omega)).trans (h.2.2 b h1 h2)⟩
theorem Qp.kept {F : Nat → Prop} (h : Qp w w7 X W) (hk : Kept W W' F) (hF : ∀ b, F b → w.heap.size ≤ b) (hY : ∀ b, Y b → X b ∧ ¬ F b) : Qp w w7 Y W' :=
  ⟨⟨hk.os.trans h.1.os, hk.tape.trans h.1.tape, hk.output.trans h.1.output, Nat.le_trans h.1.size hk.size, fun b hb => (hk.block b (by have := h.1.size; omega) (fun hf => by have := hF b hf; omega)).trans (h.1.block b hb)⟩, Nat.le_trans h.2.1 hk.size, fun b h1 h2 => (hk.block b (by have := h.2.1; omega) (hY b h2).2).trans (h.2.2 b h1 (hY b h2).1)⟩
theorem Qp.of_below (hw : Below w.heap.size w w7) (hb : Below w7.heap.size w7 W) : Qp w w7 (fun _ => True) W := ⟨hw.trans (Joins.below_le hb hw.size), hb.size, fun b h1 _ => hb.block b h1⟩
theorem Qp.cells {b : Nat} {o : Obj} (h : Qp w w7 X W) (ho : w7.heap[b]? = some o) (hx : X b) : W.heap[b]? = some o := (h.2.2 b (Array.getElem?_eq_some_iff.1 ho).1 hx).trans ho
end
set_option maxHeartbeats 32000000 in
set_option maxRecDepth 1000000 in
theorem nodeturns_walk (n m : PN) (key : ByteArray) (v v' : Value) (w : World) (h : NodeN w Any v n) (h' : NodeN w Any v' m) (hs : ∀ c ∈ n.cells, c.key.size ≤ 140737488355328 ∧ c.val.size ≤ 140737488355328) (hl : n.cells.length ≤ 140737488355328) (hk : n.kids.length ≤ 140737488355328)
    (hs' : ∀ c ∈ m.cells, c.key.size ≤ 140737488355328 ∧ c.val.size ≤ 140737488355328) (hl' : m.cells.length ≤ 140737488355328) (hk' : m.kids.length ≤ 140737488355328) :
    Calls Try.prog 4 #[v, v', .string key] w fun e w' => e = .returned (.bool true) ∧ Below w.heap.size w w' := by
  obtain ⟨vc, vk, rfl, hc, hki⟩ := id h
  obtain ⟨Ac, cc, rfl, -, -⟩ := hc.slice
  obtain ⟨Ak, ck, rfl, -, -⟩ := hki.slice
  obtain ⟨vc', vk', rfl, hc', hki'⟩ := id h'
  obtain ⟨Bc, dc, rfl, -, -⟩ := hc'.slice
  obtain ⟨Bk, dk, rfl, -, -⟩ := hki'.slice
  obtain ⟨w1, hw1⟩ : ∃ w1, w1 = w.alloc (.cells #[.bool n.leaf, .slice Ac n.cells.length cc, .slice Ak n.kids.length ck] 25) := ⟨_, rfl⟩
  have hb1 : Below w.heap.size w w1 := by rw [hw1]; exact (Below.refl _ _).alloc (Nat.le_refl _) _
  have hs1 : w1.heap.size = w.heap.size + 1 := by rw [hw1]; simp
  have hx1 : w1.heap[w.heap.size]? = some (.cells #[.bool n.leaf, .slice Ac n.cells.length cc, .slice Ak n.kids.length ck] 25 (0, 0)) := by rw [hw1]; exact heap_alloc_new w _
  obtain ⟨w2, hw2⟩ : ∃ w2, w2 = w1.alloc (.cells #[.bool m.leaf, .slice Bc m.cells.length dc, .slice Bk m.kids.length dk] 25) := ⟨_, rfl⟩
  have hb2 : Below w1.heap.size w1 w2 := by rw [hw2]; exact (Below.refl _ _).alloc (Nat.le_refl _) _
  have hs2 : w2.heap.size = w.heap.size + 2 := by rw [hw2]; simp [hs1]
  have hy2 : w2.heap[(w.heap.size + 1)]? = some (.cells #[.bool m.leaf, .slice Bc m.cells.length dc, .slice Bk m.kids.length dk] 25 (0, 0)) := by rw [hw2, ← hs1]; exact heap_alloc_new w1 _
  have hx2 := (hb2.block w.heap.size (by omega)).trans hx1
  have hfin : ∀ W, Below w2.heap.size w2 W → Below w.heap.size w W := fun W hW => (hb1.trans (Joins.below_le hb2 hb1.size)).trans (Joins.below_le hW (by omega))
  have hnode : ∀ W, Below w.heap.size w W → NodeN W Any (.agg #[.bool n.leaf, .slice Ac n.cells.length cc, .slice Ak n.kids.length ck]) n ∧ NodeN W Any (.agg #[.bool m.leaf, .slice Bc m.cells.length dc, .slice Bk m.kids.length dk]) m := fun W hW => ⟨h.grow hW, h'.grow hW⟩
  have HNODE := Lib.hid hnode
  have HFIN := Lib.hid hfin
  have HX2 := Lib.hid hx2
  have HY2 := Lib.hid hy2
  have HS2 := Lib.hid hs2
  have HW1 := Lib.hid hw1
  have HW2 := Lib.hid hw2
  obtain ⟨T, hT⟩ : ∃ T, T = n.large := ⟨_, rfl⟩
  obtain ⟨T', hT'⟩ : ∃ T', T' = m.large := ⟨_, rfl⟩
  have hbase : Below w2.heap.size w2 w2 := Below.refl _ _
  have cL := large_any n _ w2 (hnode _ (hfin _ hbase)).1 hs hl hk
  rw [← hT] at cL
  have cM : ∀ W, Below w2.heap.size w2 W → _ := fun W hW => large_any m _ W (hnode _ (hfin _ hW)).2 hs' hl' hk'
  rw [← hT'] at cM
  have HT := Lib.hid hT
  have HT' := Lib.hid hT'
  have CM := Lib.hid cM
  obtain ⟨x0, x1, x2⟩ : (w2.cell? ⟨w.heap.size, 0, none⟩ = some (.bool n.leaf) ∧ w2.cell? ⟨w.heap.size, 1, none⟩ = some (.slice Ac n.cells.length cc) ∧ w2.cell? ⟨w.heap.size, 2, none⟩ = some (.slice Ak n.kids.length ck)) := ⟨(row_cells hx2).1 0, (row_cells hx2).1 1, (row_cells hx2).1 2⟩
  clear hc hki hc' hki' h h' hs hl hk hs' hl' hk' hw1 hw2 hb1 hb2 hs1 hs2 hx1 hx2 hy2 hnode hfin hT hT' cM hbase
  go_enter Try.func4, Try.ntmps4
  go_upto_region 1 with fail
  rw [← HW1.out, ← HW2.out]
  go_wp2_with fail
  refine cL.mono ?_
  rintro e w3 ⟨rfl, hb3⟩
  clear cL x0 x1 x2
  cases T with
  | true =>
    have cA := awake_any w3
    go_wp2_with fail
    refine cA.mono ?_
    rintro e wz ⟨rfl, hbz⟩
    have HF := Lib.hid (HFIN.out _ ((hb3).trans (Joins.below_le hbz (hb3).size)))
    clear cA hbz
    go_wp2_with fail
    go_ret
    exact ⟨rfl, HF.out⟩

  | false =>
    have hsz2 := HS2.out
    have e3 := (hb3.block (w.heap.size + 1) (by omega)).trans HY2.out
    obtain ⟨x0, x1, x2⟩ : (w3.cell? ⟨(w.heap.size + 1), 0, none⟩ = some (.bool m.leaf) ∧ w3.cell? ⟨(w.heap.size + 1), 1, none⟩ = some (.slice Bc m.cells.length dc) ∧ w3.cell? ⟨(w.heap.size + 1), 2, none⟩ = some (.slice Bk m.kids.length dk)) := ⟨(row_cells e3).1 0, (row_cells e3).1 1, (row_cells e3).1 2⟩
    have cM := CM.out w3 hb3
    clear e3
    go_wp2_with fail
    refine cM.mono ?_
    rintro e w4 ⟨rfl, hb4'⟩
    have hb4 := hb3.trans (Joins.below_le hb4' hb3.size)
    clear cM x0 x1 x2 hb3 hb4' CM
    cases T' with
    | true =>
      have cA := awake_any w4
      go_wp2_with fail
      refine cA.mono ?_
      rintro e wz ⟨rfl, hbz⟩
      have HF := Lib.hid (HFIN.out _ ((hb4).trans (Joins.below_le hbz (hb4).size)))
      clear cA hbz
      go_wp2_with fail
      go_ret
      exact ⟨rfl, HF.out⟩

    | false =>
      by_cases hk2 : key.size ≤ 2000
      · have a1 : ¬ (2000 : Int) < (key.size : Int) := by omega
        have hsn : n.small := large_no HT.out.symm
        have hsm : m.small := large_no HT'.out.symm
        obtain ⟨hn1, hn2⟩ := large_len HT.out.symm
        obtain ⟨hm1, hm2⟩ := large_len HT'.out.symm
        go_upto_region 3 with fail
        clear a1
        refine pair_region (T := 25) (U := 31) (f := 10) (s := 3) (t := 4) (d0 := 32) (d1 := 33) (d2 := 34) (d3 := 35) (p := 7) (q := 8) (pos := "law.go:77") (by kernel_rfl) #[.bool false, .slice none 0 0, .slice none 0 0] (.agg #[.bool n.leaf, .slice Ac n.cells.length cc, .slice Ak n.kids.length ck]) (.agg #[.bool m.leaf, .slice Bc m.cells.length dc, .slice Bk m.kids.length dk])
          (fun B W v => OwnT 59 W B v n) (fun B W v => OwnT 59 W B v m) (by decide) (fun d hd => ?_) (fun W hW => load3R ((hW.block _ ?_).trans ((hb4.block _ ?_).trans HX2.out))) (fun W hW => load3R ((hW.block _ ?_).trans ((hb4.block _ ?_).trans HY2.out)))
          (fun W hW => (given_any n _ W (HNODE.out W (HFIN.out _ (hb4.trans (Joins.below_le hW hb4.size)))).1 (by omega) (by omega)).mono fun e w' he => he) (fun W hW => (given_any m _ W (HNODE.out W (HFIN.out _ (hb4.trans (Joins.below_le hW hb4.size)))).2 (by omega) (by omega)).mono fun e w' he => he) call10 alloc3N ?_
        · have hd' : ∀ d ∈ [32, 33, 34, 35, 7, 8], d < 130 := by decide
          exact hd' d hd
        · have := HS2.out
          have := hb4.size
          omega
        · have := HS2.out
          omega
        · have := HS2.out
          have := hb4.size
          omega
        · have := HS2.out
          omega
        · rintro W bx Wx vx cb Wy vy P R hbW hbx ⟨A1, c1, A2, c2, rfl, ox, kx⟩ hWx hcb ⟨B1, e1, B2, e2, rfl, oy, ky⟩ hWy hP hR hPR hcP hcR
          obtain ⟨W2, hW2⟩ : ∃ W2, W2 = (((W.setCell ⟨P, 0, none⟩ (.bool n.leaf)).setCell ⟨P, 1, none⟩ (.slice A1 n.cells.length c1)).setCell ⟨P, 2, none⟩ (.slice A2 n.kids.length c2)) := ⟨_, rfl⟩
          have hr2 := store3N (x' := n.leaf) (A3 := A1) (n3 := n.cells.length) (c3 := c1) (A4 := A2) (n4 := n.kids.length) (c4 := c2) hcP
          rw [← hW2] at hr2
          have hR2 : W2.heap[R]? = some (.cells #[.bool false, .slice none 0 0, .slice none 0 0] 31 (0, 0)) := by rw [hW2]; exact (set3_far (Ne.symm hPR)).trans hcR
          have hP2 : W2.heap[P]? = some (.cells #[.bool n.leaf, .slice A1 n.cells.length c1, .slice A2 n.kids.length c2] 31 (0, 0)) := by rw [hW2]; exact set3_at hcP
          obtain ⟨u, hu⟩ : ∃ u, u = (((W2.setCell ⟨R, 0, none⟩ (.bool m.leaf)).setCell ⟨R, 1, none⟩ (.slice B1 m.cells.length e1)).setCell ⟨R, 2, none⟩ (.slice B2 m.kids.length e2)) := ⟨_, rfl⟩
          have hr3 := store3N (x' := m.leaf) (A3 := B1) (n3 := m.cells.length) (c3 := e1) (A4 := B2) (n4 := m.kids.length) (c4 := e2) hR2
          rw [← hu] at hr3
          have far : ∀ p, p ≠ P → p ≠ R → u.heap[p]? = W.heap[p]? := fun p h1 h2 => by rw [hu, set3_far h2, hW2, set3_far h1]
          have uP : u.heap[P]? = some (.cells #[.bool n.leaf, .slice A1 n.cells.length c1, .slice A2 n.kids.length c2] 31 (0, 0)) := by rw [hu, set3_far hPR]; exact hP2
          have uR : u.heap[R]? = some (.cells #[.bool m.leaf, .slice B1 m.cells.length e1, .slice B2 m.kids.length e2] 31 (0, 0)) := by rw [hu]; exact set3_at hR2
          have hus : u.heap.size = W.heap.size := by rw [hu, set3_size, hW2, set3_size]
          have hbu4 : Below w4.heap.size w4 u := by
            rw [hu, hW2]
            exact (((((hbW.setCell hP _).setCell hP _).setCell hP _).setCell hR _).setCell hR _).setCell hR _
          have hbu2 := hb4.trans (Joins.below_le hbu4 hb4.size)
          have hbu := HFIN.out _ hbu2
          have ox1 := row_same ox (w' := W) fun p hp => hWx.block p (ox.lt p hp).2
          have kx1 := row_same kx (w' := W) fun p hp => hWx.block p (kx.lt p hp).2
          have oy1 := row_same oy (w' := W) fun p hp => hWy.block p (oy.lt p hp).2
          have ky1 := row_same ky (w' := W) fun p hp => hWy.block p (ky.lt p hp).2
          have ox2 := row_same ox1 (w' := u) fun p hp => far p (own_ne ox1 hcP (by decide) p hp) (own_ne ox1 hcR (by decide) p hp)
          have kx2 := row_same kx1 (w' := u) fun p hp => far p (own_ne kx1 hcP (by decide) p hp) (own_ne kx1 hcR (by decide) p hp)
          have oy2 := row_same oy1 (w' := u) fun p hp => far p (own_ne oy1 hcP (by decide) p hp) (own_ne oy1 hcR (by decide) p hp)
          have ky2 := row_same ky1 (w' := u) fun p hp => far p (own_ne ky1 hcP (by decide) p hp) (own_ne ky1 hcR (by decide) p hp)
          have hin : NodeN u Any (.agg #[.bool n.leaf, .slice A1 n.cells.length c1, .slice A2 n.kids.length c2]) n := ⟨_, _, rfl, RowN.of_own ox2 fun _ _ => trivial, RowN.of_own kx2 fun _ _ => trivial⟩
          have hot : NodeN u Any (.agg #[.bool m.leaf, .slice B1 m.cells.length e1, .slice B2 m.kids.length e2]) m := ⟨_, _, rfl, RowN.of_own oy2 fun _ _ => trivial, RowN.of_own ky2 fun _ _ => trivial⟩
          have ux : u.heap[w.heap.size]? = some (.cells #[.bool n.leaf, .slice Ac n.cells.length cc, .slice Ak n.kids.length ck] 25 (0, 0)) := (hbu2.block _ (by have := HS2.out; omega)).trans HX2.out
          have uy : u.heap[(w.heap.size + 1)]? = some (.cells #[.bool m.leaf, .slice Bc m.cells.length dc, .slice Bk m.kids.length dk] 25 (0, 0)) := (hbu2.block _ (by have := HS2.out; omega)).trans HY2.out
          have hat : ∀ W : World, u.heap.size ≤ W.heap.size → (∀ b, b < u.heap.size → W.heap[b]? = u.heap[b]?) → Below w.heap.size w W → (W.cell? ⟨w.heap.size, 0, none⟩ = some (.bool n.leaf) ∧ W.cell? ⟨w.heap.size, 1, none⟩ = some (.slice Ac n.cells.length cc) ∧ W.cell? ⟨w.heap.size, 2, none⟩ = some (.slice Ak n.kids.length ck)) ∧ (W.cell? ⟨(w.heap.size + 1), 0, none⟩ = some (.bool m.leaf) ∧ W.cell? ⟨(w.heap.size + 1), 1, none⟩ = some (.slice Bc m.cells.length dc) ∧ W.cell? ⟨(w.heap.size + 1), 2, none⟩ = some (.slice Bk m.kids.length dk)) ∧ (W.cell? ⟨P, 0, none⟩ = some (.bool n.leaf) ∧ W.cell? ⟨P, 1, none⟩ = some (.slice A1 n.cells.length c1) ∧ W.cell? ⟨P, 2, none⟩ = some (.slice A2 n.kids.length c2)) ∧ (W.cell? ⟨R, 0, none⟩ = some (.bool m.leaf) ∧ W.cell? ⟨R, 1, none⟩ = some (.slice B1 m.cells.length e1) ∧ W.cell? ⟨R, 2, none⟩ = some (.slice B2 m.kids.length e2)) ∧ NodeN W Any (.agg #[.bool n.leaf, .slice Ac n.cells.length cc, .slice Ak n.kids.length ck]) n ∧ NodeN W Any (.agg #[.bool m.leaf, .slice Bc m.cells.length dc, .slice Bk m.kids.length dk]) m ∧ NodeN W Any (.agg #[.bool n.leaf, .slice A1 n.cells.length c1, .slice A2 n.kids.length c2]) n ∧ NodeN W Any (.agg #[.bool m.leaf, .slice B1 m.cells.length e1, .slice B2 m.kids.length e2]) m ∧ Below w.heap.size w W := fun W hsz hW hbw => by
            have e1 := (hW _ (Array.getElem?_eq_some_iff.1 ux).1).trans ux
            have e2 := (hW _ (Array.getElem?_eq_some_iff.1 uy).1).trans uy
            have e3 := (hW _ (Array.getElem?_eq_some_iff.1 uP).1).trans uP
            have e4 := (hW _ (Array.getElem?_eq_some_iff.1 uR).1).trans uR
            exact ⟨⟨(row_cells e1).1 0, (row_cells e1).1 1, (row_cells e1).1 2⟩, ⟨(row_cells e2).1 0, (row_cells e2).1 1, (row_cells e2).1 2⟩, ⟨(row_cells e3).1 0, (row_cells e3).1 1, (row_cells e3).1 2⟩, ⟨(row_cells e4).1 0, (row_cells e4).1 1, (row_cells e4).1 2⟩, (HNODE.out W hbw).1, (HNODE.out W hbw).2, hin.kept (fun _ _ _ => trivial) hsz (fun b _ hb => hW b hb), hot.kept (fun _ _ _ => trivial) hsz (fun b _ hb => hW b hb), hbw⟩
          have hat5 : ∀ W, Below u.heap.size u W → _ := fun W hW => hat W hW.size (fun b hb => hW.block b hb) (hbu.trans (Joins.below_le hW hbu.size))
          have HAT := Lib.hid hat
          have HAT5 := Lib.hid hat5
          have HBU := Lib.hid hbu
          refine ⟨W2, u, hr2, hr3, ?_⟩
          clear hr2 hr3 hR2 hP2 hu hW2 far ox kx oy ky hWx hWy hcP hcR ox1 kx1 oy1 ky1 ox2 kx2 oy2 ky2 hbW hbu4 hbu2 hbu hin hot ux uy uP uR hat hat5 hus hP hR hPR hbx hcb hb4
          simp only [Act.put, List.setIfInBounds_toArray, List.set_cons_zero, List.set_cons_succ]
          obtain ⟨fi, hfi⟩ : ∃ fi, fi = (n.find key).1 := ⟨_, rfl⟩
          obtain ⟨fb, hfb⟩ : ∃ fb, fb = (n.find key).2 := ⟨_, rfl⟩
          have hbs : Below u.heap.size u u := Below.refl _ _
          obtain ⟨-, -, ⟨x0, x1, x2⟩, -, -, -, hin, -, -⟩ := HAT5.out u hbs
          have cF := find_any n key _ u hin (by omega)
          rw [← hfi, ← hfb] at cF
          clear hin
          go_wp2_with fail
          refine cF.mono ?_
          rintro e u1 ⟨rfl, hb1⟩
          clear cF x0 x1 x2
          obtain ⟨⟨x0, x1, x2⟩, -, -, -, hin, -, -, -, -⟩ := HAT5.out u1 hb1
          have cG := reffind_any n key _ u1 hin (by omega)
          rw [← hfi, ← hfb] at cG
          clear hin hfi hfb
          go_wp2_with fail
          refine cG.mono ?_
          rintro e u2 ⟨rfl, hb2⟩
          have hbu2 := hb1.trans (Joins.below_le hb2 hb1.size)
          clear cG x0 x1 x2 hb1 hb2 hbs
          obtain ⟨-, -, ⟨x0, x1, x2⟩, -, -, -, hin, -, -⟩ := HAT5.out u2 hbu2
          have cC := cut_any n _ u2 hin hsn
          obtain ⟨ca, hca⟩ : ∃ ca, ca = n.cut.1 := ⟨_, rfl⟩
          obtain ⟨sc, hsc⟩ : ∃ sc, sc = n.cut.2.1 := ⟨_, rfl⟩
          obtain ⟨cb, hcb⟩ : ∃ cb, cb = n.cut.2.2 := ⟨_, rfl⟩
          rw [← hca, ← hsc, ← hcb] at cC
          have HCA := Lib.hid hca
          have HSC := Lib.hid hsc
          have HCB := Lib.hid hcb
          clear hca hsc hcb
          clear hin
          go_wp2_with fail
          refine cC.mono ?_
          rintro e u3 ⟨va, vb, M, rfl, oa, ob, hM, hb3⟩
          obtain ⟨oa, ba⟩ := oa
          obtain ⟨Aa, ac, Ad, ad, rfl, -, -⟩ := id oa
          obtain ⟨Ba, bc, Bd, bd, rfl, -, -⟩ := id ob
          obtain ⟨u5, hu5⟩ : ∃ u5, u5 = (u3.alloc (.cells #[.bool ca.leaf, .slice Aa ca.cells.length ac, .slice Ad ca.kids.length ad] 31)).alloc (.cells #[.bool cb.leaf, .slice Ba cb.cells.length bc, .slice Bd cb.kids.length bd] 31) := ⟨_, rfl⟩
          have p13 : u5.heap[u3.heap.size]? = some (.cells #[.bool ca.leaf, .slice Aa ca.cells.length ac, .slice Ad ca.kids.length ad] 31 (0, 0)) := by rw [hu5]; exact two_new0 u3 _ _
          have p15 : u5.heap[(u3.heap.size + 1)]? = some (.cells #[.bool cb.leaf, .slice Ba cb.cells.length bc, .slice Bd cb.kids.length bd] 31 (0, 0)) := by rw [hu5]; exact two_new1 u3 _ _
          have hb35 : Below u3.heap.size u3 u5 := by rw [hu5]; exact below_al (below_al (Below.refl _ _))
          have hs5 : u5.heap.size = u3.heap.size + 2 := by rw [hu5]; simp
          have hbu3 := hbu2.trans (Joins.below_le hb3 hbu2.size)
          have hbu5 := hbu3.trans (Joins.below_le hb35 hbu3.size)
          have HU5 := Lib.hid hu5
          clear cC x0 x1 x2 hu5
          go_upto_region 9 with fail
          rw [← HU5.out]
          obtain ⟨⟨x0, x1, x2⟩, -, -, -, hnn, -, -, -, -⟩ := HAT5.out u5 hbu5
          have cD := refcut_any n _ u5 hnn hsn
          rw [← HCA.out, ← HSC.out, ← HCB.out] at cD
          clear hnn
          go_wp2_with fail
          refine cD.mono ?_
          rintro e u6 ⟨vc, vd, rfl, nc, nd, hb6⟩
          obtain ⟨vcc, vck, rfl, hcc, hck⟩ := id nc
          obtain ⟨Ca, gc, rfl, -, -⟩ := hcc.slice
          obtain ⟨Cd, gd, rfl, -, -⟩ := hck.slice
          obtain ⟨vdc, vdk, rfl, hdc, hdk⟩ := id nd
          obtain ⟨Da, kc, rfl, -, -⟩ := hdc.slice
          obtain ⟨Dd, kd, rfl, -, -⟩ := hdk.slice
          obtain ⟨u7, hu7⟩ : ∃ u7, u7 = (u6.alloc (.cells #[.bool ca.leaf, .slice Ca ca.cells.length gc, .slice Cd ca.kids.length gd] 25)).alloc (.cells #[.bool cb.leaf, .slice Da cb.cells.length kc, .slice Dd cb.kids.length kd] 25) := ⟨_, rfl⟩
          have p16 : u7.heap[u6.heap.size]? = some (.cells #[.bool ca.leaf, .slice Ca ca.cells.length gc, .slice Cd ca.kids.length gd] 25 (0, 0)) := by rw [hu7]; exact two_new0 u6 _ _
          have p18 : u7.heap[(u6.heap.size + 1)]? = some (.cells #[.bool cb.leaf, .slice Da cb.cells.length kc, .slice Dd cb.kids.length kd] 25 (0, 0)) := by rw [hu7]; exact two_new1 u6 _ _
          have hb67 : Below u6.heap.size u6 u7 := by rw [hu7]; exact below_al (below_al (Below.refl _ _))
          have hs7 : u7.heap.size = u6.heap.size + 2 := by rw [hu7]; simp
          have hb57 := hb6.trans (Joins.below_le hb67 hb6.size)
          have hbu7 := hbu5.trans (Joins.below_le hb57 hbu5.size)
          have HU7 := Lib.hid hu7
          clear cD x0 x1 x2 hu7 hcc hck hdc hdk
          go_upto_region 10 with fail
          rw [← HU7.out]
          obtain ⟨-, -, ⟨x0, x1, x2⟩, ⟨y0, y1, y2⟩, -, -, hnn, hmm, -⟩ := HAT5.out u7 hbu7
          have cJ := join_any n m key _ _ u7 hnn hmm (by omega) (by omega) (by omega) (by omega)
          obtain ⟨jn, hjn⟩ : ∃ jn, jn = PN.join n key m := ⟨_, rfl⟩
          have hjl := join_len n m key
          rw [← hjn] at cJ hjl
          have HJN := Lib.hid hjn
          clear hnn hmm hjn
          go_wp2_with fail
          refine cJ.mono ?_
          rintro e u8 ⟨vx, rfl, ox, hb8⟩
          obtain ⟨Ja, jc, Jd, jd, rfl, -, -⟩ := id ox
          obtain ⟨u9, hu9⟩ : ∃ u9, u9 = u8.alloc (.cells #[.bool jn.leaf, .slice Ja jn.cells.length jc, .slice Jd jn.kids.length jd] 31) := ⟨_, rfl⟩
          have p19 : u9.heap[u8.heap.size]? = some (.cells #[.bool jn.leaf, .slice Ja jn.cells.length jc, .slice Jd jn.kids.length jd] 31 (0, 0)) := by rw [hu9]; exact heap_alloc_new u8 _
          have hb89 : Below u8.heap.size u8 u9 := by rw [hu9]; exact below_al (Below.refl _ _)
          have hs9 : u9.heap.size = u8.heap.size + 1 := by rw [hu9]; simp
          have hb79 := hb8.trans (Joins.below_le hb89 hb8.size)
          have hb59 := hb57.trans (Joins.below_le hb79 hb57.size)
          have hb69 := hb67.trans (Joins.below_le hb79 hb67.size)
          have hb39 := hb35.trans (Joins.below_le hb59 hb35.size)
          have hbu9 := hbu7.trans (Joins.below_le hb79 hbu7.size)
          have hbw9 := HBU.out.trans (Joins.below_le hbu9 HBU.out.size)
          have z1 := hb3.size
          have z2 := hbu2.size
          have z3 := hb6.size
          have z4 := hb8.size
          have z5 := HBU.out.size
          -- the blocks
          have q13 := (hb59.block _ (Array.getElem?_eq_some_iff.1 p13).1).trans p13
          have q15 := (hb59.block _ (Array.getElem?_eq_some_iff.1 p15).1).trans p15
          have q16 := (hb79.block _ (Array.getElem?_eq_some_iff.1 p16).1).trans p16
          have q18 := (hb79.block _ (Array.getElem?_eq_some_iff.1 p18).1).trans p18
          -- what holds as long as those of X3 do
          have hall : ∀ W, Qp w u9 (fun b => b < u2.heap.size ∨ (u3.heap.size ≤ b ∧ b < u7.heap.size) ∨ u8.heap.size ≤ b) W → ((W.cell? ⟨u3.heap.size, 0, none⟩ = some (.bool ca.leaf) ∧ W.cell? ⟨u3.heap.size, 1, none⟩ = some (.slice Aa ca.cells.length ac) ∧ W.cell? ⟨u3.heap.size, 2, none⟩ = some (.slice Ad ca.kids.length ad)) ∧ (W.cell? ⟨(u3.heap.size + 1), 0, none⟩ = some (.bool cb.leaf) ∧ W.cell? ⟨(u3.heap.size + 1), 1, none⟩ = some (.slice Ba cb.cells.length bc) ∧ W.cell? ⟨(u3.heap.size + 1), 2, none⟩ = some (.slice Bd cb.kids.length bd)) ∧ (W.cell? ⟨(u6.heap.size + 1), 0, none⟩ = some (.bool cb.leaf) ∧ W.cell? ⟨(u6.heap.size + 1), 1, none⟩ = some (.slice Da cb.cells.length kc) ∧ W.cell? ⟨(u6.heap.size + 1), 2, none⟩ = some (.slice Dd cb.kids.length kd)) ∧ (W.cell? ⟨u8.heap.size, 0, none⟩ = some (.bool jn.leaf) ∧ W.cell? ⟨u8.heap.size, 1, none⟩ = some (.slice Ja jn.cells.length jc) ∧ W.cell? ⟨u8.heap.size, 2, none⟩ = some (.slice Jd jn.kids.length jd))) ∧ ((W.cell? ⟨w.heap.size, 0, none⟩ = some (.bool n.leaf) ∧ W.cell? ⟨w.heap.size, 1, none⟩ = some (.slice Ac n.cells.length cc) ∧ W.cell? ⟨w.heap.size, 2, none⟩ = some (.slice Ak n.kids.length ck)) ∧ (W.cell? ⟨(w.heap.size + 1), 0, none⟩ = some (.bool m.leaf) ∧ W.cell? ⟨(w.heap.size + 1), 1, none⟩ = some (.slice Bc m.cells.length dc) ∧ W.cell? ⟨(w.heap.size + 1), 2, none⟩ = some (.slice Bk m.kids.length dk)) ∧ (W.cell? ⟨P, 0, none⟩ = some (.bool n.leaf) ∧ W.cell? ⟨P, 1, none⟩ = some (.slice A1 n.cells.length c1) ∧ W.cell? ⟨P, 2, none⟩ = some (.slice A2 n.kids.length c2)) ∧ (W.cell? ⟨R, 0, none⟩ = some (.bool m.leaf) ∧ W.cell? ⟨R, 1, none⟩ = some (.slice B1 m.cells.length e1) ∧ W.cell? ⟨R, 2, none⟩ = some (.slice B2 m.kids.length e2)) ∧ NodeN W Any (.agg #[.bool n.leaf, .slice Ac n.cells.length cc, .slice Ak n.kids.length ck]) n ∧ NodeN W Any (.agg #[.bool m.leaf, .slice Bc m.cells.length dc, .slice Bk m.kids.length dk]) m ∧ NodeN W Any (.agg #[.bool n.leaf, .slice A1 n.cells.length c1, .slice A2 n.kids.length c2]) n ∧ NodeN W Any (.agg #[.bool m.leaf, .slice B1 m.cells.length e1, .slice B2 m.kids.length e2]) m ∧ Below w.heap.size w W) := fun W hW => by
            have f13 := hW.cells q13 (.inr (.inl ⟨Nat.le_refl _, by omega⟩))
            have f15 := hW.cells q15 (.inr (.inl ⟨by omega, by omega⟩))
            have f18 := hW.cells q18 (.inr (.inl ⟨by omega, by omega⟩))
            have f19 := hW.cells p19 (.inr (.inr (Nat.le_refl _)))
            exact ⟨⟨⟨(row_cells f13).1 0, (row_cells f13).1 1, (row_cells f13).1 2⟩, ⟨(row_cells f15).1 0, (row_cells f15).1 1, (row_cells f15).1 2⟩, ⟨(row_cells f18).1 0, (row_cells f18).1 1, (row_cells f18).1 2⟩, ⟨(row_cells f19).1 0, (row_cells f19).1 1, (row_cells f19).1 2⟩⟩, HAT.out W (by have := hW.2.1; have := hbu9.size; omega) (fun b hb => (hW.2.2 b (by have := hbu9.size; omega) (.inl (by omega))).trans (hbu9.block b hb)) hW.1⟩
          have hoa : ∀ W, Below u9.heap.size u9 W → OwnN W u2.heap.size (.agg #[.bool ca.leaf, .slice Aa ca.cells.length ac, .slice Ad ca.kids.length ad]) ca := fun W hW => oa.same fun b h1 h2 => (hb39.trans (Joins.below_le hW hb39.size)).block b h2
          have hob : ∀ W, Qp w u9 (fun b => b < u2.heap.size ∨ M ≤ b ∨ u3.heap.size ≤ b) W → OwnN W (min M W.heap.size) (.agg #[.bool cb.leaf, .slice Ba cb.cells.length bc, .slice Bd cb.kids.length bd]) cb := fun W hW => (ob.same fun b h1 h2 => (hW.2.2 b (by have := hb39.size; omega) (.inr (.inl h1))).trans (hb39.block b h2)).base (Nat.min_le_left _ _)
          have hox : ∀ W, Qp w u9 (fun b => b < u2.heap.size ∨ u3.heap.size ≤ b) W → OwnN W u7.heap.size (.agg #[.bool jn.leaf, .slice Ja jn.cells.length jc, .slice Jd jn.kids.length jd]) jn := fun W hW => ox.same fun b h1 h2 => (hW.2.2 b (by omega) (.inr (by omega))).trans (hb89.block b h2)
          have hnc : ∀ W, Qp w u9 (fun b => b < u2.heap.size ∨ M ≤ b ∨ u3.heap.size ≤ b) W → NodeN W Any (.agg #[.bool ca.leaf, .slice Ca ca.cells.length gc, .slice Cd ca.kids.length gd]) ca := fun W hW => (nc.kept (N' := Any) (fun _ _ _ => trivial) (by have := hW.2.1; omega) (fun b h1 h2 => (hW.2.2 b (by omega) (.inr (.inr (by omega)))).trans (hb69.block b h2)))
          have hnd : ∀ W, Qp w u9 (fun b => b < u2.heap.size ∨ M ≤ b ∨ u3.heap.size ≤ b) W → NodeN W Any (.agg #[.bool cb.leaf, .slice Da cb.cells.length kc, .slice Dd cb.kids.length kd]) cb := fun W hW => (nd.kept (N' := Any) (fun _ _ _ => trivial) (by have := hW.2.1; omega) (fun b h1 h2 => (hW.2.2 b (by omega) (.inr (.inr (by omega)))).trans (hb69.block b h2)))
          have hq0 : ∀ W, Below u9.heap.size u9 W → ∀ X : Nat → Prop, Qp w u9 X W := fun W hW X => (Qp.of_below hbw9 hW).mono fun _ _ => trivial
          have hs11 : ∀ W, Below u9.heap.size u9 W → (W.cell? ⟨u3.heap.size, 0, none⟩ = some (.bool ca.leaf) ∧ W.cell? ⟨u3.heap.size, 1, none⟩ = some (.slice Aa ca.cells.length ac) ∧ W.cell? ⟨u3.heap.size, 2, none⟩ = some (.slice Ad ca.kids.length ad)) ∧ (W.cell? ⟨(u3.heap.size + 1), 0, none⟩ = some (.bool cb.leaf) ∧ W.cell? ⟨(u3.heap.size + 1), 1, none⟩ = some (.slice Ba cb.cells.length bc) ∧ W.cell? ⟨(u3.heap.size + 1), 2, none⟩ = some (.slice Bd cb.kids.length bd)) ∧ (W.cell? ⟨u6.heap.size, 0, none⟩ = some (.bool ca.leaf) ∧ W.cell? ⟨u6.heap.size, 1, none⟩ = some (.slice Ca ca.cells.length gc) ∧ W.cell? ⟨u6.heap.size, 2, none⟩ = some (.slice Cd ca.kids.length gd)) ∧ (W.cell? ⟨(u6.heap.size + 1), 0, none⟩ = some (.bool cb.leaf) ∧ W.cell? ⟨(u6.heap.size + 1), 1, none⟩ = some (.slice Da cb.cells.length kc) ∧ W.cell? ⟨(u6.heap.size + 1), 2, none⟩ = some (.slice Dd cb.kids.length kd)) ∧ (W.cell? ⟨u8.heap.size, 0, none⟩ = some (.bool jn.leaf) ∧ W.cell? ⟨u8.heap.size, 1, none⟩ = some (.slice Ja jn.cells.length jc) ∧ W.cell? ⟨u8.heap.size, 2, none⟩ = some (.slice Jd jn.kids.length jd)) ∧ (W.cell? ⟨w.heap.size, 0, none⟩ = some (.bool n.leaf) ∧ W.cell? ⟨w.heap.size, 1, none⟩ = some (.slice Ac n.cells.length cc) ∧ W.cell? ⟨w.heap.size, 2, none⟩ = some (.slice Ak n.kids.length ck)) ∧ (W.cell? ⟨(w.heap.size + 1), 0, none⟩ = some (.bool m.leaf) ∧ W.cell? ⟨(w.heap.size + 1), 1, none⟩ = some (.slice Bc m.cells.length dc) ∧ W.cell? ⟨(w.heap.size + 1), 2, none⟩ = some (.slice Bk m.kids.length dk)) := fun W hW => by
            obtain ⟨⟨h1, h2, h3, h4⟩, h5, h6, -⟩ := hall W (hq0 W hW _)
            have e16 := (hq0 W hW (fun _ => True)).cells q16 trivial
            exact ⟨h1, h2, ⟨(row_cells e16).1 0, (row_cells e16).1 1, (row_cells e16).1 2⟩, h3, h4, h5, h6⟩
          have hv11 : ∀ W, Below u9.heap.size u9 W → NodeN W Any (.agg #[.bool ca.leaf, .slice Aa ca.cells.length ac, .slice Ad ca.kids.length ad]) ca ∧ NodeN W Any (.agg #[.bool cb.leaf, .slice Ba cb.cells.length bc, .slice Bd cb.kids.length bd]) cb ∧ NodeN W Any (.agg #[.bool ca.leaf, .slice Ca ca.cells.length gc, .slice Cd ca.kids.length gd]) ca ∧ NodeN W Any (.agg #[.bool cb.leaf, .slice Da cb.cells.length kc, .slice Dd cb.kids.length kd]) cb ∧ NodeN W Any (.agg #[.bool jn.leaf, .slice Ja jn.cells.length jc, .slice Jd jn.kids.length jd]) jn ∧ NodeN W Any (.agg #[.bool n.leaf, .slice Ac n.cells.length cc, .slice Ak n.kids.length ck]) n ∧ NodeN W Any (.agg #[.bool m.leaf, .slice Bc m.cells.length dc, .slice Bk m.kids.length dk]) m := fun W hW => by
            obtain ⟨-, -, -, -, -, h5, h6, -⟩ := hall W (hq0 W hW _)
            exact ⟨(hoa W hW).node.any, (hob W (hq0 W hW _)).node.any, hnc W (hq0 W hW _), hnd W (hq0 W hW _), (hox W (hq0 W hW _)).node.any, h5, h6⟩
          -- what spoil turns
          have hp1 : ∀ W W' b0 vc vk, Below u9.heap.size u9 W → (.agg #[.bool ca.leaf, .slice Aa ca.cells.length ac, .slice Ad ca.kids.length ad] : Value) = .agg #[b0, vc, vk] → Kept W W' (SpF vc vk) → Qp w u9 (fun b => b < u2.heap.size ∨ M ≤ b ∨ u3.heap.size ≤ b) W' := fun W W' b0 vc vk hW he hk => (Qp.of_below hbw9 hW).kept hk (fun b hb => by have := (oa.blocks he hb).1; omega) fun b hb => ⟨trivial, fun hf => by have h1 := oa.blocks he hf; have h2 := ba _ _ _ he b hf; omega⟩
          have hp2 : ∀ W W' b0 vc vk, Qp w u9 (fun b => b < u2.heap.size ∨ M ≤ b ∨ u3.heap.size ≤ b) W → (.agg #[.bool cb.leaf, .slice Ba cb.cells.length bc, .slice Bd cb.kids.length bd] : Value) = .agg #[b0, vc, vk] → Kept W W' (SpF vc vk) → Qp w u9 (fun b => b < u2.heap.size ∨ u3.heap.size ≤ b) W' := fun W W' b0 vc vk hW he hk => hW.kept hk (fun b hb => by have := (ob.blocks he hb).1; omega) fun b hb => ⟨by rcases hb with h | h; exact .inl h; exact .inr (.inr h), fun hf => by have h1 := ob.blocks he hf; omega⟩
          have hp3 : ∀ W W' b0 vc vk, Qp w u9 (fun b => b < u2.heap.size ∨ u3.heap.size ≤ b) W → (.agg #[.bool jn.leaf, .slice Ja jn.cells.length jc, .slice Jd jn.kids.length jd] : Value) = .agg #[b0, vc, vk] → Kept W W' (SpF vc vk) → Qp w u9 (fun b => b < u2.heap.size ∨ (u3.heap.size ≤ b ∧ b < u7.heap.size) ∨ u8.heap.size ≤ b) W' := fun W W' b0 vc vk hW he hk => hW.kept hk (fun b hb => by have := (ox.blocks he hb).1; omega) fun b hb => ⟨by rcases hb with h | h | h; exact .inl h; exact .inr h.1; exact .inr (by omega), fun hf => by have h1 := ox.blocks he hf; omega⟩
          have hx13 : ∀ W, Qp w u9 (fun b => b < u2.heap.size ∨ M ≤ b ∨ u3.heap.size ≤ b) W → Qp w u9 (fun b => b < u2.heap.size ∨ (u3.heap.size ≤ b ∧ b < u7.heap.size) ∨ u8.heap.size ≤ b) W := fun W hW => hW.mono fun b hb => by rcases hb with h | h | h; exact .inl h; exact .inr (.inr (by omega)); exact .inr (.inr (by omega))
          have hx23 : ∀ W, Qp w u9 (fun b => b < u2.heap.size ∨ u3.heap.size ≤ b) W → Qp w u9 (fun b => b < u2.heap.size ∨ (u3.heap.size ≤ b ∧ b < u7.heap.size) ∨ u8.heap.size ≤ b) W := fun W hW => hW.mono fun b hb => by rcases hb with h | h | h; exact .inl h; exact .inr h.1; exact .inr (by omega)
          have HALL := Lib.hid hall
          have HOA := Lib.hid hoa
          have HOB := Lib.hid hob
          have HOX := Lib.hid hox
          have HND := Lib.hid hnd
          have HQ0 := Lib.hid hq0
          have HS11 := Lib.hid hs11
          have HV11 := Lib.hid hv11
          have HP1 := Lib.hid hp1
          have HP2 := Lib.hid hp2
          have HP3 := Lib.hid hp3
          have HX13 := Lib.hid hx13
          have HX23 := Lib.hid hx23
          have HU9 := Lib.hid hu9
          obtain ⟨⟨cl1, cl2⟩, cl3, cl4⟩ := cut_len n
          rw [← HCA.out] at cl1 cl2
          rw [← HCB.out] at cl3 cl4
          have hlca : ca.cells.length ≤ 1000 := by omega
          have hlck : ca.kids.length ≤ 1000 := by omega
          have hlcb : cb.cells.length ≤ 1000 := by omega
          have hlbk : cb.kids.length ≤ 1000 := by omega
          have hljc : jn.cells.length ≤ 1000 := by omega
          have hljk : jn.kids.length ≤ 1000 := by omega
          clear cJ x0 x1 x2 y0 y1 y2 hall hoa hob hox hnc hnd hq0 hs11 hv11 hp1 hp2 hp3 hx13 hx23 hu9 oa ob ox ba nc nd hb3 hb35 hb6 hb67 hb57 hb8 hb89 hb79 hb59 hb69 hb39 hbu3 hbu5 hbu7 hbu9 hbw9 p13 p15 p16 p18 p19 q13 q15 q16 q18 hjl cl1 cl2 cl3 cl4
          go_upto_region 11 with fail
          rw [← HU9.out]
          have hbe : Below u9.heap.size u9 u9.drew := (Below.refl _ _).drew
          have hst := HS11.out _ hbe
          have TK1 : Hid True := Lib.hid trivial
          have TK2 : Hid True := Lib.hid trivial
          have TK3 : Hid True := Lib.hid trivial
          have TK4 : Hid True := Lib.hid trivial
          have TK5 : Hid True := Lib.hid trivial
          have TK6 : Hid True := Lib.hid trivial
          have TK7 : Hid True := Lib.hid trivial
          go_region_held3 (fun W => (W.cell? ⟨u3.heap.size, 0, none⟩ = some (.bool ca.leaf) ∧ W.cell? ⟨u3.heap.size, 1, none⟩ = some (.slice Aa ca.cells.length ac) ∧ W.cell? ⟨u3.heap.size, 2, none⟩ = some (.slice Ad ca.kids.length ad)) ∧ (W.cell? ⟨(u3.heap.size + 1), 0, none⟩ = some (.bool cb.leaf) ∧ W.cell? ⟨(u3.heap.size + 1), 1, none⟩ = some (.slice Ba cb.cells.length bc) ∧ W.cell? ⟨(u3.heap.size + 1), 2, none⟩ = some (.slice Bd cb.kids.length bd)) ∧ (W.cell? ⟨u6.heap.size, 0, none⟩ = some (.bool ca.leaf) ∧ W.cell? ⟨u6.heap.size, 1, none⟩ = some (.slice Ca ca.cells.length gc) ∧ W.cell? ⟨u6.heap.size, 2, none⟩ = some (.slice Cd ca.kids.length gd)) ∧ (W.cell? ⟨(u6.heap.size + 1), 0, none⟩ = some (.bool cb.leaf) ∧ W.cell? ⟨(u6.heap.size + 1), 1, none⟩ = some (.slice Da cb.cells.length kc) ∧ W.cell? ⟨(u6.heap.size + 1), 2, none⟩ = some (.slice Dd cb.kids.length kd)) ∧ (W.cell? ⟨u8.heap.size, 0, none⟩ = some (.bool jn.leaf) ∧ W.cell? ⟨u8.heap.size, 1, none⟩ = some (.slice Ja jn.cells.length jc) ∧ W.cell? ⟨u8.heap.size, 2, none⟩ = some (.slice Jd jn.kids.length jd)) ∧ (W.cell? ⟨w.heap.size, 0, none⟩ = some (.bool n.leaf) ∧ W.cell? ⟨w.heap.size, 1, none⟩ = some (.slice Ac n.cells.length cc) ∧ W.cell? ⟨w.heap.size, 2, none⟩ = some (.slice Ak n.kids.length ck)) ∧ (W.cell? ⟨(w.heap.size + 1), 0, none⟩ = some (.bool m.leaf) ∧ W.cell? ⟨(w.heap.size + 1), 1, none⟩ = some (.slice Bc m.cells.length dc) ∧ W.cell? ⟨(w.heap.size + 1), 2, none⟩ = some (.slice Bk m.kids.length dk))) (first | with_reducible exact hst | exact HS11.out _ hbe)
            (first
              | (have htok := TK1.out; go_at_call 20; refine (back_any ca _ _ (HV11.out _ hbe).1 hlca hlck).mono ?_; rintro e wy ⟨vy1, rfl, hoy, hby⟩; have HO1 := Lib.hid (show NodeN wy Any vy1 ca from hoy.node.any); replace hbe := hbe.trans (Joins.below_le hby hbe.size); clear hoy hby htok TK1)
              | (have htok := TK2.out; go_at_call 19; refine (same_yes ca _ _ _ HO1.out (HV11.out _ hbe).2.2.1 (by omega) (by omega)).mono ?_; rintro e wy ⟨rfl, hby⟩; replace hbe := hbe.trans (Joins.below_le hby hbe.size); clear hby htok TK2)
              | (have htok := TK3.out; go_at_call 20; refine (back_any cb _ _ (HV11.out _ hbe).2.1 hlcb hlbk).mono ?_; rintro e wy ⟨vy2, rfl, hoy, hby⟩; have HO2 := Lib.hid (show NodeN wy Any vy2 cb from hoy.node.any); replace hbe := hbe.trans (Joins.below_le hby hbe.size); clear hoy hby htok TK3)
              | (have htok := TK4.out; go_at_call 19; refine (same_yes cb _ _ _ HO2.out (HV11.out _ hbe).2.2.2.1 (by omega) (by omega)).mono ?_; rintro e wy ⟨rfl, hby⟩; replace hbe := hbe.trans (Joins.below_le hby hbe.size); clear hby htok TK4)
              | (have htok := TK5.out; go_at_call 20; refine (back_any jn _ _ (HV11.out _ hbe).2.2.2.2.1 hljc hljk).mono ?_; rintro e wy ⟨vy3, rfl, hoy, hby⟩; have HO3 := Lib.hid (show NodeN wy Any vy3 jn from hoy.node.any); replace hbe := hbe.trans (Joins.below_le hby hbe.size); clear hoy hby htok TK5)
              | (have htok := TK6.out; go_at_call 27; refine (refjoin_any n m key _ _ _ (HV11.out _ hbe).2.2.2.2.2.1 (HV11.out _ hbe).2.2.2.2.2.2 hsn hsm).mono ?_; rintro e wy ⟨vy4, rfl, hoy, hby⟩; rw [← HJN.out] at hoy; have HO4 := Lib.hid (show NodeN wy Any vy4 jn from hoy.any); have HO5 := Lib.hid (HO3.out.grow hby); replace hbe := hbe.trans (Joins.below_le hby hbe.size); clear hoy hby htok TK6 HO3)
              | (have htok := TK7.out; go_at_call 19; refine (same_yes jn _ _ _ HO5.out HO4.out (by omega) (by omega)).mono ?_; rintro e wy ⟨rfl, hby⟩; replace hbe := hbe.trans (Joins.below_le hby hbe.size); clear hby htok TK7))
          obtain ⟨wp, hwp⟩ : ∃ wp, wp = wy := ⟨_, rfl⟩
          rw [← hwp] at hbe ⊢
          have HBE := Lib.hid hbe
          clear hwp hbe hst HS11 HV11 HO1 HO2 HO4 HO5
          go_upto_region 13 with fail
          have hbe : Below u9.heap.size u9 wp.drew := HBE.out.trans ((Below.refl _ _).drew)
          have hst := (HALL.out _ (HQ0.out _ hbe _)).1
          have TK1 : Hid True := Lib.hid trivial
          have TK2 : Hid True := Lib.hid trivial
          have TK3 : Hid True := Lib.hid trivial
          have TK4 : Hid True := Lib.hid trivial
          have TK5 : Hid True := Lib.hid trivial
          go_region_held3 (fun W => (W.cell? ⟨u3.heap.size, 0, none⟩ = some (.bool ca.leaf) ∧ W.cell? ⟨u3.heap.size, 1, none⟩ = some (.slice Aa ca.cells.length ac) ∧ W.cell? ⟨u3.heap.size, 2, none⟩ = some (.slice Ad ca.kids.length ad)) ∧ (W.cell? ⟨(u3.heap.size + 1), 0, none⟩ = some (.bool cb.leaf) ∧ W.cell? ⟨(u3.heap.size + 1), 1, none⟩ = some (.slice Ba cb.cells.length bc) ∧ W.cell? ⟨(u3.heap.size + 1), 2, none⟩ = some (.slice Bd cb.kids.length bd)) ∧ (W.cell? ⟨(u6.heap.size + 1), 0, none⟩ = some (.bool cb.leaf) ∧ W.cell? ⟨(u6.heap.size + 1), 1, none⟩ = some (.slice Da cb.cells.length kc) ∧ W.cell? ⟨(u6.heap.size + 1), 2, none⟩ = some (.slice Dd cb.kids.length kd)) ∧ (W.cell? ⟨u8.heap.size, 0, none⟩ = some (.bool jn.leaf) ∧ W.cell? ⟨u8.heap.size, 1, none⟩ = some (.slice Ja jn.cells.length jc) ∧ W.cell? ⟨u8.heap.size, 2, none⟩ = some (.slice Jd jn.kids.length jd))) (first | with_reducible exact hst | exact (HALL.out _ hq).1)
            (first
              | (have htok := TK1.out; go_at_call 21; refine (spoil_any ca _ u2.heap.size _ (HOA.out _ hbe) (by have := hbe.size; omega) hlca (by omega)).mono ?_; rintro e wy ⟨za, rfl, hza, b0, vc, vk, hev, hkp⟩; have hq1 := HP1.out _ _ _ _ _ hbe hev hkp; have hq := HX13.out _ hq1; have hz0 := Int.natCast_nonneg za; clear hkp hev hza htok TK1 hbe)
              | (have htok := TK2.out; go_at_call 20; refine (back_any cb _ _ (HOB.out _ hq1).node.any hlcb hlbk).mono ?_; rintro e wy ⟨vy2, rfl, hoy, hby⟩; have HO2 := Lib.hid (show NodeN wy Any vy2 cb from hoy.node.any); replace hq1 := Qp.grow hq1 hby; replace hq := HX13.out _ hq1; clear hoy hby htok TK2)
              | (have htok := TK3.out; go_at_call 19; refine (same_yes cb _ _ _ HO2.out (HND.out _ hq1) (by omega) (by omega)).mono ?_; rintro e wy ⟨rfl, hby⟩; replace hq1 := Qp.grow hq1 hby; replace hq := HX13.out _ hq1; clear hby htok TK3)
              | (have htok := TK4.out; go_at_call 21; refine (spoil_any cb _ (min M _) _ (HOB.out _ hq1) (Nat.min_le_right _ _) hlcb (by omega)).mono ?_; rintro e wy ⟨zb, rfl, hzb, b0, vc, vk, hev, hkp⟩; have hq2 := HP2.out _ _ _ _ _ hq1 hev hkp; replace hq := HX23.out _ hq2; clear hkp hev htok TK4 hq1)
              | (have htok := TK5.out; go_at_call 21; refine (spoil_any jn _ u7.heap.size _ (HOX.out _ hq2) (by have := hq2.2.1; omega) hljc (by omega)).mono ?_; rintro e wy ⟨zx, rfl, hzx, b0, vc, vk, hev, hkp⟩; replace hq := HP3.out _ _ _ _ _ hq2 hev hkp; have hz1 : ¬ ((zb : Int) + (zx : Int) < 0) := (by omega); have hz2 : IntKind.i64.wrap ((zb : Int) + (zx : Int)) = (zb : Int) + (zx : Int) := IntWalk.i64_in _ (by omega); clear hkp hev htok TK5 hq2))
          obtain ⟨wr, hwr⟩ : ∃ wr, wr = wy := ⟨_, rfl⟩
          rw [← hwr] at hq ⊢
          have HQ := Lib.hid hq
          clear hwr hq hst HO2 HOA HOB HOX HND HP1 HP2 HP3
          go_upto_region 15 with fail
          have hq := Qp.grow HQ.out ((Below.refl wr.heap.size wr).drew)
          have hs15 : ∀ W, Qp w u9 (fun b => b < u2.heap.size ∨ (u3.heap.size ≤ b ∧ b < u7.heap.size) ∨ u8.heap.size ≤ b) W → (W.cell? ⟨w.heap.size, 0, none⟩ = some (.bool n.leaf) ∧ W.cell? ⟨w.heap.size, 1, none⟩ = some (.slice Ac n.cells.length cc) ∧ W.cell? ⟨w.heap.size, 2, none⟩ = some (.slice Ak n.kids.length ck)) ∧ (W.cell? ⟨(w.heap.size + 1), 0, none⟩ = some (.bool m.leaf) ∧ W.cell? ⟨(w.heap.size + 1), 1, none⟩ = some (.slice Bc m.cells.length dc) ∧ W.cell? ⟨(w.heap.size + 1), 2, none⟩ = some (.slice Bk m.kids.length dk)) ∧ (W.cell? ⟨P, 0, none⟩ = some (.bool n.leaf) ∧ W.cell? ⟨P, 1, none⟩ = some (.slice A1 n.cells.length c1) ∧ W.cell? ⟨P, 2, none⟩ = some (.slice A2 n.kids.length c2)) ∧ (W.cell? ⟨R, 0, none⟩ = some (.bool m.leaf) ∧ W.cell? ⟨R, 1, none⟩ = some (.slice B1 m.cells.length e1) ∧ W.cell? ⟨R, 2, none⟩ = some (.slice B2 m.kids.length e2)) := fun W hW => by
            obtain ⟨-, h1, h2, h3, h4, -⟩ := HALL.out W hW
            exact ⟨h1, h2, h3, h4⟩
          have HS15 := Lib.hid hs15
          have hst := hs15 _ hq
          clear hs15
          have TK1 : Hid True := Lib.hid trivial
          have TK2 : Hid True := Lib.hid trivial
          have TK3 : Hid True := Lib.hid trivial
          have TK4 : Hid True := Lib.hid trivial
          go_region_held3 (fun W => (W.cell? ⟨w.heap.size, 0, none⟩ = some (.bool n.leaf) ∧ W.cell? ⟨w.heap.size, 1, none⟩ = some (.slice Ac n.cells.length cc) ∧ W.cell? ⟨w.heap.size, 2, none⟩ = some (.slice Ak n.kids.length ck)) ∧ (W.cell? ⟨(w.heap.size + 1), 0, none⟩ = some (.bool m.leaf) ∧ W.cell? ⟨(w.heap.size + 1), 1, none⟩ = some (.slice Bc m.cells.length dc) ∧ W.cell? ⟨(w.heap.size + 1), 2, none⟩ = some (.slice Bk m.kids.length dk)) ∧ (W.cell? ⟨P, 0, none⟩ = some (.bool n.leaf) ∧ W.cell? ⟨P, 1, none⟩ = some (.slice A1 n.cells.length c1) ∧ W.cell? ⟨P, 2, none⟩ = some (.slice A2 n.kids.length c2)) ∧ (W.cell? ⟨R, 0, none⟩ = some (.bool m.leaf) ∧ W.cell? ⟨R, 1, none⟩ = some (.slice B1 m.cells.length e1) ∧ W.cell? ⟨R, 2, none⟩ = some (.slice B2 m.kids.length e2))) (first | with_reducible exact hst | exact HS15.out _ hq)
            (first
              | (have htok := TK1.out; go_at_call 20; refine (back_any n _ _ (HALL.out _ hq).2.2.2.2.2.2.2.1 hsn.cells hsn.kids).mono ?_; rintro e wy ⟨vy1, rfl, hoy, hby⟩; have HO1 := Lib.hid (show NodeN wy Any vy1 n from hoy.node.any); replace hq := Qp.grow hq hby; clear hoy hby htok TK1)
              | (have htok := TK2.out; go_at_call 19; refine (same_yes n _ _ _ HO1.out (HALL.out _ hq).2.2.2.2.2.1 (by omega) (by omega)).mono ?_; rintro e wy ⟨rfl, hby⟩; replace hq := Qp.grow hq hby; clear hby htok TK2)
              | (have htok := TK3.out; go_at_call 20; refine (back_any m _ _ (HALL.out _ hq).2.2.2.2.2.2.2.2.1 hsm.cells hsm.kids).mono ?_; rintro e wy ⟨vy2, rfl, hoy, hby⟩; have HO2 := Lib.hid (show NodeN wy Any vy2 m from hoy.node.any); replace hq := Qp.grow hq hby; clear hoy hby htok TK3)
              | (have htok := TK4.out; go_at_call 19; refine (same_yes m _ _ _ HO2.out (HALL.out _ hq).2.2.2.2.2.2.1 (by omega) (by omega)).mono ?_; rintro e wy ⟨rfl, hby⟩; replace hq := Qp.grow hq hby; clear hby htok TK4)
              | (go_at_call 9; refine (awake_any _).mono ?_; rintro e wy ⟨rfl, hby⟩; replace hq := Qp.grow hq hby; clear hby))
          have HF := Lib.hid hq.1
          clear hq hst
          go_wp2_with fail
          go_ret
          exact ⟨rfl, HF.out⟩
      · have a1 : (2000 : Int) < (key.size : Int) := by omega
        have cA := awake_any w4
        go_wp2_with fail
        refine cA.mono ?_
        rintro e wz ⟨rfl, hbz⟩
        have HF := Lib.hid (HFIN.out _ ((hb4).trans (Joins.below_le hbz (hb4).size)))
        clear cA hbz
        go_wp2_with fail
        go_ret
        exact ⟨rfl, HF.out⟩

end Go.Proofs.Ytedcknlafkokkaa
