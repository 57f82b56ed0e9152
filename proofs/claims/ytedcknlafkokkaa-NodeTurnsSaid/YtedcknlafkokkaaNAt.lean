/-
  A node cut at a place, by the document's words: its at. No statement is proved here. No condition.
-/
import Derived.Test.YtedcknlafkokkaaNTwin
import Derived.Test.YtedcknlafkokkaaNBig
namespace Go.Proofs.Ytedcknlafkokkaa
open Go.RowKit

theorem NodeN.rowC {w : World} {N : Nat → Prop} {b : Bool} {x y : Value} {n : PN} (h : NodeN w N (.agg #[.bool b, x, y]) n) : CsN w N x n.cells := by
  obtain ⟨vc, vk, he, h1, -⟩ := h
  injection he with he
  have e1 : (#[Value.bool b, x, y] : Array Value)[1]? = (#[Value.bool n.leaf, vc, vk] : Array Value)[1]? := by rw [he]
  have e2 : x = vc := by simpa using e1
  rw [e2]
  exact h1
theorem tillRC (W : World) (a : Option Addr) (len c k : Nat) (hc : k ≤ c) : (Instr.slice 22 (.slice a len c) none (some (.int .i64 (k : Int))) none).run Try.prog W = .ok (.slice a k c) W := by
  rw [run_slice_h _ _ _ _ _ elem_RC .i64 (k : Int) (by omega) (by omega), size_RC]
  simp only [Result.andThen, sliced, Int.toNat_natCast, Nat.sub_zero, Nat.zero_mul]
  split
  · rfl
  · cases a with
    | none => rfl
    | some a => simp [Addr.add]
theorem fromRC (W : World) (A : Option Addr) (len c k : Nat) (hl : k ≤ len) : (Instr.slice 22 (.slice A len c) (some (.int .i64 (k : Int))) none none).run Try.prog W = .ok (.slice (atFrom A c k 4) (len - k) (c - k)) W := by
  rw [run_slice_l _ _ _ _ _ elem_RC .i64 (k : Int) (by omega) (by omega), size_RC]
  simp only [Result.andThen, sliced, Int.toNat_natCast]
  unfold atFrom
  rfl
theorem six_far {w3 : World} {b p q : Nat} {x y z x' y' z' : Value} (hp : b ≠ p) (hq : b ≠ q) :
    ((((((w3.setCell ⟨p, 0, none⟩ x).setCell ⟨p, 1, none⟩ y).setCell ⟨p, 2, none⟩ z).setCell ⟨q, 0, none⟩ x').setCell ⟨q, 1, none⟩ y').setCell ⟨q, 2, none⟩ z').drew.heap[b]? = w3.heap[b]? := by
  rw [drew_heap, set3_far hq, set3_far hp]
theorem six_size {w3 : World} {p q : Nat} {x y z x' y' z' : Value} :
    ((((((w3.setCell ⟨p, 0, none⟩ x).setCell ⟨p, 1, none⟩ y).setCell ⟨p, 2, none⟩ z).setCell ⟨q, 0, none⟩ x').setCell ⟨q, 1, none⟩ y').setCell ⟨q, 2, none⟩ z').drew.heap.size = w3.heap.size := by
  rw [drew_heap, set3_size, set3_size]
set_option maxHeartbeats 8000000 in
set_option maxRecDepth 1000000 in
theorem refat_any (n : PN) (v : Value) (i : Nat) (c : PC) (w : World) (h : NodeN w Any v n) (hci : n.cells[i]? = some c) (hl : n.cells.length ≤ 1000000) (hkl : n.kids.length ≤ 1000000) :
    Calls Try.prog 58 #[v, .int .i64 (i : Int)] w fun e w' => ∃ va vb, e = .returned (.tuple #[va, .string c.key, vb]) ∧ NodeN w' (fun b => w.heap.size ≤ b) va (n.first i) ∧ NodeN w' (fun b => w.heap.size ≤ b) vb (n.second i) ∧ Below w.heap.size w w' := by
  have hi : i < n.cells.length := (List.getElem?_eq_some_iff.1 hci).1
  obtain ⟨vc, vk, rfl, hc, hk⟩ := id h
  obtain ⟨Ac, cc, rfl, hcl, hcm⟩ := hc.slice
  obtain ⟨Ak, ck, rfl, hkl2, hkm⟩ := hk.slice
  obtain ⟨b, o, n', k', hv, -, hbs, c0, -, -, -⟩ := hc.cell hci
  injection hv with e1 e2 e3
  subst e1 e2 e3
  obtain ⟨w1, hw1⟩ : ∃ w1, w1 = w.alloc (.cells #[.bool n.leaf, .slice (some ⟨b, o, none⟩) n.cells.length cc, .slice Ak n.kids.length ck] 25) := ⟨_, rfl⟩
  have hb1 : Below w.heap.size w w1 := by rw [hw1]; exact (Below.refl _ _).alloc (Nat.le_refl _) _
  have hs1 : w1.heap.size = w.heap.size + 1 := by rw [hw1]; simp
  have hx1 : w1.heap[w.heap.size]? = some (.cells #[.bool n.leaf, .slice (some ⟨b, o, none⟩) n.cells.length cc, .slice Ak n.kids.length ck] 25 (0, 0)) := by rw [hw1]; exact heap_alloc_new w _
  obtain ⟨w2, hw2⟩ : ∃ w2, w2 = w1.alloc (.cells #[.bool false, .slice none 0 0, .slice none 0 0] 25) := ⟨_, rfl⟩
  have hb2 : Below w1.heap.size w1 w2 := by rw [hw2]; exact (Below.refl _ _).alloc (Nat.le_refl _) _
  have hs2 : w2.heap.size = w.heap.size + 2 := by rw [hw2]; simp [hs1]
  have hy2 : w2.heap[w.heap.size + 1]? = some (.cells #[.bool false, .slice none 0 0, .slice none 0 0] 25 (0, 0)) := by rw [hw2, ← hs1]; exact heap_alloc_new w1 _
  obtain ⟨w3, hw3⟩ : ∃ w3, w3 = w2.alloc (.cells #[.bool false, .slice none 0 0, .slice none 0 0] 25) := ⟨_, rfl⟩
  have hb3 : Below w2.heap.size w2 w3 := by rw [hw3]; exact (Below.refl _ _).alloc (Nat.le_refl _) _
  have hs3 : w3.heap.size = w.heap.size + 3 := by rw [hw3]; simp [hs2]
  have hz3 : w3.heap[w.heap.size + 2]? = some (.cells #[.bool false, .slice none 0 0, .slice none 0 0] 25 (0, 0)) := by rw [hw3, ← hs2]; exact heap_alloc_new w2 _
  have hx3 := (hb3.block w.heap.size (by omega)).trans ((hb2.block w.heap.size (by omega)).trans hx1)
  have hy3 := (hb3.block (w.heap.size + 1) (by omega)).trans hy2
  have hbw : Below w.heap.size w w3 := (hb1.trans (Joins.below_le hb2 hb1.size)).trans (Joins.below_le hb3 (by omega))
  have hzn := zero_nodeR
  have cT := twin_any n _ w3 (h.grow hbw) hl hkl
  have x0 : w3.cell? ⟨w.heap.size, 0, none⟩ = some (.bool n.leaf) := (row_cells hx3).1 0
  have x1 : w3.cell? ⟨w.heap.size, 1, none⟩ = some (.slice (some ⟨b, o, none⟩) n.cells.length cc) := (row_cells hx3).1 1
  have x2 : w3.cell? ⟨w.heap.size, 2, none⟩ = some (.slice Ak n.kids.length ck) := (row_cells hx3).1 2
  have HW1 := Lib.hid hw1
  have HW2 := Lib.hid hw2
  have HW3 := Lib.hid hw3
  have HS3 := Lib.hid hs3
  have HX3 := Lib.hid hx3
  have HY3 := Lib.hid hy3
  have HZ3 := Lib.hid hz3
  have HBW3 := Lib.hid hbw
  have HC0 := Lib.hid c0
  clear hw1 hw2 hw3 hb1 hb2 hb3 hs1 hs2 hx1 hy2 hx3 hy3 hz3 hbw hc hk h hs3 c0
  go_enter Try.func58, Try.ntmps58
  go_upto_region 1 with fail
  rw [← HW1.out, ← HW2.out]
  rw [← HW3.out]
  go_wp2_with fail
  refine cT.mono ?_
  rintro e w4 ⟨v4, rfl, ho4, hb4⟩
  have hn4 := ho4.node
  obtain ⟨At, ct, At', ct', rfl, -, -⟩ := id ho4
  obtain ⟨w5, hw5⟩ : ∃ w5, w5 = w4.alloc (.cells #[.bool n.leaf, .slice At n.cells.length ct, .slice At' n.kids.length ct'] 25) := ⟨_, rfl⟩
  have hb5 : Below w4.heap.size w4 w5 := by rw [hw5]; exact (Below.refl _ _).alloc (Nat.le_refl _) _
  have hx5 : w5.heap[w4.heap.size]? = some (.cells #[.bool n.leaf, .slice At n.cells.length ct, .slice At' n.kids.length ct'] 25 (0, 0)) := by rw [hw5]; exact heap_alloc_new w4 _
  have hb35 : Below w3.heap.size w3 w5 := hb4.trans (Joins.below_le hb5 hb4.size)
  have hs3 := HS3.out
  have hs4 := hb4.size
  obtain ⟨T7, hT7⟩ : ∃ T7, T7 = w4.heap.size := ⟨_, rfl⟩
  have hT7l : w.heap.size + 3 ≤ T7 := by omega
  rw [← hT7] at hx5
  have hxx := (hb35.block w.heap.size (by omega)).trans HX3.out
  have hyy := (hb35.block (w.heap.size + 1) (by omega)).trans HY3.out
  have hzz := (hb35.block (w.heap.size + 2) (by omega)).trans HZ3.out
  have hbw5 : Below w.heap.size w w5 := HBW3.out.trans (Joins.below_le hb35 HBW3.out.size)
  have hcc5 : w5.cell? ⟨b, o + i * 4, none⟩ = some (.string c.key) := (hbw5.cell (p := ⟨b, o + i * 4, none⟩) hbs).trans HC0.out
  have hp : ∀ W : World, W.heap[T7]? = w5.heap[T7]? → W.heap[w.heap.size]? = w5.heap[w.heap.size]? → W.heap[b]? = w5.heap[b]? → W.cell? ⟨T7, 1, none⟩ = some (.slice At n.cells.length ct) ∧ W.cell? ⟨T7, 2, none⟩ = some (.slice At' n.kids.length ct') ∧ W.cell? ⟨w.heap.size, 1, none⟩ = some (.slice (some ⟨b, o, none⟩) n.cells.length cc) ∧ W.cell? ⟨b, o + i * 4, none⟩ = some (.string c.key) := fun W h1 h2 h3 =>
    ⟨(row_cells (h1.trans hx5)).1 1, (row_cells (h1.trans hx5)).1 2, (row_cells (h2.trans hxx)).1 1, (World.cell?_of_block (a := ⟨b, o + i * 4, none⟩) h3).trans hcc5⟩
  have hst := hp w5 rfl rfl rfl
  have HP := Lib.hid hp
  have hn5 : NodeN w5 (fun b => w3.heap.size ≤ b) (.agg #[.bool n.leaf, .slice At n.cells.length ct, .slice At' n.kids.length ct']) n := hn4.grow hb5
  have HN5 := Lib.hid hn5
  have HY5 : Hid (w5.heap[w.heap.size + 1]? = some (.cells #[.bool false, .slice none 0 0, .slice none 0 0] 25 (0, 0))) := Lib.hid hyy
  have HZ5 : Hid (w5.heap[w.heap.size + 2]? = some (.cells #[.bool false, .slice none 0 0, .slice none 0 0] 25 (0, 0))) := Lib.hid hzz
  have HBW := Lib.hid hbw5
  have HW5 := Lib.hid hw5
  have HT7 := Lib.hid hT7
  obtain ⟨Ax, cx, hvx, hcl5, hcm5⟩ := (NodeN.rowC hn5).slice
  injection hvx with hvx1 hvx2 hvx3
  subst hvx1 hvx3
  have hks : n.kids.length ≤ ct' := by
    obtain ⟨vcW, vkW, heW, hcW, hkW⟩ := hn5
    injection heW with heW
    have f2 : (Value.slice At' n.kids.length ct') = vkW := by have := congrArg (fun a : Array Value => a[2]?) heW; simpa using this
    rw [← f2] at hkW
    obtain ⟨A9, c9, h9, h10, -⟩ := hkW.slice
    injection h9 with _ _ h9
    omega
  have s1 : ∀ W : World, (Instr.sliceAt 22 (.slice At n.cells.length ct) none (some (.int .i64 (i : Int))) none).run Try.prog W = .ok (.slice At i ct) W := fun W => (run_sliceAt_slice _ _ _ _ _ _ elem_RC).trans (tillRC W At n.cells.length ct i (by omega))
  have s2 : ∀ W : World, (Instr.sliceAt 22 (.slice At n.cells.length ct) (some (.int .i64 (i : Int))) none none).run Try.prog W = .ok (.slice (atFrom At ct i 4) (n.cells.length - i) (ct - i)) W := fun W => (run_sliceAt_slice _ _ _ _ _ _ elem_RC).trans (fromRC W At n.cells.length ct i (by omega))
  have y0 : w5.cell? ⟨w.heap.size + 1, 0, none⟩ = some (.bool false) := (row_cells hyy).1 0
  have y1 : w5.cell? ⟨w.heap.size + 1, 1, none⟩ = some (.slice none 0 0) := (row_cells hyy).1 1
  have y2 : w5.cell? ⟨w.heap.size + 1, 2, none⟩ = some (.slice none 0 0) := (row_cells hyy).1 2
  have y3 : w5.frozen? ⟨w.heap.size + 1, 0, none⟩ = false := (row_cells hyy).2 0
  have y4 : w5.frozen? ⟨w.heap.size + 1, 1, none⟩ = false := (row_cells hyy).2 1
  have y5 : w5.frozen? ⟨w.heap.size + 1, 2, none⟩ = false := (row_cells hyy).2 2
  have u0 : w5.cell? ⟨w.heap.size + 2, 0, none⟩ = some (.bool false) := (row_cells hzz).1 0
  have u1 : w5.cell? ⟨w.heap.size + 2, 1, none⟩ = some (.slice none 0 0) := (row_cells hzz).1 1
  have u2 : w5.cell? ⟨w.heap.size + 2, 2, none⟩ = some (.slice none 0 0) := (row_cells hzz).1 2
  have u3 : w5.frozen? ⟨w.heap.size + 2, 0, none⟩ = false := (row_cells hzz).2 0
  have u4 : w5.frozen? ⟨w.heap.size + 2, 1, none⟩ = false := (row_cells hzz).2 1
  have u5 : w5.frozen? ⟨w.heap.size + 2, 2, none⟩ = false := (row_cells hzz).2 2
  have a0 : (0 : Int) ≤ (i : Int) := by omega
  have a1 : (i : Int) < (n.cells.length : Int) := by omega
  clear x0 x1 x2
  have x0 : w5.cell? ⟨w.heap.size, 0, none⟩ = some (.bool n.leaf) := (row_cells hxx).1 0
  have x1 : w5.cell? ⟨w.heap.size, 1, none⟩ = some (.slice (some ⟨b, o, none⟩) n.cells.length cc) := (row_cells hxx).1 1
  have x2 : w5.cell? ⟨w.heap.size, 2, none⟩ = some (.slice Ak n.kids.length ck) := (row_cells hxx).1 2
  clear cT ho4 hb4 hn4 hw5 hb5 hx5 hb35 hT7 hxx hyy hzz hbw5 hcc5 hp hn5
  go_upto_region 2 with fail
  rw [← HW5.out, ← HT7.out]
  cases hlf : n.leaf with
  | true =>
    rw [hlf] at x0
    go_upto_region 3 with fail
    clear x0 x1 x2
    have k1 := HP.out (((w5.setCell ⟨w.heap.size + 1, 0, none⟩ (.bool true)).setCell ⟨w.heap.size + 1, 1, none⟩ (.slice At i ct)).setCell ⟨w.heap.size + 1, 2, none⟩ (.slice none 0 0)).drew (by rw [drew_heap]; exact set3_far (by omega)) (by rw [drew_heap]; exact set3_far (by omega)) (by rw [drew_heap]; exact set3_far (by omega))
    have k2 := HP.out ((((((w5.setCell ⟨w.heap.size + 1, 0, none⟩ (.bool true)).setCell ⟨w.heap.size + 1, 1, none⟩ (.slice At i ct)).setCell ⟨w.heap.size + 1, 2, none⟩ (.slice none 0 0)).setCell ⟨w.heap.size + 2, 0, none⟩ (.bool true)).setCell ⟨w.heap.size + 2, 1, none⟩ (.slice (atFrom At ct i 4) (n.cells.length - i) (ct - i))).setCell ⟨w.heap.size + 2, 2, none⟩ (.slice none 0 0)).drew (by rw [drew_heap]; exact (set3_far (by omega)).trans (set3_far (by omega))) (by rw [drew_heap]; exact (set3_far (by omega)).trans (set3_far (by omega))) (by rw [drew_heap]; exact (set3_far (by omega)).trans (set3_far (by omega)))
    have hst5 := HP.out w5.drew rfl rfl rfl
    go_region_held3 (fun W => W.cell? ⟨T7, 1, none⟩ = some (.slice At n.cells.length ct) ∧ W.cell? ⟨T7, 2, none⟩ = some (.slice At' n.kids.length ct') ∧ W.cell? ⟨w.heap.size, 1, none⟩ = some (.slice (some ⟨b, o, none⟩) n.cells.length cc) ∧ W.cell? ⟨b, o + i * 4, none⟩ = some (.string c.key)) (first | with_reducible exact hst5 | with_reducible exact k1 | with_reducible exact k2) (first | fail)
    generalize hW : World.drew (World.setCell _ _ _) = W
    have e12 := six (w3 := w5) (x := (.bool true)) (y := (.slice At i ct)) (z := (.slice none 0 0)) (x' := (.bool true)) (y' := (.slice (atFrom At ct i 4) (n.cells.length - i) (ct - i))) (z' := (.slice none 0 0)) (by omega : w.heap.size + 1 ≠ w.heap.size + 2) HY5.out HZ5.out
    have hbf := six_below (w3 := w5) (x := (.bool true)) (y := (.slice At i ct)) (z := (.slice none 0 0)) (x' := (.bool true)) (y' := (.slice (atFrom At ct i 4) (n.cells.length - i) (ct - i))) (z' := (.slice none 0 0)) HBW.out (by omega : w.heap.size ≤ w.heap.size + 1) (by omega : w.heap.size ≤ w.heap.size + 2)
    have hbf' : Below w.heap.size w W := by rw [← hW]; exact hbf.drew
    have e1 : W.heap[w.heap.size + 1]? = some (.cells #[.bool true, .slice At i ct, .slice none 0 0] 25 (0, 0)) := by rw [← hW, drew_heap]; exact e12.1
    have e2 : W.heap[w.heap.size + 2]? = some (.cells #[.bool true, .slice (atFrom At ct i 4) (n.cells.length - i) (ct - i), .slice none 0 0] 25 (0, 0)) := by rw [← hW, drew_heap]; exact e12.2
    have hnW : NodeN W (fun b => w.heap.size ≤ b) (.agg #[.bool n.leaf, .slice At n.cells.length ct, .slice At' n.kids.length ct']) n := by
      rw [← hW]
      exact HN5.out.kept (fun b h _ => by omega) (Nat.le_of_eq six_size.symm) (fun b h _ => six_far (by omega) (by omega))
    have q0 : W.cell? ⟨w.heap.size + 1, 0, none⟩ = some (.bool true) := (row_cells e1).1 0
    have q1 : W.cell? ⟨w.heap.size + 1, 1, none⟩ = some (.slice At i ct) := (row_cells e1).1 1
    have q2 : W.cell? ⟨w.heap.size + 1, 2, none⟩ = some (.slice none 0 0) := (row_cells e1).1 2
    have q3 : W.cell? ⟨w.heap.size + 2, 0, none⟩ = some (.bool true) := (row_cells e2).1 0
    have q4 : W.cell? ⟨w.heap.size + 2, 1, none⟩ = some (.slice (atFrom At ct i 4) (n.cells.length - i) (ct - i)) := (row_cells e2).1 1
    have q5 : W.cell? ⟨w.heap.size + 2, 2, none⟩ = some (.slice none 0 0) := (row_cells e2).1 2
    obtain ⟨vcW, vkW, heW, hcW, hkW⟩ := hnW
    injection heW with heW
    have f1 : (Value.slice At n.cells.length ct) = vcW := by have := congrArg (fun a : Array Value => a[1]?) heW; simpa using this
    have f2 : (Value.slice At' n.kids.length ct') = vkW := by have := congrArg (fun a : Array Value => a[2]?) heW; simpa using this
    rw [← f1] at hcW
    rw [← f2] at hkW
    have HCW := Lib.hid hcW
    have HKW := Lib.hid hkW
    have HBF := Lib.hid hbf'
    have HLF := Lib.hid hlf
    clear e12 hbf hbf' e1 e2 hW k1 k2 hst5 hcW hkW heW f1 f2 y0 y1 y2 y3 y4 y5 u0 u1 u2 u3 u4 u5 hst s1 s2 hlf
    go_wp2_with fail
    refine bodyPost_ret (v := .tuple #[.agg #[.bool true, .slice At i ct, .slice none 0 0], .string c.key, .agg #[.bool true, .slice (atFrom At ct i 4) (n.cells.length - i) (ct - i), .slice none 0 0]]) (by rw [results_ctc rfl]; go_simp; try rfl) rfl ?_
    have g1 : n.first i = ⟨true, n.cells.take i, []⟩ := by unfold PN.first; rw [HLF.out]; rfl
    have g2 : n.second i = ⟨true, n.cells.drop i, []⟩ := by unfold PN.second; rw [HLF.out]; rfl
    rw [g1, g2]
    exact ⟨_, _, rfl, ⟨_, _, rfl, CsN.take HCW.out (by omega), KsN.nil _ _⟩, ⟨_, _, rfl, CsN.drop HCW.out (by omega), KsN.nil _ _⟩, HBF.out⟩
  | false =>
    rw [hlf] at x0
    obtain ⟨m, hm⟩ : ∃ m, m = min (i + 1) n.kids.length := ⟨_, rfl⟩
    have hmk : m ≤ n.kids.length := by omega
    have hmin : (if (n.kids.length : Int) < (i : Int) + 1 then (n.kids.length : Int) else (i : Int) + 1) = (m : Int) := by split <;> omega
    have s3 : ∀ W : World, (Instr.sliceAt 22 (.slice At n.cells.length ct) (some (.int .i64 ((i : Int) + 1))) none none).run Try.prog W = .ok (.slice (atFrom At ct (i + 1) 4) (n.cells.length - (i + 1)) (ct - (i + 1))) W := fun W => (run_sliceAt_slice _ _ _ _ _ _ elem_RC).trans (fromRC W At n.cells.length ct (i + 1) (by omega))
    have s4 : ∀ W : World, (Instr.sliceAt 23 (.slice At' n.kids.length ct') none (some (.int .i64 (m : Int))) none).run Try.prog W = .ok (.slice At' m ct') W := fun W => (run_sliceAt_slice _ _ _ _ _ _ elem_I).trans (tillI W At' n.kids.length ct' m (by omega))
    have s5 : ∀ W : World, (Instr.sliceAt 23 (.slice At' n.kids.length ct') (some (.int .i64 (m : Int))) none none).run Try.prog W = .ok (.slice (atFrom At' ct' m 1) (n.kids.length - m) (ct' - m)) W := fun W => (run_sliceAt_slice _ _ _ _ _ _ elem_I).trans (fromI W At' n.kids.length ct' m (by omega))
    have HM := Lib.hid hm
    have b0 : (0 : Int) ≤ (i : Int) + 1 := by omega
    have b1 : (i : Int) + 1 ≤ (n.cells.length : Int) := by omega
    have b2 : IntKind.i64.wrap ((i : Int) + 1) = (i : Int) + 1 := by rw [IntKind.wrap_i64]; omega
    have b5 : wrap64 ((i : Int) + 1) = (i : Int) + 1 := by unfold wrap64; omega
    have b3 : (0 : Int) ≤ (m : Int) := by omega
    have b4 : (m : Int) ≤ (n.kids.length : Int) := by omega
    clear hm s2
    have t2 : w5.cell? ⟨T7, 2, none⟩ = some (.slice At' n.kids.length ct') := hst.2.1
    go_upto_region 5 with fail
    clear t2
    clear x0 x1 x2
    have k1 := HP.out (((w5.setCell ⟨w.heap.size + 1, 0, none⟩ (.bool false)).setCell ⟨w.heap.size + 1, 1, none⟩ (.slice At i ct)).setCell ⟨w.heap.size + 1, 2, none⟩ (.slice At' m ct')).drew (by rw [drew_heap]; exact set3_far (by omega)) (by rw [drew_heap]; exact set3_far (by omega)) (by rw [drew_heap]; exact set3_far (by omega))
    have k2 := HP.out ((((((w5.setCell ⟨w.heap.size + 1, 0, none⟩ (.bool false)).setCell ⟨w.heap.size + 1, 1, none⟩ (.slice At i ct)).setCell ⟨w.heap.size + 1, 2, none⟩ (.slice At' m ct')).setCell ⟨w.heap.size + 2, 0, none⟩ (.bool false)).setCell ⟨w.heap.size + 2, 1, none⟩ (.slice (atFrom At ct (i + 1) 4) (n.cells.length - (i + 1)) (ct - (i + 1)))).setCell ⟨w.heap.size + 2, 2, none⟩ (.slice (atFrom At' ct' m 1) (n.kids.length - m) (ct' - m))).drew (by rw [drew_heap]; exact (set3_far (by omega)).trans (set3_far (by omega))) (by rw [drew_heap]; exact (set3_far (by omega)).trans (set3_far (by omega))) (by rw [drew_heap]; exact (set3_far (by omega)).trans (set3_far (by omega)))
    have hst5 := HP.out w5.drew rfl rfl rfl
    go_region_held3 (fun W => W.cell? ⟨T7, 1, none⟩ = some (.slice At n.cells.length ct) ∧ W.cell? ⟨T7, 2, none⟩ = some (.slice At' n.kids.length ct') ∧ W.cell? ⟨w.heap.size, 1, none⟩ = some (.slice (some ⟨b, o, none⟩) n.cells.length cc) ∧ W.cell? ⟨b, o + i * 4, none⟩ = some (.string c.key)) (first | with_reducible exact hst5 | with_reducible exact k1 | with_reducible exact k2) (first | fail)
    clear b0 b1 b2 b3 b4 b5
    generalize hW : World.drew (World.setCell _ _ _) = W
    have e12 := six (w3 := w5) (x := (.bool false)) (y := (.slice At i ct)) (z := (.slice At' m ct')) (x' := (.bool false)) (y' := (.slice (atFrom At ct (i + 1) 4) (n.cells.length - (i + 1)) (ct - (i + 1)))) (z' := (.slice (atFrom At' ct' m 1) (n.kids.length - m) (ct' - m))) (by omega : w.heap.size + 1 ≠ w.heap.size + 2) HY5.out HZ5.out
    have hbf := six_below (w3 := w5) (x := (.bool false)) (y := (.slice At i ct)) (z := (.slice At' m ct')) (x' := (.bool false)) (y' := (.slice (atFrom At ct (i + 1) 4) (n.cells.length - (i + 1)) (ct - (i + 1)))) (z' := (.slice (atFrom At' ct' m 1) (n.kids.length - m) (ct' - m))) HBW.out (by omega : w.heap.size ≤ w.heap.size + 1) (by omega : w.heap.size ≤ w.heap.size + 2)
    have hbf' : Below w.heap.size w W := by rw [← hW]; exact hbf.drew
    have e1 : W.heap[w.heap.size + 1]? = some (.cells #[.bool false, .slice At i ct, .slice At' m ct'] 25 (0, 0)) := by rw [← hW, drew_heap]; exact e12.1
    have e2 : W.heap[w.heap.size + 2]? = some (.cells #[.bool false, .slice (atFrom At ct (i + 1) 4) (n.cells.length - (i + 1)) (ct - (i + 1)), .slice (atFrom At' ct' m 1) (n.kids.length - m) (ct' - m)] 25 (0, 0)) := by rw [← hW, drew_heap]; exact e12.2
    have hnW : NodeN W (fun b => w.heap.size ≤ b) (.agg #[.bool n.leaf, .slice At n.cells.length ct, .slice At' n.kids.length ct']) n := by
      rw [← hW]
      exact HN5.out.kept (fun b h _ => by omega) (Nat.le_of_eq six_size.symm) (fun b h _ => six_far (by omega) (by omega))
    have q0 : W.cell? ⟨w.heap.size + 1, 0, none⟩ = some (.bool false) := (row_cells e1).1 0
    have q1 : W.cell? ⟨w.heap.size + 1, 1, none⟩ = some (.slice At i ct) := (row_cells e1).1 1
    have q2 : W.cell? ⟨w.heap.size + 1, 2, none⟩ = some (.slice At' m ct') := (row_cells e1).1 2
    have q3 : W.cell? ⟨w.heap.size + 2, 0, none⟩ = some (.bool false) := (row_cells e2).1 0
    have q4 : W.cell? ⟨w.heap.size + 2, 1, none⟩ = some (.slice (atFrom At ct (i + 1) 4) (n.cells.length - (i + 1)) (ct - (i + 1))) := (row_cells e2).1 1
    have q5 : W.cell? ⟨w.heap.size + 2, 2, none⟩ = some (.slice (atFrom At' ct' m 1) (n.kids.length - m) (ct' - m)) := (row_cells e2).1 2
    obtain ⟨vcW, vkW, heW, hcW, hkW⟩ := hnW
    injection heW with heW
    have f1 : (Value.slice At n.cells.length ct) = vcW := by have := congrArg (fun a : Array Value => a[1]?) heW; simpa using this
    have f2 : (Value.slice At' n.kids.length ct') = vkW := by have := congrArg (fun a : Array Value => a[2]?) heW; simpa using this
    rw [← f1] at hcW
    rw [← f2] at hkW
    have HCW := Lib.hid hcW
    have HKW := Lib.hid hkW
    have HBF := Lib.hid hbf'
    have HLF := Lib.hid hlf
    clear e12 hbf hbf' e1 e2 hW k1 k2 hst5 hcW hkW heW f1 f2 y0 y1 y2 y3 y4 y5 u0 u1 u2 u3 u4 u5 hst s1 s3 s4 s5 hmin hlf
    go_wp2_with fail
    refine bodyPost_ret (v := .tuple #[.agg #[.bool false, .slice At i ct, .slice At' m ct'], .string c.key, .agg #[.bool false, .slice (atFrom At ct (i + 1) 4) (n.cells.length - (i + 1)) (ct - (i + 1)), .slice (atFrom At' ct' m 1) (n.kids.length - m) (ct' - m)]]) (by rw [results_ctc rfl]; go_simp; try rfl) rfl ?_
    have g1 : n.first i = ⟨false, n.cells.take i, n.kids.take m⟩ := by unfold PN.first; rw [HLF.out, HM.out]; rfl
    have g2 : n.second i = ⟨false, n.cells.drop (i + 1), n.kids.drop m⟩ := by unfold PN.second; rw [HLF.out, HM.out]; rfl
    rw [g1, g2]
    exact ⟨_, _, rfl, ⟨_, _, rfl, CsN.take HCW.out (by omega), KsN.take HKW.out hmk⟩, ⟨_, _, rfl, CsN.drop HCW.out (by omega), KsN.drop HKW.out hmk⟩, HBF.out⟩
end Go.Proofs.Ytedcknlafkokkaa
