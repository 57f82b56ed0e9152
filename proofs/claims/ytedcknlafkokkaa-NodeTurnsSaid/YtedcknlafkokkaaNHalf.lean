/-
  A node's halves: the program's halves. No statement is proved here. No condition.
-/
import Derived.Test.YtedcknlafkokkaaNCopy
namespace Go.Proofs.Ytedcknlafkokkaa
open Go.RowKit

theorem elem_C : Try.prog.underlying 29 = some (.slice (Try.prog.elem 29)) := by kernel_rfl
theorem elem_I : Try.prog.underlying 23 = some (.slice (Try.prog.elem 23)) := by kernel_rfl
theorem size_C (W : World) : (sizeOf (Try.prog.elem 29)).run Try.prog W = .ok 4 W := by kernel_rfl
theorem size_I (W : World) : (sizeOf (Try.prog.elem 23)).run Try.prog W = .ok 1 W := by kernel_rfl
/-- what s[k:] lies at -/
def atFrom (A : Option Addr) (c k s : Nat) : Option Addr := if c = k then A else A.map (·.add (k * s))
theorem tillC (W : World) (a : Option Addr) (len c k : Nat) (hc : k ≤ c) : (Instr.slice 29 (.slice a len c) none (some (.int .i64 (k : Int))) none).run Try.prog W = .ok (.slice a k c) W := by
  rw [run_slice_h _ _ _ _ _ elem_C .i64 (k : Int) (by omega) (by omega), size_C]
  simp only [Result.andThen, sliced, Int.toNat_natCast, Nat.sub_zero, Nat.zero_mul]
  split
  · rfl
  · cases a <;> simp [Addr.add]
theorem tillI (W : World) (a : Option Addr) (len c k : Nat) (hc : k ≤ c) : (Instr.slice 23 (.slice a len c) none (some (.int .i64 (k : Int))) none).run Try.prog W = .ok (.slice a k c) W := by
  rw [run_slice_h _ _ _ _ _ elem_I .i64 (k : Int) (by omega) (by omega), size_I]
  simp only [Result.andThen, sliced, Int.toNat_natCast, Nat.sub_zero, Nat.zero_mul]
  split
  · rfl
  · cases a <;> simp [Addr.add]
theorem fromC (W : World) (A : Option Addr) (len c k : Nat) (hl : k ≤ len) : (Instr.slice 29 (.slice A len c) (some (.int .i64 (k : Int))) none none).run Try.prog W = .ok (.slice (atFrom A c k 4) (len - k) (c - k)) W := by
  rw [run_slice_l _ _ _ _ _ elem_C .i64 (k : Int) (by omega) (by omega), size_C]
  simp only [Result.andThen, sliced, Int.toNat_natCast]
  unfold atFrom
  rfl
theorem fromI (W : World) (A : Option Addr) (len c k : Nat) (hl : k ≤ len) : (Instr.slice 23 (.slice A len c) (some (.int .i64 (k : Int))) none none).run Try.prog W = .ok (.slice (atFrom A c k 1) (len - k) (c - k)) W := by
  rw [run_slice_l _ _ _ _ _ elem_I .i64 (k : Int) (by omega) (by omega), size_I]
  simp only [Result.andThen, sliced, Int.toNat_natCast]
  unfold atFrom
  rfl
theorem RowN.take {w : World} {N : Nat → Prop} {A : Option Addr} {n c size k : Nat} {xs : List Value} (h : RowN w N (.slice A n c) n size xs) (hk : k ≤ n) : RowN w N (.slice A k c) k size (xs.take (k * size)) := by
  obtain ⟨A0, c0, he, h1, h2, h3, h4, h5⟩ := h
  injection he with e1 _ e2
  subst e1 e2
  have : k * size ≤ n * size := Nat.mul_le_mul_right _ hk
  refine ⟨A, c, rfl, by rw [List.length_take]; omega, by omega, h3, h4, fun h0 => ?_⟩
  obtain ⟨b, o, hA, hb, hs, hc⟩ := h5 (by omega)
  refine ⟨b, o, hA, hb, hs, fun j u hj => hc j u ?_⟩
  rw [List.getElem?_take] at hj
  split at hj
  · exact hj
  · cases hj
theorem RowN.drop {w : World} {N : Nat → Prop} {A : Option Addr} {n c size k : Nat} {xs : List Value} (h : RowN w N (.slice A n c) n size xs) (hk : k ≤ n) : RowN w N (.slice (atFrom A c k size) (n - k) (c - k)) (n - k) size (xs.drop (k * size)) := by
  obtain ⟨A0, c0, he, h1, h2, h3, h4, h5⟩ := h
  injection he with e1 _ e2
  subst e1 e2
  refine ⟨_, _, rfl, by rw [List.length_drop, h1, Nat.mul_sub_right_distrib], by omega, by omega, fun h0 => ?_, fun h0 => ?_⟩
  · unfold atFrom at h0
    split at h0
    · omega
    · cases A with
      | none => have := h4 rfl; omega
      | some a => cases h0
  · obtain ⟨b, o, hA, hb, hs, hc⟩ := h5 (by omega)
    subst hA
    refine ⟨b, o + k * size, ?_, hb, hs, fun j u hj => ?_⟩
    · unfold atFrom
      rw [if_neg (by omega)]
      show some ((⟨b, o, none⟩ : Addr).add (k * size)) = _
      rw [plus_zero]
    · rw [List.getElem?_drop] at hj
      rw [Nat.add_assoc]
      exact hc _ _ hj
def PN.first (n : PN) (i : Nat) : PN := if n.leaf then ⟨true, n.cells.take i, []⟩ else ⟨false, n.cells.take i, n.kids.take (min (i + 1) n.kids.length)⟩
def PN.second (n : PN) (i : Nat) : PN := if n.leaf then ⟨true, n.cells.drop i, []⟩ else ⟨false, n.cells.drop (i + 1), n.kids.drop (min (i + 1) n.kids.length)⟩
theorem CsN.take {w : World} {N : Nat → Prop} {A : Option Addr} {c k : Nat} {l : List PC} (h : CsN w N (.slice A l.length c) l) (hk : k ≤ l.length) : CsN w N (.slice A k c) (l.take k) := by
  have := RowN.take h hk
  unfold CsN
  rw [CsV_take, List.length_take, Nat.min_eq_left hk]
  exact this
theorem CsN.drop {w : World} {N : Nat → Prop} {A : Option Addr} {c k : Nat} {l : List PC} (h : CsN w N (.slice A l.length c) l) (hk : k ≤ l.length) : CsN w N (.slice (atFrom A c k 4) (l.length - k) (c - k)) (l.drop k) := by
  have := RowN.drop h hk
  unfold CsN
  rw [CsV_drop, List.length_drop]
  exact this
theorem KsN.take {w : World} {N : Nat → Prop} {A : Option Addr} {c k : Nat} {l : List Int} (h : KsN w N (.slice A l.length c) l) (hk : k ≤ l.length) : KsN w N (.slice A k c) (l.take k) := by
  have := RowN.take h hk
  unfold KsN
  rw [show KsV (l.take k) = (KsV l).take (k * 1) by simp [KsV, List.map_take], List.length_take, Nat.min_eq_left hk]
  exact this
theorem KsN.drop {w : World} {N : Nat → Prop} {A : Option Addr} {c k : Nat} {l : List Int} (h : KsN w N (.slice A l.length c) l) (hk : k ≤ l.length) : KsN w N (.slice (atFrom A c k 1) (l.length - k) (c - k)) (l.drop k) := by
  have := RowN.drop h hk
  unfold KsN
  rw [show KsV (l.drop k) = (KsV l).drop (k * 1) by simp [KsV, List.map_drop], List.length_drop]
  exact this
theorem CsN.nil (w : World) (N : Nat → Prop) : CsN w N (.slice none 0 0) [] := RowN.nil w N 4
theorem KsN.nil (w : World) (N : Nat → Prop) : KsN w N (.slice none 0 0) [] := RowN.nil w N 1
theorem minI (a b : Nat) : (if (b : Int) < (a : Int) then (b : Int) else (a : Int)) = ((min a b : Nat) : Int) := by split <;> omega
theorem drew_heap (w : World) : w.drew.heap = w.heap := rfl
/-- two structs of three cells, written -/
theorem six {w3 : World} {p q : Nat} {T : TypeId} {a b c a' b' c' x y z x' y' z' : Value} (hpq : p ≠ q) (hp : w3.heap[p]? = some (.cells #[a, b, c] T (0, 0))) (hq : w3.heap[q]? = some (.cells #[a', b', c'] T (0, 0))) :
    ((((((w3.setCell ⟨p, 0, none⟩ x).setCell ⟨p, 1, none⟩ y).setCell ⟨p, 2, none⟩ z).setCell ⟨q, 0, none⟩ x').setCell ⟨q, 1, none⟩ y').setCell ⟨q, 2, none⟩ z').heap[p]? = some (.cells #[x, y, z] T (0, 0)) ∧
    ((((((w3.setCell ⟨p, 0, none⟩ x).setCell ⟨p, 1, none⟩ y).setCell ⟨p, 2, none⟩ z).setCell ⟨q, 0, none⟩ x').setCell ⟨q, 1, none⟩ y').setCell ⟨q, 2, none⟩ z').heap[q]? = some (.cells #[x', y', z'] T (0, 0)) := by
  constructor
  · rw [set_far hpq, set_far hpq, set_far hpq, Joins.block_setCell (Joins.block_setCell (Joins.block_setCell hp _) _) _]
    simp
  · have hq' : (((w3.setCell ⟨p, 0, none⟩ x).setCell ⟨p, 1, none⟩ y).setCell ⟨p, 2, none⟩ z).heap[q]? = some (.cells #[a', b', c'] T (0, 0)) := by rw [set_far hpq.symm, set_far hpq.symm, set_far hpq.symm]; exact hq
    rw [Joins.block_setCell (Joins.block_setCell (Joins.block_setCell hq' _) _) _]
    simp
theorem six_below {w w3 : World} {B p q : Nat} {x y z x' y' z' : Value} (h : Below B w w3) (hp : B ≤ p) (hq : B ≤ q) :
    Below B w ((((((w3.setCell ⟨p, 0, none⟩ x).setCell ⟨p, 1, none⟩ y).setCell ⟨p, 2, none⟩ z).setCell ⟨q, 0, none⟩ x').setCell ⟨q, 1, none⟩ y').setCell ⟨q, 2, none⟩ z') :=
  (((((h.setCell hp _).setCell hp _).setCell hp _).setCell hq _).setCell hq _).setCell hq _
/-- what two struct cells come to, read behind it -/
structure Two3 (w W : World) (p q : Nat) (va vb : Value) : Prop where
  below : Below w.heap.size w W
  fst : ∃ x y z, va = .agg #[x, y, z] ∧ W.cell? ⟨p, 0, none⟩ = some x ∧ W.cell? ⟨p, 1, none⟩ = some y ∧ W.cell? ⟨p, 2, none⟩ = some z
  snd : ∃ x y z, vb = .agg #[x, y, z] ∧ W.cell? ⟨q, 0, none⟩ = some x ∧ W.cell? ⟨q, 1, none⟩ = some y ∧ W.cell? ⟨q, 2, none⟩ = some z
set_option maxHeartbeats 1000000 in
set_option maxRecDepth 100000 in
theorem halves_any (n : PN) (N : Nat → Prop) (v : Value) (i : Nat) (w : World) (h : NodeN w N v n) (hl : n.cells.length ≤ 1000000) (hi : i < n.cells.length) (_hkl : n.kids.length ≤ 1000000) :
    Calls Try.prog 56 #[v, .int .i64 (i : Int)] w fun e w' => ∃ va vb, e = .returned (.tuple #[va, vb]) ∧ NodeN w' N va (n.first i) ∧ NodeN w' N vb (n.second i) ∧ Below w.heap.size w w' := by
  obtain ⟨vc, vk, rfl, hc, hk⟩ := h
  obtain ⟨Ac, cc, rfl, hcl, hcm⟩ := hc.slice
  obtain ⟨Ak, ck, rfl, hkl2, hkm⟩ := hk.slice
  obtain ⟨w1, hw1⟩ : ∃ w1, w1 = w.alloc (.cells #[.bool n.leaf, .slice Ac n.cells.length cc, .slice Ak n.kids.length ck] 31) := ⟨_, rfl⟩
  have hb1 : Below w.heap.size w w1 := by rw [hw1]; exact (Below.refl _ _).alloc (Nat.le_refl _) _
  have hs1 : w1.heap.size = w.heap.size + 1 := by rw [hw1]; simp
  have hx1 : w1.heap[w.heap.size]? = some (.cells #[.bool n.leaf, .slice Ac n.cells.length cc, .slice Ak n.kids.length ck] 31 (0, 0)) := by rw [hw1]; exact heap_alloc_new w _
  obtain ⟨w2, hw2⟩ : ∃ w2, w2 = w1.alloc (.cells #[.bool false, .slice none 0 0, .slice none 0 0] 31) := ⟨_, rfl⟩
  have hb2 : Below w1.heap.size w1 w2 := by rw [hw2]; exact (Below.refl _ _).alloc (Nat.le_refl _) _
  have hs2 : w2.heap.size = w.heap.size + 2 := by rw [hw2]; simp [hs1]
  have hy2 : w2.heap[w.heap.size + 1]? = some (.cells #[.bool false, .slice none 0 0, .slice none 0 0] 31 (0, 0)) := by rw [hw2, ← hs1]; exact heap_alloc_new w1 _
  have hx2 := (hb2.block w.heap.size (by omega)).trans hx1
  obtain ⟨w3, hw3⟩ : ∃ w3, w3 = w2.alloc (.cells #[.bool false, .slice none 0 0, .slice none 0 0] 31) := ⟨_, rfl⟩
  have hb3 : Below w2.heap.size w2 w3 := by rw [hw3]; exact (Below.refl _ _).alloc (Nat.le_refl _) _
  have hs3 : w3.heap.size = w.heap.size + 3 := by rw [hw3]; simp [hs2]
  have hz3 : w3.heap[w.heap.size + 2]? = some (.cells #[.bool false, .slice none 0 0, .slice none 0 0] 31 (0, 0)) := by rw [hw3, ← hs2]; exact heap_alloc_new w2 _
  have hx3 := (hb3.block w.heap.size (by omega)).trans hx2
  have hy3 := (hb3.block (w.heap.size + 1) (by omega)).trans hy2
  have hbw : Below w.heap.size w w3 := (hb1.trans (Joins.below_le hb2 hb1.size)).trans (Joins.below_le hb3 (by omega))
  have hzn := zero_node
  have hw123 : w3 = ((w.alloc (.cells #[.bool n.leaf, .slice Ac n.cells.length cc, .slice Ak n.kids.length ck] 31)).alloc (.cells #[.bool false, .slice none 0 0, .slice none 0 0] 31)).alloc (.cells #[.bool false, .slice none 0 0, .slice none 0 0] 31) := by rw [hw3, hw2, hw1]
  have x0 : w3.cell? ⟨w.heap.size, 0, none⟩ = some (.bool n.leaf) := (row_cells hx3).1 0
  have x1 : w3.cell? ⟨w.heap.size, 1, none⟩ = some (.slice Ac n.cells.length cc) := (row_cells hx3).1 1
  have x2 : w3.cell? ⟨w.heap.size, 2, none⟩ = some (.slice Ak n.kids.length ck) := (row_cells hx3).1 2
  have y0 : w3.cell? ⟨w.heap.size + 1, 0, none⟩ = some (.bool false) := (row_cells hy3).1 0
  have y1 : w3.cell? ⟨w.heap.size + 1, 1, none⟩ = some (.slice none 0 0) := (row_cells hy3).1 1
  have y2 : w3.cell? ⟨w.heap.size + 1, 2, none⟩ = some (.slice none 0 0) := (row_cells hy3).1 2
  have y3 : w3.frozen? ⟨w.heap.size + 1, 0, none⟩ = false := (row_cells hy3).2 0
  have y4 : w3.frozen? ⟨w.heap.size + 1, 1, none⟩ = false := (row_cells hy3).2 1
  have y5 : w3.frozen? ⟨w.heap.size + 1, 2, none⟩ = false := (row_cells hy3).2 2
  have u0 : w3.cell? ⟨w.heap.size + 2, 0, none⟩ = some (.bool false) := (row_cells hz3).1 0
  have u1 : w3.cell? ⟨w.heap.size + 2, 1, none⟩ = some (.slice none 0 0) := (row_cells hz3).1 1
  have u2 : w3.cell? ⟨w.heap.size + 2, 2, none⟩ = some (.slice none 0 0) := (row_cells hz3).1 2
  have u3 : w3.frozen? ⟨w.heap.size + 2, 0, none⟩ = false := (row_cells hz3).2 0
  have u4 : w3.frozen? ⟨w.heap.size + 2, 1, none⟩ = false := (row_cells hz3).2 1
  have u5 : w3.frozen? ⟨w.heap.size + 2, 2, none⟩ = false := (row_cells hz3).2 2
  have s1 : ∀ W : World, (Instr.sliceAt 29 (.slice Ac n.cells.length cc) none (some (.int .i64 (i : Int))) none).run Try.prog W = .ok (.slice Ac i cc) W := fun W => (run_sliceAt_slice _ _ _ _ _ _ elem_C).trans (tillC W Ac n.cells.length cc i (by omega))
  have s2 : ∀ W : World, (Instr.sliceAt 29 (.slice Ac n.cells.length cc) (some (.int .i64 (i : Int))) none none).run Try.prog W = .ok (.slice (atFrom Ac cc i 4) (n.cells.length - i) (cc - i)) W := fun W => (run_sliceAt_slice _ _ _ _ _ _ elem_C).trans (fromC W Ac n.cells.length cc i (by omega))
  have HX3 := Lib.hid hx3
  have HY3 := Lib.hid hy3
  have HZ3 := Lib.hid hz3
  have HBW := Lib.hid hbw
  have HW := Lib.hid hw123
  have HC := Lib.hid hc
  have HK := Lib.hid hk
  have HS3 := Lib.hid hs3
  clear hw1 hw2 hw3 hb1 hb2 hb3 hs1 hs2 hx1 hx2 hy2 hx3 hy3 hz3 hbw hw123 hc hk hs3
  have hzn := zero_node
  go_enter Try.func56, Try.ntmps56
  cases hlf : n.leaf with
  | true =>
    rw [hlf] at x0
    have HW' := HW.out
    rw [hlf] at HW'
    have HW2 := Lib.hid HW'
    clear HW'
    go_upto_region 2 with fail
    rw [← HW2.out]
    rw [show w.heap.size + 1 + 1 = w.heap.size + 2 from rfl]
    go_region
    generalize hW : World.drew (World.setCell _ _ _) = W
    have e12 := six (x := .bool true) (y := .slice Ac i cc) (z := .slice none 0 0) (x' := .bool true) (y' := .slice (atFrom Ac cc i 4) (n.cells.length - i) (cc - i)) (z' := .slice none 0 0) (by omega : w.heap.size + 1 ≠ w.heap.size + 2) HY3.out HZ3.out
    have hbf := six_below (x := .bool true) (y := .slice Ac i cc) (z := .slice none 0 0) (x' := .bool true) (y' := .slice (atFrom Ac cc i 4) (n.cells.length - i) (cc - i)) (z' := .slice none 0 0) HBW.out (by omega : w.heap.size ≤ w.heap.size + 1) (by omega : w.heap.size ≤ w.heap.size + 2)
    have hbf' : Below w.heap.size w W := by rw [← hW]; exact hbf.drew
    have e1 : W.heap[w.heap.size + 1]? = some (.cells #[.bool true, .slice Ac i cc, .slice none 0 0] 31 (0, 0)) := by rw [← hW, drew_heap]; exact e12.1
    have e2 : W.heap[w.heap.size + 2]? = some (.cells #[.bool true, .slice (atFrom Ac cc i 4) (n.cells.length - i) (cc - i), .slice none 0 0] 31 (0, 0)) := by rw [← hW, drew_heap]; exact e12.2
    have q0 : W.cell? ⟨w.heap.size + 1, 0, none⟩ = some (.bool true) := (row_cells e1).1 0
    have q1 : W.cell? ⟨w.heap.size + 1, 1, none⟩ = some (.slice Ac i cc) := (row_cells e1).1 1
    have q2 : W.cell? ⟨w.heap.size + 1, 2, none⟩ = some (.slice none 0 0) := (row_cells e1).1 2
    have q3 : W.cell? ⟨w.heap.size + 2, 0, none⟩ = some (.bool true) := (row_cells e2).1 0
    have q4 : W.cell? ⟨w.heap.size + 2, 1, none⟩ = some (.slice (atFrom Ac cc i 4) (n.cells.length - i) (cc - i)) := (row_cells e2).1 1
    have q5 : W.cell? ⟨w.heap.size + 2, 2, none⟩ = some (.slice none 0 0) := (row_cells e2).1 2
    have HBF := Lib.hid hbf'
    have HLF := Lib.hid hlf
    clear e12 hbf hbf' e1 e2 hW x0 x1 x2 y0 y1 y2 y3 y4 y5 u0 u1 u2 u3 u4 u5 s1 s2 hlf
    go_wp2_with fail
    refine bodyPost_ret (v := .tuple #[.agg #[.bool true, .slice Ac i cc, .slice none 0 0], .agg #[.bool true, .slice (atFrom Ac cc i 4) (n.cells.length - i) (cc - i), .slice none 0 0]]) (by rw [results_cc rfl]; go_simp; try rfl) rfl ?_
    have hcW := HC.out.grow HBF.out
    have f1 : n.first i = ⟨true, n.cells.take i, []⟩ := by unfold PN.first; rw [HLF.out]; rfl
    have f2 : n.second i = ⟨true, n.cells.drop i, []⟩ := by unfold PN.second; rw [HLF.out]; rfl
    rw [f1, f2]
    exact ⟨_, _, rfl, ⟨_, _, rfl, CsN.take hcW (by omega), KsN.nil _ _⟩, ⟨_, _, rfl, CsN.drop hcW (by omega), KsN.nil _ _⟩, HBF.out⟩
  | false =>
    rw [hlf] at x0
    have HW' := HW.out
    rw [hlf] at HW'
    have HW2 := Lib.hid HW'
    clear HW'
    obtain ⟨m, hm⟩ : ∃ m, m = min (i + 1) n.kids.length := ⟨_, rfl⟩
    have hmk : m ≤ n.kids.length := by omega
    have hmin : (if (n.kids.length : Int) < (i : Int) + 1 then (n.kids.length : Int) else (i : Int) + 1) = (m : Int) := by split <;> omega
    have s3 : ∀ W : World, (Instr.sliceAt 29 (.slice Ac n.cells.length cc) (some (.int .i64 ((i : Int) + 1))) none none).run Try.prog W = .ok (.slice (atFrom Ac cc (i + 1) 4) (n.cells.length - (i + 1)) (cc - (i + 1))) W := fun W => (run_sliceAt_slice _ _ _ _ _ _ elem_C).trans (fromC W Ac n.cells.length cc (i + 1) (by omega))
    have s4 : ∀ W : World, (Instr.sliceAt 23 (.slice Ak n.kids.length ck) none (some (.int .i64 (m : Int))) none).run Try.prog W = .ok (.slice Ak m ck) W := fun W => (run_sliceAt_slice _ _ _ _ _ _ elem_I).trans (tillI W Ak n.kids.length ck m (by omega))
    have s5 : ∀ W : World, (Instr.sliceAt 23 (.slice Ak n.kids.length ck) (some (.int .i64 (m : Int))) none none).run Try.prog W = .ok (.slice (atFrom Ak ck m 1) (n.kids.length - m) (ck - m)) W := fun W => (run_sliceAt_slice _ _ _ _ _ _ elem_I).trans (fromI W Ak n.kids.length ck m (by omega))
    have HM := Lib.hid hm
    clear hm s2
    go_upto_region 3 with fail
    rw [← HW2.out]
    rw [show w.heap.size + 1 + 1 = w.heap.size + 2 from rfl]
    go_upto_region 4 with fail
    go_region
    generalize hW : World.drew (World.setCell _ _ _) = W
    have e12 := six (x := .bool false) (y := .slice Ac i cc) (z := .slice Ak m ck) (x' := .bool false) (y' := .slice (atFrom Ac cc (i + 1) 4) (n.cells.length - (i + 1)) (cc - (i + 1))) (z' := .slice (atFrom Ak ck m 1) (n.kids.length - m) (ck - m)) (by omega : w.heap.size + 1 ≠ w.heap.size + 2) HY3.out HZ3.out
    have hbf := six_below (x := .bool false) (y := .slice Ac i cc) (z := .slice Ak m ck) (x' := .bool false) (y' := .slice (atFrom Ac cc (i + 1) 4) (n.cells.length - (i + 1)) (cc - (i + 1))) (z' := .slice (atFrom Ak ck m 1) (n.kids.length - m) (ck - m)) HBW.out (by omega : w.heap.size ≤ w.heap.size + 1) (by omega : w.heap.size ≤ w.heap.size + 2)
    have hbf' : Below w.heap.size w W := by rw [← hW]; exact hbf.drew
    have e1 : W.heap[w.heap.size + 1]? = some (.cells #[.bool false, .slice Ac i cc, .slice Ak m ck] 31 (0, 0)) := by rw [← hW, drew_heap]; exact e12.1
    have e2 : W.heap[w.heap.size + 2]? = some (.cells #[.bool false, .slice (atFrom Ac cc (i + 1) 4) (n.cells.length - (i + 1)) (cc - (i + 1)), .slice (atFrom Ak ck m 1) (n.kids.length - m) (ck - m)] 31 (0, 0)) := by rw [← hW, drew_heap]; exact e12.2
    have q0 : W.cell? ⟨w.heap.size + 1, 0, none⟩ = some (.bool false) := (row_cells e1).1 0
    have q1 : W.cell? ⟨w.heap.size + 1, 1, none⟩ = some (.slice Ac i cc) := (row_cells e1).1 1
    have q2 : W.cell? ⟨w.heap.size + 1, 2, none⟩ = some (.slice Ak m ck) := (row_cells e1).1 2
    have q3 : W.cell? ⟨w.heap.size + 2, 0, none⟩ = some (.bool false) := (row_cells e2).1 0
    have q4 : W.cell? ⟨w.heap.size + 2, 1, none⟩ = some (.slice (atFrom Ac cc (i + 1) 4) (n.cells.length - (i + 1)) (cc - (i + 1))) := (row_cells e2).1 1
    have q5 : W.cell? ⟨w.heap.size + 2, 2, none⟩ = some (.slice (atFrom Ak ck m 1) (n.kids.length - m) (ck - m)) := (row_cells e2).1 2
    have HBF := Lib.hid hbf'
    have HLF := Lib.hid hlf
    clear e12 hbf hbf' e1 e2 hW x0 x1 x2 y0 y1 y2 y3 y4 y5 u0 u1 u2 u3 u4 u5 s1 s3 s4 s5 hlf hmin
    go_wp2_with fail
    refine bodyPost_ret (v := .tuple #[.agg #[.bool false, .slice Ac i cc, .slice Ak m ck], .agg #[.bool false, .slice (atFrom Ac cc (i + 1) 4) (n.cells.length - (i + 1)) (cc - (i + 1)), .slice (atFrom Ak ck m 1) (n.kids.length - m) (ck - m)]]) (by rw [results_cc rfl]; go_simp; try rfl) rfl ?_
    have hcW := HC.out.grow HBF.out
    have hkW := HK.out.grow HBF.out
    have f1 : n.first i = ⟨false, n.cells.take i, n.kids.take m⟩ := by unfold PN.first; rw [HLF.out, HM.out]; rfl
    have f2 : n.second i = ⟨false, n.cells.drop (i + 1), n.kids.drop m⟩ := by unfold PN.second; rw [HLF.out, HM.out]; rfl
    rw [f1, f2]
    exact ⟨_, _, rfl, ⟨_, _, rfl, CsN.take hcW (by omega), KsN.take hkW hmk⟩, ⟨_, _, rfl, CsN.drop hcW (by omega), KsN.drop hkW hmk⟩, HBF.out⟩
end Go.Proofs.Ytedcknlafkokkaa
