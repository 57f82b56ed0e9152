/-
  What each statement of stage 9 asks first: is something put, and done once? No statement is proved here. No condition.
-/
import Derived.Test.YtlgjidoehnhnoaaEProg
namespace Go.Proofs.Ytlgjidoehnhnoaa
open Go.RowKit

def opPut : PO := ⟨2, ⟨#[97]⟩, ⟨#[49]⟩, ⟨#[]⟩, false⟩
def opDel : PO := ⟨3, ⟨#[97]⟩, ⟨#[]⟩, ⟨#[]⟩, false⟩
def pA : PP := ⟨⟨#[97]⟩, ⟨#[49]⟩⟩
def lA : PL := ⟨201, 5, ⟨1, false, ⟨#[]⟩⟩⟩
theorem works_do : doE [] opPut = ([pA], ⟨1, false, ⟨#[]⟩⟩) ∧ opPut.err = 0 := ⟨rfl, rfl⟩
theorem works_5 : stepP [pA] [lA] 201 5 opDel = ([pA], [lA], ⟨1, false, ⟨#[]⟩⟩) ∧ stepErr [lA] 201 5 opDel = 0 := ⟨rfl, rfl⟩
theorem works_6 : stepP [pA] [lA] 201 6 opDel = ([], [⟨201, 6, ⟨1, true, ⟨#[]⟩⟩⟩], ⟨1, true, ⟨#[]⟩⟩) ∧ stepErr [lA] 201 6 opDel = 0 := ⟨rfl, rfl⟩
theorem works_4 : stepP [pA] [lA] 201 4 opDel = ([], [], zR) ∧ stepErr [lA] 201 4 opDel = 6 := ⟨rfl, rfl⟩

set_option maxHeartbeats 8000000 in
set_option maxRecDepth 100000 in
theorem works_any (w : World) : Calls Try.prog 10 #[] w fun e w' => e = .returned (.bool true) ∧ Below w.heap.size w w' := by
  have cD := pdo_any [] opPut (.slice none 0 0) w (Rec.N.nil _ _) (by simp) (by decide)
  rw [works_do.1, works_do.2] at cD
  have hz := zero_res
  have hzp : ∀ W, (zeroValue 24).run Try.prog W = .ok (.agg #[.string ⟨#[]⟩, .string ⟨#[]⟩]) W := fun W => by kernel_rfl
  have hzo : ∀ W, (zeroValue 32).run Try.prog W = .ok (.agg #[.int .u8 0, .string ⟨#[]⟩, .string ⟨#[]⟩, .string ⟨#[]⟩, .bool false]) W := fun W => by kernel_rfl
  have hzl : ∀ W, (zeroValue 46).run Try.prog W = .ok (.agg #[.int .i64 0, .int .i64 0, .int .u8 0, .bool false, .string ⟨#[]⟩]) W := fun W => by kernel_rfl
  unfold PO.agg opPut PR.agg at cD
  go_enter Try.func10, Try.ntmps10
  go_wp2_with fail
  refine cD.mono ?_
  rintro e w1 ⟨v1, rfl, ho1, hb1⟩
  obtain ⟨A1, c1, rfl⟩ := Rec.Own.slice ho1
  obtain ⟨w2, hw2⟩ : ∃ w2, w2 = w1.alloc (.cells #[.int .u8 1, .bool false, .string ⟨#[]⟩] 27) := ⟨_, rfl⟩
  have hb12 : Below w1.heap.size w1 w2 := by rw [hw2]; exact (Below.refl _ _).alloc (Nat.le_refl _) _
  have x2 : w2.heap[w1.heap.size]? = some (.cells #[.int .u8 1, .bool false, .string ⟨#[]⟩] 27 (0, 0)) := by rw [hw2]; exact heap_alloc_new w1 _
  have hs2 : w2.heap.size = w1.heap.size + 1 := by rw [hw2]; simp
  have hbw2 := hb1.trans (Joins.below_le hb12 hb1.size)
  have ho2 := Rec.Own.below ho1 hb12
  have hn2 : pairR.N w2 Any (.slice A1 [pA].length c1) [pA] := ho2.n.any
  obtain ⟨b, ob, n', k', hv, -, -, f0, f1⟩ := pair_cell hn2 (i := 0) (p := pA) rfl
  injection hv with e1 e2 e3
  subst e1 e2 e3
  rw [Nat.zero_mul, Nat.add_zero] at f0 f1
  have f0' : w2.cell? ⟨b, ob, none⟩ = some (.string ⟨#[97]⟩) := f0
  have f1' : w2.cell? ⟨b, ob + 1, none⟩ = some (.string ⟨#[49]⟩) := f1
  obtain ⟨r0, r1, r2⟩ : (w2.cell? ⟨w1.heap.size, 0, none⟩ = some (.int .u8 1) ∧ w2.cell? ⟨w1.heap.size, 1, none⟩ = some (.bool false) ∧ w2.cell? ⟨w1.heap.size, 2, none⟩ = some (.string ⟨#[]⟩)) := ⟨(blk_cells x2).1 0, (blk_cells x2).1 1, (blk_cells x2).1 2⟩
  have HW2 := Lib.hid hw2
  have HS2 := Lib.hid hs2
  clear hs2
  have l1 : [pA].length = 1 := rfl
  rw [l1] at hn2
  clear cD hw2 f0 f1
  go_upto_region 2 with fail
  rw [← HW2.out]
  obtain ⟨w3, hw3⟩ : ∃ w3, w3 = w2.alloc (.cells #[.int .i64 201, .int .i64 5, .int .u8 1, .bool false, .string ⟨#[]⟩] 46) := ⟨_, rfl⟩
  have hb23 : Below w2.heap.size w2 w3 := by rw [hw3]; exact (Below.refl _ _).alloc (Nat.le_refl _) _
  have x3 : w3.heap[w2.heap.size]? = some (.cells #[.int .i64 201, .int .i64 5, .int .u8 1, .bool false, .string ⟨#[]⟩] 46 (0, 0)) := by rw [hw3]; exact heap_alloc_new w2 _
  have hs3 : w3.heap.size = w2.heap.size + 1 := by rw [hw3]; simp
  obtain ⟨w4, hw4⟩ : ∃ w4, w4 = w3.alloc (.cells #[.int .u8 3, .string ⟨#[97]⟩, .string ⟨#[]⟩, .string ⟨#[]⟩, .bool false] 32) := ⟨_, rfl⟩
  have hb34 : Below w3.heap.size w3 w4 := by rw [hw4]; exact (Below.refl _ _).alloc (Nat.le_refl _) _
  have x4 : w4.heap[w2.heap.size + 1]? = some (.cells #[.int .u8 3, .string ⟨#[97]⟩, .string ⟨#[]⟩, .string ⟨#[]⟩, .bool false] 32 (0, 0)) := by rw [hw4, ← hs3]; exact heap_alloc_new w3 _
  have hs4 : w4.heap.size = w3.heap.size + 1 := by rw [hw4]; simp
  have hb24 := hb23.trans (Joins.below_le hb34 hb23.size)
  have hbw4 := hbw2.trans (Joins.below_le hb24 hbw2.size)
  -- the lists, wherever these blocks stand
  have hl3 : lastR.N w3 Any (.slice (some ⟨w2.heap.size, 0, none⟩) 1 1) [lA] := Rec.one_row (R := lastR) (a := lA) x3 trivial
  have hl4 := hl3.grow hb34
  have hn4 := Rec.N.grow hn2 hb24
  have HW3 := Lib.hid hw3
  have HS3 := Lib.hid hs3
  clear hs3
  have HW4 := Lib.hid hw4
  have HS4 := Lib.hid hs4
  clear hs4
  go_upto_region 6 with fail
  rw [← HW3.out]
  rw [← HW4.out]
  obtain ⟨o0, o1, o2, o3, o4⟩ : (w4.cell? ⟨w2.heap.size + 1, 0, none⟩ = some (.int .u8 3) ∧ w4.cell? ⟨w2.heap.size + 1, 1, none⟩ = some (.string ⟨#[97]⟩) ∧ w4.cell? ⟨w2.heap.size + 1, 2, none⟩ = some (.string ⟨#[]⟩) ∧ w4.cell? ⟨w2.heap.size + 1, 3, none⟩ = some (.string ⟨#[]⟩) ∧ w4.cell? ⟨w2.heap.size + 1, 4, none⟩ = some (.bool false)) := ⟨(blk_cells x4).1 0, (blk_cells x4).1 1, (blk_cells x4).1 2, (blk_cells x4).1 3, (blk_cells x4).1 4⟩
  have hs2 := HS2.out
  have hs3 := HS3.out
  have hs4 := HS4.out
  have z1 := hb1.size
  have x2' : w4.heap[w1.heap.size]? = some (.cells #[.int .u8 1, .bool false, .string ⟨#[]⟩] 27 (0, 0)) := (hb24.block _ (by omega)).trans x2
  have x3' : w4.heap[w2.heap.size]? = some (.cells #[.int .i64 201, .int .i64 5, .int .u8 1, .bool false, .string ⟨#[]⟩] 46 (0, 0)) := (hb34.block _ (by omega)).trans x3
  have ho4 := Rec.Own.below ho2 hb24
  have c5 := pstep_any [pA] [lA] 201 5 opDel _ _ w4 hn4 hl4 (by simp) (by simp) (by decide)
  rw [works_5.1, works_5.2] at c5
  unfold PO.agg opDel PR.agg at c5
  clear hs2 hs3 hs4 r0 r1 r2 f0' f1' hw3 hw4
  have hs2 := HS2
  go_wp2_with fail
  refine c5.mono ?_
  rintro e w5 ⟨va5, vb5, rfl, oa5, ob5, hb45⟩
  obtain ⟨Aa5, ca5, rfl⟩ := Rec.Own.slice oa5
  obtain ⟨Ab5, cb5, rfl⟩ := Rec.Own.slice ob5
  have g2 := HS2.out
  have g3 := HS3.out
  have g4 := HS4.out
  have x2'' := (hb45.block _ (by omega)).trans x2'
  have x3'' := (hb45.block _ (by omega)).trans x3'
  have x4'' := (hb45.block _ (by omega)).trans x4
  obtain ⟨w6, hw6⟩ : ∃ w6, w6 = (((w5.setCell ⟨w1.heap.size, 0, none⟩ (.int .u8 1)).setCell ⟨w1.heap.size, 1, none⟩ (.bool false)).setCell ⟨w1.heap.size, 2, none⟩ (.string ⟨#[]⟩)) := ⟨_, rfl⟩
  have e6 := set3_at (x := .int .u8 1) (y := .bool false) (z := .string ⟨#[]⟩) x2''
  rw [← hw6] at e6
  have far6 : ∀ p, p ≠ w1.heap.size → w6.heap[p]? = w5.heap[p]? := fun p hp => by rw [hw6]; exact set3_far hp
  have hs6 : w6.heap.size = w5.heap.size := by rw [hw6]; simp [World.setCell]
  have x36 := (far6 _ (by omega)).trans x3''
  have x46 := (far6 _ (by omega)).trans x4''
  have ho5 := Rec.Own.below ho4 hb45
  have ho6 : pairR.Own w6 w.heap.size 24 (.slice (some ⟨b, ob, none⟩) [pA].length c1) [pA] := row_same ho5 fun p hp => far6 p (by have := (ho1.lt p hp).2; omega)
  have hn6 : pairR.N w6 Any (.slice (some ⟨b, ob, none⟩) [pA].length c1) [pA] := ho6.n.any
  have hl6 : lastR.N w6 Any (.slice (some ⟨w2.heap.size, 0, none⟩) 1 1) [lA] := Rec.one_row (R := lastR) (a := lA) x36 trivial
  have hbw6 : Below w.heap.size w w6 := by rw [hw6]; exact set3_below (hbw4.trans (Joins.below_le hb45 hbw4.size)) (by omega)
  obtain ⟨r0, r1, r2⟩ : (w5.cell? ⟨w1.heap.size, 0, none⟩ = some (.int .u8 1) ∧ w5.cell? ⟨w1.heap.size, 1, none⟩ = some (.bool false) ∧ w5.cell? ⟨w1.heap.size, 2, none⟩ = some (.string ⟨#[]⟩)) := ⟨(blk_cells x2'').1 0, (blk_cells x2'').1 1, (blk_cells x2'').1 2⟩
  obtain ⟨r3, r4, r5⟩ : w5.frozen? ⟨w1.heap.size, 0, none⟩ = false ∧ w5.frozen? ⟨w1.heap.size, 1, none⟩ = false ∧ w5.frozen? ⟨w1.heap.size, 2, none⟩ = false := ⟨(blk_cells x2'').2 0, (blk_cells x2'').2 1, (blk_cells x2'').2 2⟩
  have HW6 := Lib.hid hw6
  clear c5 o0 o1 o2 o3 o4 g2 g3 g4 hw6
  go_upto_region 7 with fail
  rw [← HW6.out]
  clear r0 r1 r2 r3 r4 r5
  obtain ⟨o0, o1, o2, o3, o4⟩ : (w6.cell? ⟨w2.heap.size + 1, 0, none⟩ = some (.int .u8 3) ∧ w6.cell? ⟨w2.heap.size + 1, 1, none⟩ = some (.string ⟨#[97]⟩) ∧ w6.cell? ⟨w2.heap.size + 1, 2, none⟩ = some (.string ⟨#[]⟩) ∧ w6.cell? ⟨w2.heap.size + 1, 3, none⟩ = some (.string ⟨#[]⟩) ∧ w6.cell? ⟨w2.heap.size + 1, 4, none⟩ = some (.bool false)) := ⟨(blk_cells x46).1 0, (blk_cells x46).1 1, (blk_cells x46).1 2, (blk_cells x46).1 3, (blk_cells x46).1 4⟩
  have c6 := pstep_any [pA] [lA] 201 6 opDel _ _ w6 hn6 hl6 (by simp) (by simp) (by decide)
  rw [works_6.1, works_6.2] at c6
  unfold PO.agg opDel PR.agg at c6
  rw [l1] at c6
  go_wp2_with fail
  refine c6.mono ?_
  rintro e w7 ⟨va7, vb7, rfl, oa7, ob7, hb67⟩
  obtain ⟨Aa7, ca7, rfl⟩ := Rec.Own.slice oa7
  obtain ⟨Ab7, cb7, rfl⟩ := Rec.Own.slice ob7
  obtain ⟨w8, hw8⟩ : ∃ w8, w8 = w7.alloc (.cells #[.int .u8 1, .bool true, .string ⟨#[]⟩] 27) := ⟨_, rfl⟩
  have hb78 : Below w7.heap.size w7 w8 := by rw [hw8]; exact (Below.refl _ _).alloc (Nat.le_refl _) _
  have x8 : w8.heap[w7.heap.size]? = some (.cells #[.int .u8 1, .bool true, .string ⟨#[]⟩] 27 (0, 0)) := by rw [hw8]; exact heap_alloc_new w7 _
  have hs8 : w8.heap.size = w7.heap.size + 1 := by rw [hw8]; simp
  have hb68 := hb67.trans (Joins.below_le hb78 hb67.size)
  have lt3 := (Array.getElem?_eq_some_iff.1 x36).1
  have lt4 := (Array.getElem?_eq_some_iff.1 x46).1
  have lt1 := (Array.getElem?_eq_some_iff.1 e6).1
  have x38 := (hb68.block _ lt3).trans x36
  have x48 := (hb68.block _ lt4).trans x46
  have e8 := (hb68.block _ lt1).trans e6
  have hn8 := Rec.N.grow hn6 hb68
  have hl8 := Rec.N.grow hl6 hb68
  have hbw8 := hbw6.trans (Joins.below_le hb68 hbw6.size)
  have HW8 := Lib.hid hw8
  have HS8 := Lib.hid hs8
  clear c6 o0 o1 o2 o3 o4 hw8 hs8 hs6
  go_upto_region 8 with fail
  rw [← HW8.out]
  obtain ⟨o0, o1, o2, o3, o4⟩ : (w8.cell? ⟨w2.heap.size + 1, 0, none⟩ = some (.int .u8 3) ∧ w8.cell? ⟨w2.heap.size + 1, 1, none⟩ = some (.string ⟨#[97]⟩) ∧ w8.cell? ⟨w2.heap.size + 1, 2, none⟩ = some (.string ⟨#[]⟩) ∧ w8.cell? ⟨w2.heap.size + 1, 3, none⟩ = some (.string ⟨#[]⟩) ∧ w8.cell? ⟨w2.heap.size + 1, 4, none⟩ = some (.bool false)) := ⟨(blk_cells x48).1 0, (blk_cells x48).1 1, (blk_cells x48).1 2, (blk_cells x48).1 3, (blk_cells x48).1 4⟩
  have c9 := pstep_any [pA] [lA] 201 4 opDel _ _ w8 hn8 hl8 (by simp) (by simp) (by decide)
  rw [works_4.1, works_4.2] at c9
  unfold PO.agg opDel PR.agg zR at c9
  rw [l1] at c9
  go_wp2_with fail
  refine c9.mono ?_
  rintro e w9 ⟨va9, vb9, rfl, oa9, ob9, hb89⟩
  obtain ⟨Aa9, ca9, rfl⟩ := Rec.Own.slice oa9
  obtain ⟨Ab9, cb9, rfl⟩ := Rec.Own.slice ob9
  obtain ⟨w10, hw10⟩ : ∃ w10, w10 = w9.alloc (.cells #[.int .u8 0, .bool false, .string ⟨#[]⟩] 27) := ⟨_, rfl⟩
  have hb910 : Below w9.heap.size w9 w10 := by rw [hw10]; exact (Below.refl _ _).alloc (Nat.le_refl _) _
  have hb810 := hb89.trans (Joins.below_le hb910 hb89.size)
  have x310 := (hb810.block _ (Array.getElem?_eq_some_iff.1 x38).1).trans x38
  have e10 := (hb810.block _ (Array.getElem?_eq_some_iff.1 e8).1).trans e8
  have x10 := (hb810.block _ (Array.getElem?_eq_some_iff.1 x8).1).trans x8
  have ob10 := Rec.Own.below (Rec.Own.below ob7 hb78) hb810
  have hb10 := hbw8.trans (Joins.below_le hb810 hbw8.size)
  obtain ⟨b7, o7, n7, k7, hv7, -, -, g0, g1, g2, g3, g4⟩ := last_cell ob10.n (i := 0) (p := ⟨201, 6, ⟨1, true, ⟨#[]⟩⟩⟩) rfl
  injection hv7 with e1 e2 e3
  subst e1 e2 e3
  rw [Nat.zero_mul, Nat.add_zero] at g1
  have g1' : w10.cell? ⟨b7, o7 + 1, none⟩ = some (.int .i64 6) := g1
  obtain ⟨r0, r1, r2⟩ : (w10.cell? ⟨w1.heap.size, 0, none⟩ = some (.int .u8 1) ∧ w10.cell? ⟨w1.heap.size, 1, none⟩ = some (.bool false) ∧ w10.cell? ⟨w1.heap.size, 2, none⟩ = some (.string ⟨#[]⟩)) := ⟨(blk_cells e10).1 0, (blk_cells e10).1 1, (blk_cells e10).1 2⟩
  have t2 : w10.cell? ⟨w2.heap.size, 2, none⟩ = some (.int .u8 1) := (blk_cells x310).1 2
  have t3 : w10.cell? ⟨w2.heap.size, 3, none⟩ = some (.bool false) := (blk_cells x310).1 3
  have t4 : w10.cell? ⟨w2.heap.size, 4, none⟩ = some (.string ⟨#[]⟩) := (blk_cells x310).1 4
  have t5 : w10.cell? ⟨w7.heap.size, 1, none⟩ = some (.bool true) := (blk_cells x10).1 1
  have l2 : ([] : List PP).length = 0 := rfl
  have l3 : [lA].length = 1 := rfl
  have l4 : [(⟨201, 6, ⟨1, true, ⟨#[]⟩⟩⟩ : PL)].length = 1 := rfl
  have HW10 := Lib.hid hw10
  have HB10 := Lib.hid hb10
  clear c9 o0 o1 o2 o3 o4 hw10 g0 g1 g2 g3 g4
  go_upto_region 9 with fail
  rw [← HW10.out]
  go_quiet (fail)
  go_wp2_with fail
  go_ret
  exact ⟨rfl, below_drewN HB10.out _⟩
end Go.Proofs.Ytlgjidoehnhnoaa
