/-
  Nobody's Look and Tell. No statement is proved here. No condition.
-/
import Derived.Test.YtclfhidapkoiiabUEq
namespace Go.Proofs.Ytclfhidapkoiiab
open Go.RowKit Go.Maps

set_option maxHeartbeats 1000000 in
set_option maxRecDepth 100000 in
theorem look_nil (r : Int) (w : World) :
    Calls Try.prog 10 #[.pointer none, .int .i64 r] w fun e w' => e = .returned (.tuple #[zW.agg, .bool false]) ∧ Below w.heap.size w w' := by
  have hz := zero_wt
  obtain ⟨z, hzz⟩ : ∃ z, z = w.heap.size := ⟨_, rfl⟩
  obtain ⟨w1, hw1⟩ : ∃ w1, w1 = w.alloc (.cells #[.int .i64 0, .string ⟨#[]⟩, .int .i64 0, .int .i64 0, .int .i64 0, .int .i64 0, .bool false] 37) := ⟨_, rfl⟩
  have hb1 : Below z w w1 := by rw [hw1, hzz]; exact (Below.refl _ _).alloc (Nat.le_refl _) _
  have hx1 : w1.heap[z]? = some (.cells #[.int .i64 0, .string ⟨#[]⟩, .int .i64 0, .int .i64 0, .int .i64 0, .int .i64 0, .bool false] 37 (0, 0)) := by rw [hw1, hzz]; exact heap_alloc_new w _
  obtain ⟨r0, r1, r2, r3, r4, r5, r6⟩ : w1.cell? ⟨z, 0, none⟩ = some (.int .i64 0) ∧ w1.cell? ⟨z, 1, none⟩ = some (.string ⟨#[]⟩) ∧ w1.cell? ⟨z, 2, none⟩ = some (.int .i64 0) ∧ w1.cell? ⟨z, 3, none⟩ = some (.int .i64 0) ∧ w1.cell? ⟨z, 4, none⟩ = some (.int .i64 0) ∧ w1.cell? ⟨z, 5, none⟩ = some (.int .i64 0) ∧ w1.cell? ⟨z, 6, none⟩ = some (.bool false) := ⟨(blk_cells hx1).1 0, (blk_cells hx1).1 1, (blk_cells hx1).1 2, (blk_cells hx1).1 3, (blk_cells hx1).1 4, (blk_cells hx1).1 5, (blk_cells hx1).1 6⟩
  obtain ⟨g0, g1, g2, g3, g4, g5, g6⟩ : w1.frozen? ⟨z, 0, none⟩ = false ∧ w1.frozen? ⟨z, 1, none⟩ = false ∧ w1.frozen? ⟨z, 2, none⟩ = false ∧ w1.frozen? ⟨z, 3, none⟩ = false ∧ w1.frozen? ⟨z, 4, none⟩ = false ∧ w1.frozen? ⟨z, 5, none⟩ = false ∧ w1.frozen? ⟨z, 6, none⟩ = false := ⟨(blk_cells hx1).2 0, (blk_cells hx1).2 1, (blk_cells hx1).2 2, (blk_cells hx1).2 3, (blk_cells hx1).2 4, (blk_cells hx1).2 5, (blk_cells hx1).2 6⟩
  obtain ⟨wf, hwf⟩ : ∃ wf, wf = ((((((w1.setCell ⟨z, 0, none⟩ (.int .i64 0)).setCell ⟨z, 1, none⟩ (.string ⟨#[]⟩)).setCell ⟨z, 2, none⟩ (.int .i64 0)).setCell ⟨z, 3, none⟩ (.int .i64 0)).setCell ⟨z, 4, none⟩ (.int .i64 0)).setCell ⟨z, 5, none⟩ (.int .i64 0)).setCell ⟨z, 6, none⟩ (.bool false) := ⟨_, rfl⟩
  have hxf : wf.heap[z]? = some (.cells #[.int .i64 0, .string ⟨#[]⟩, .int .i64 0, .int .i64 0, .int .i64 0, .int .i64 0, .bool false] 37 (0, 0)) := by
    rw [hwf, Joins.block_setCell (Joins.block_setCell (Joins.block_setCell (Joins.block_setCell (Joins.block_setCell (Joins.block_setCell (Joins.block_setCell hx1 _) _) _) _) _) _) _]
    simp
  obtain ⟨u0, u1, u2, u3, u4, u5, u6⟩ : wf.cell? ⟨z, 0, none⟩ = some (.int .i64 0) ∧ wf.cell? ⟨z, 1, none⟩ = some (.string ⟨#[]⟩) ∧ wf.cell? ⟨z, 2, none⟩ = some (.int .i64 0) ∧ wf.cell? ⟨z, 3, none⟩ = some (.int .i64 0) ∧ wf.cell? ⟨z, 4, none⟩ = some (.int .i64 0) ∧ wf.cell? ⟨z, 5, none⟩ = some (.int .i64 0) ∧ wf.cell? ⟨z, 6, none⟩ = some (.bool false) := ⟨(blk_cells hxf).1 0, (blk_cells hxf).1 1, (blk_cells hxf).1 2, (blk_cells hxf).1 3, (blk_cells hxf).1 4, (blk_cells hxf).1 5, (blk_cells hxf).1 6⟩
  have hbf : Below z w wf := by rw [hwf]; exact Below.setCell (p := ⟨z, 6, none⟩) (Below.setCell (p := ⟨z, 5, none⟩) (Below.setCell (p := ⟨z, 4, none⟩) (Below.setCell (p := ⟨z, 3, none⟩) (Below.setCell (p := ⟨z, 2, none⟩) (Below.setCell (p := ⟨z, 1, none⟩) (Below.setCell (p := ⟨z, 0, none⟩) hb1 (Nat.le_refl _) _) (Nat.le_refl _) _) (Nat.le_refl _) _) (Nat.le_refl _) _) (Nat.le_refl _) _) (Nat.le_refl _) _) (Nat.le_refl _) _
  have HBF := Lib.hid hbf
  have HW1 := Lib.hid hw1
  have HWF := Lib.hid hwf
  have HZ := Lib.hid hzz
  clear hw1 hb1 hx1 hwf hxf hbf
  go_enter Try.func10, Try.ntmps10
  go_upto_region 1 with fail
  rw [← HW1.out, ← HZ.out]
  clear hzz
  go_wp2_with fail
  rw [← HWF.out]
  refine bodyPost_ret (v := .tuple #[zW.agg, .bool false]) (by clear r0 r1 r2 r3 r4 r5 r6 g0 g1 g2 g3 g4 g5 g6; unfold WT.agg zW; rw [results_ct rfl]; go_simp; try rfl) rfl ?_
  exact ⟨rfl, by rw [← HZ.out]; exact HBF.out⟩
set_option maxHeartbeats 2000000 in
set_option maxRecDepth 100000 in
theorem tell_nil (r : Int) (w : World) :
    Calls Try.prog 8 #[.pointer none, .int .i64 r] w fun e w' => e = .returned (.tuple #[zW.agg, .bool false]) ∧ Below w.heap.size w w' := by
  have hz := zero_wt
  obtain ⟨z, hzz⟩ : ∃ z, z = w.heap.size := ⟨_, rfl⟩
  obtain ⟨w1, hw1⟩ : ∃ w1, w1 = w.alloc (.cells #[.int .i64 0, .string ⟨#[]⟩, .int .i64 0, .int .i64 0, .int .i64 0, .int .i64 0, .bool false] 37) := ⟨_, rfl⟩
  have hb1 : Below z w w1 := by rw [hw1, hzz]; exact (Below.refl _ _).alloc (Nat.le_refl _) _
  have hx1 : w1.heap[z]? = some (.cells #[.int .i64 0, .string ⟨#[]⟩, .int .i64 0, .int .i64 0, .int .i64 0, .int .i64 0, .bool false] 37 (0, 0)) := by rw [hw1, hzz]; exact heap_alloc_new w _
  have cL := look_nil r w1
  have HB1 := Lib.hid hb1
  have HX1 := Lib.hid hx1
  have HW1 := Lib.hid hw1
  have HZ := Lib.hid hzz
  clear hb1 hx1 hw1
  go_enter Try.func8, Try.ntmps8
  go_upto_region 1 with fail
  rw [← HW1.out, ← HZ.out]
  clear hzz
  go_wp2_with fail
  refine cL.mono ?_
  rintro e w2 ⟨he, hb2⟩
  have he : e = .returned (.tuple #[.agg #[.int .i64 0, .string ⟨#[]⟩, .int .i64 0, .int .i64 0, .int .i64 0, .int .i64 0, .bool false], .bool false]) := he
  subst he
  clear cL
  obtain ⟨y, hy⟩ : ∃ y, y = w2.heap.size := ⟨_, rfl⟩
  obtain ⟨w3, hw3⟩ : ∃ w3, w3 = w2.alloc (.cells #[.int .i64 0, .string ⟨#[]⟩, .int .i64 0, .int .i64 0, .int .i64 0, .int .i64 0, .bool false] 37) := ⟨_, rfl⟩
  have hx3 : w3.heap[y]? = some (.cells #[.int .i64 0, .string ⟨#[]⟩, .int .i64 0, .int .i64 0, .int .i64 0, .int .i64 0, .bool false] 37 (0, 0)) := by rw [hw3, hy]; exact heap_alloc_new w2 _
  have hb3 : Below y w2 w3 := by rw [hw3, hy]; exact (Below.refl _ _).alloc (Nat.le_refl _) _
  have hzl : z < w1.heap.size := lt_of_heap HX1.out
  have hyz : w1.heap.size ≤ y := by rw [hy]; exact hb2.size
  have hb13 : Below w1.heap.size w1 w3 := hb2.trans (Joins.below_le hb3 hyz)
  have hz3 : w3.heap[z]? = some (.cells #[.int .i64 0, .string ⟨#[]⟩, .int .i64 0, .int .i64 0, .int .i64 0, .int .i64 0, .bool false] 37 (0, 0)) := (hb13.block z hzl).trans HX1.out
  have hx4 := hx3
  have hz4 := hz3
  obtain ⟨s0, s1, s2, s3, s4, s5, s6⟩ : w3.cell? ⟨y, 0, none⟩ = some (.int .i64 0) ∧ w3.cell? ⟨y, 1, none⟩ = some (.string ⟨#[]⟩) ∧ w3.cell? ⟨y, 2, none⟩ = some (.int .i64 0) ∧ w3.cell? ⟨y, 3, none⟩ = some (.int .i64 0) ∧ w3.cell? ⟨y, 4, none⟩ = some (.int .i64 0) ∧ w3.cell? ⟨y, 5, none⟩ = some (.int .i64 0) ∧ w3.cell? ⟨y, 6, none⟩ = some (.bool false) := ⟨(blk_cells hx4).1 0, (blk_cells hx4).1 1, (blk_cells hx4).1 2, (blk_cells hx4).1 3, (blk_cells hx4).1 4, (blk_cells hx4).1 5, (blk_cells hx4).1 6⟩
  obtain ⟨j0, j1, j2, j3, j4, j5, j6⟩ : w3.cell? ⟨z, 0, none⟩ = some (.int .i64 0) ∧ w3.cell? ⟨z, 1, none⟩ = some (.string ⟨#[]⟩) ∧ w3.cell? ⟨z, 2, none⟩ = some (.int .i64 0) ∧ w3.cell? ⟨z, 3, none⟩ = some (.int .i64 0) ∧ w3.cell? ⟨z, 4, none⟩ = some (.int .i64 0) ∧ w3.cell? ⟨z, 5, none⟩ = some (.int .i64 0) ∧ w3.cell? ⟨z, 6, none⟩ = some (.bool false) := ⟨(blk_cells hz4).1 0, (blk_cells hz4).1 1, (blk_cells hz4).1 2, (blk_cells hz4).1 3, (blk_cells hz4).1 4, (blk_cells hz4).1 5, (blk_cells hz4).1 6⟩
  obtain ⟨k0, k1, k2, k3, k4, k5, k6⟩ : w3.frozen? ⟨z, 0, none⟩ = false ∧ w3.frozen? ⟨z, 1, none⟩ = false ∧ w3.frozen? ⟨z, 2, none⟩ = false ∧ w3.frozen? ⟨z, 3, none⟩ = false ∧ w3.frozen? ⟨z, 4, none⟩ = false ∧ w3.frozen? ⟨z, 5, none⟩ = false ∧ w3.frozen? ⟨z, 6, none⟩ = false := ⟨(blk_cells hz4).2 0, (blk_cells hz4).2 1, (blk_cells hz4).2 2, (blk_cells hz4).2 3, (blk_cells hz4).2 4, (blk_cells hz4).2 5, (blk_cells hz4).2 6⟩
  obtain ⟨wf, hwf⟩ : ∃ wf, wf = ((((((w3.setCell ⟨z, 0, none⟩ (.int .i64 0)).setCell ⟨z, 1, none⟩ (.string ⟨#[]⟩)).setCell ⟨z, 2, none⟩ (.int .i64 0)).setCell ⟨z, 3, none⟩ (.int .i64 0)).setCell ⟨z, 4, none⟩ (.int .i64 0)).setCell ⟨z, 5, none⟩ (.int .i64 0)).setCell ⟨z, 6, none⟩ (.bool false) := ⟨_, rfl⟩
  have hxf : wf.heap[z]? = some (.cells #[.int .i64 0, .string ⟨#[]⟩, .int .i64 0, .int .i64 0, .int .i64 0, .int .i64 0, .bool false] 37 (0, 0)) := by
    rw [hwf, Joins.block_setCell (Joins.block_setCell (Joins.block_setCell (Joins.block_setCell (Joins.block_setCell (Joins.block_setCell (Joins.block_setCell hz4 _) _) _) _) _) _) _]
    simp
  have hbf : Below z w3 wf := by rw [hwf]; exact Below.setCell (p := ⟨z, 6, none⟩) (Below.setCell (p := ⟨z, 5, none⟩) (Below.setCell (p := ⟨z, 4, none⟩) (Below.setCell (p := ⟨z, 3, none⟩) (Below.setCell (p := ⟨z, 2, none⟩) (Below.setCell (p := ⟨z, 1, none⟩) (Below.setCell (p := ⟨z, 0, none⟩) (Below.refl _ _) (Nat.le_refl _) _) (Nat.le_refl _) _) (Nat.le_refl _) _) (Nat.le_refl _) _) (Nat.le_refl _) _) (Nat.le_refl _) _) (Nat.le_refl _) _
  obtain ⟨u0, u1, u2, u3, u4, u5, u6⟩ : wf.cell? ⟨z, 0, none⟩ = some (.int .i64 0) ∧ wf.cell? ⟨z, 1, none⟩ = some (.string ⟨#[]⟩) ∧ wf.cell? ⟨z, 2, none⟩ = some (.int .i64 0) ∧ wf.cell? ⟨z, 3, none⟩ = some (.int .i64 0) ∧ wf.cell? ⟨z, 4, none⟩ = some (.int .i64 0) ∧ wf.cell? ⟨z, 5, none⟩ = some (.int .i64 0) ∧ wf.cell? ⟨z, 6, none⟩ = some (.bool false) := ⟨(blk_cells hxf).1 0, (blk_cells hxf).1 1, (blk_cells hxf).1 2, (blk_cells hxf).1 3, (blk_cells hxf).1 4, (blk_cells hxf).1 5, (blk_cells hxf).1 6⟩
  have hB : Below z w wf := (HB1.out.trans (Joins.below_le hb13 (Nat.le_of_lt hzl))).trans hbf
  have HF := Lib.hid hB
  have HW3 := Lib.hid hw3
  have HWF := Lib.hid hwf
  have HY := Lib.hid hy
  clear hB hw3 hwf hx3 hb3 hb2 hzl hyz hb13 hz3 hx4 hz4 hxf hbf
  go_upto_region 2 with fail
  rw [← HW3.out, ← HY.out]
  clear hy
  go_wp2_with fail
  rw [← HWF.out]
  refine bodyPost_ret (v := .tuple #[zW.agg, .bool false]) (by clear s0 s1 s2 s3 s4 s5 s6 k0 k1 k2 k3 k4 k5 k6 j0 j1 j2 j3 j4 j5 j6; unfold WT.agg zW; rw [results_ct rfl]; go_simp; try rfl) rfl ?_
  exact ⟨rfl, by rw [← HZ.out]; exact HF.out⟩
end Go.Proofs.Ytclfhidapkoiiab
