/-
  Nobody's log: the term and the entry at an index. No statement is proved here. No condition.
-/
import Derived.Test.YtjfcofalhajgfaaLNil
import Derived.Test.YtjfcofalhajgfaaLTell
import Derived.Test.YtjfcofalhajgfaaLApp
import Derived.Test.YtjfcofalhajgfaaLAwakeW
namespace Go.Proofs.Ytjfcofalhajgfaa
open Go.RowKit

set_option maxHeartbeats 1000000 in
set_option maxRecDepth 100000 in
theorem nil_at (i : Int) (w : World) :
    Calls Try.prog 80 #[.pointer none, .int .i64 i] w fun e w' => e = .returned (.tuple #[.agg #[.int .i64 0, .int .u8 0, .string ⟨#[]⟩, .slice none 0 0], .bool false]) ∧ Below w.heap.size w w' := by
  obtain ⟨w1, hw1⟩ : ∃ w1, w1 = w.alloc (.cells #[.int .i64 0, .int .u8 0, .string ⟨#[]⟩, .slice none 0 0] 50) := ⟨_, rfl⟩
  have hb1 : Below w.heap.size w w1 := by rw [hw1]; exact (Below.refl _ _).alloc (Nat.le_refl _) _
  have hq1 : w1.heap[w.heap.size]? = some (.cells #[.int .i64 0, .int .u8 0, .string ⟨#[]⟩, .slice none 0 0] 50 (0, 0)) := by rw [hw1]; exact heap_alloc_new w _
  obtain ⟨q, hq⟩ : ∃ q, q = w.heap.size := ⟨_, rfl⟩
  rw [← hq] at hq1
  have cU := nil_upTo i w1
  have hz := zero_ent
  have HB1 := Lib.hid (And.intro hb1 hq1)
  have HQ := Lib.hid hq
  have HW1 := Lib.hid hw1
  clear hw1 hb1 hq1 hq
  go_enter Try.func80, Try.ntmps80
  go_upto_region 1 with fail
  rw [← HW1.out, ← HQ.out]
  go_wp2_with fail
  refine cU.mono ?_
  rintro e w2 ⟨rfl, hb2⟩
  clear cU
  have hq2 := (hb2.block q (lt_of_heap HB1.out.2)).trans HB1.out.2
  have hB2 := HB1.out.1.trans (Joins.below_le hb2 HB1.out.1.size)
  have hqs : w.heap.size ≤ q := by rw [HQ.out]; exact Nat.le_refl _
  have hzf := setRow_heap w2 q _ #[.int .i64 0, .int .u8 0, .string ⟨#[]⟩, .slice none 0 0] _ _ hq2
  have HB2 := Lib.hid (below_setRow hB2 hqs #[.int .i64 0, .int .u8 0, .string ⟨#[]⟩, .slice none 0 0])
  clear hb2 hB2
  go_wp2_with (refine wpList_store_row rfl 50 (.tmp 4) (.tmp 24) rfl q #[.int .i64 0, .int .u8 0, .string ⟨#[]⟩, .slice none 0 0] rfl rfl 50 _ hq2 (ent_sized _ _ _ _) rfl (by simp [Value.oneCell']) ?_)
  obtain ⟨wf, hwf⟩ : ∃ wf, wf = w2.setRow q #[.int .i64 0, .int .u8 0, .string ⟨#[]⟩, .slice none 0 0] := ⟨_, rfl⟩
  rw [← hwf] at HB2 hzf ⊢
  clear hwf
  obtain ⟨r0, r1, r2, r3⟩ : wf.cell? ⟨q, 0, none⟩ = some (.int .i64 0) ∧ wf.cell? ⟨q, 1, none⟩ = some (.int .u8 0) ∧ wf.cell? ⟨q, 2, none⟩ = some (.string ⟨#[]⟩) ∧ wf.cell? ⟨q, 3, none⟩ = some (.slice none 0 0) := ⟨(blk_cells hzf).1 0, (blk_cells hzf).1 1, (blk_cells hzf).1 2, (blk_cells hzf).1 3⟩
  exact bodyPost_ret (v := .tuple #[.agg #[.int .i64 0, .int .u8 0, .string ⟨#[]⟩, .slice none 0 0], .bool false]) (by rw [results_ct rfl]; go_simp; try rfl) rfl ⟨rfl, HB2.out⟩
set_option maxRecDepth 100000 in
theorem nil_Term (i : Int) (w : World) :
    Calls Try.prog 34 #[.pointer none, .int .i64 i] w fun e w' => e = .returned (.tuple #[.int .i64 0, .bool false]) ∧ Below w.heap.size w w' := by
  go_enter Try.func34, Try.ntmps34
  go_wp2_with fail
  refine (nil_at i w).mono ?_
  rintro e w1 ⟨rfl, hb1⟩
  obtain ⟨w2, hw2⟩ : ∃ w2, w2 = w1.alloc (.cells #[.int .i64 0, .int .u8 0, .string ⟨#[]⟩, .slice none 0 0] 50) := ⟨_, rfl⟩
  have hb2 : Below w1.heap.size w1 w2 := by rw [hw2]; exact (Below.refl _ _).alloc (Nat.le_refl _) _
  have hq2 : w2.heap[w1.heap.size]? = some (.cells #[.int .i64 0, .int .u8 0, .string ⟨#[]⟩, .slice none 0 0] 50 (0, 0)) := by rw [hw2]; exact heap_alloc_new w1 _
  have hB := Lib.hid (hb1.trans (Joins.below_le hb2 hb1.size))
  have HW2 := Lib.hid hw2
  have e0 : w2.cell? ⟨w1.heap.size, 0, none⟩ = some (.int .i64 0) := (blk_cells hq2).1 0
  clear hb1 hb2 hq2 hw2
  go_upto_region 4 with fail
  rw [← HW2.out]
  go_wp2_with fail
  go_ret2
  exact ⟨rfl, hB.out⟩
set_option maxHeartbeats 1000000 in
set_option maxRecDepth 100000 in
theorem nil_Entry (i : Int) (w : World) :
    Calls Try.prog 35 #[.pointer none, .int .i64 i] w fun e w' => (∃ A c, e = .returned (.tuple #[.agg #[.int .i64 0, .int .u8 0, .string ⟨#[]⟩, .slice A 0 c], .bool false])) ∧ Below w.heap.size w w' := by
  obtain ⟨w1, hw1⟩ : ∃ w1, w1 = w.alloc (.cells #[.int .i64 0, .int .u8 0, .string ⟨#[]⟩, .slice none 0 0] 50) := ⟨_, rfl⟩
  have hb1 : Below w.heap.size w w1 := by rw [hw1]; exact (Below.refl _ _).alloc (Nat.le_refl _) _
  have hq1 : w1.heap[w.heap.size]? = some (.cells #[.int .i64 0, .int .u8 0, .string ⟨#[]⟩, .slice none 0 0] 50 (0, 0)) := by rw [hw1]; exact heap_alloc_new w _
  obtain ⟨q, hq⟩ : ∃ q, q = w.heap.size := ⟨_, rfl⟩
  rw [← hq] at hq1
  have hz := zero_ent
  have HB1 := Lib.hid (And.intro hb1 hq1)
  have HQ := Lib.hid hq
  have HW1 := Lib.hid hw1
  clear hw1 hb1 hq1 hq
  go_enter Try.func35, Try.ntmps35
  go_upto_region 1 with fail
  rw [← HW1.out, ← HQ.out]
  go_wp2_with fail
  refine (nil_at i w1).mono ?_
  rintro e w2 ⟨rfl, hb2⟩
  obtain ⟨w3, hw3⟩ : ∃ w3, w3 = w2.alloc (.cells #[.int .i64 0, .int .u8 0, .string ⟨#[]⟩, .slice none 0 0] 50) := ⟨_, rfl⟩
  have hb3 : Below w2.heap.size w2 w3 := by rw [hw3]; exact (Below.refl _ _).alloc (Nat.le_refl _) _
  have he3 : w3.heap[w2.heap.size]? = some (.cells #[.int .i64 0, .int .u8 0, .string ⟨#[]⟩, .slice none 0 0] 50 (0, 0)) := by rw [hw3]; exact heap_alloc_new w2 _
  have hb23 := hb2.trans (Joins.below_le hb3 hb2.size)
  have hq3 := (hb23.block q (lt_of_heap HB1.out.2)).trans HB1.out.2
  have hB3 := HB1.out.1.trans (Joins.below_le hb23 HB1.out.1.size)
  obtain ⟨b3, hb3d⟩ : ∃ b3, b3 = w2.heap.size := ⟨_, rfl⟩
  rw [← hb3d] at he3
  obtain ⟨x0, x1, x2, x3⟩ : w3.cell? ⟨b3, 0, none⟩ = some (.int .i64 0) ∧ w3.cell? ⟨b3, 1, none⟩ = some (.int .u8 0) ∧ w3.cell? ⟨b3, 2, none⟩ = some (.string ⟨#[]⟩) ∧ w3.cell? ⟨b3, 3, none⟩ = some (.slice none 0 0) := ⟨(blk_cells he3).1 0, (blk_cells he3).1 1, (blk_cells he3).1 2, (blk_cells he3).1 3⟩
  have cT := twin_any zE (.slice none 0 0) w3 (Rec.N.nil _ _) (by decide)
  unfold EN.agg zE at cT
  dsimp only at cT
  have HW3 := Lib.hid (And.intro hw3 hb3d)
  have HB3 := Lib.hid (And.intro hB3 hq3)
  clear hw3 hb3 he3 hb23 hq3 hB3 hb3d hb2 HB1
  go_upto_region 2 with fail
  rw [← HW3.out.1, ← HW3.out.2]
  go_wp2_with fail
  refine cT.mono ?_
  rintro e w4 ⟨A4, c4, rfl, ho4, hb4⟩
  clear cT x0 x1 x2 x3
  have hq4 := (hb4.block q (lt_of_heap HB3.out.2)).trans HB3.out.2
  have hqs : w.heap.size ≤ q := by rw [HQ.out]; exact Nat.le_refl _
  have hB4 := HB3.out.1.trans (Joins.below_le hb4 HB3.out.1.size)
  obtain ⟨wf, hwf⟩ : ∃ wf, wf = w4.setRow q #[.int .i64 0, .int .u8 0, .string ⟨#[]⟩, .slice A4 0 c4] := ⟨_, rfl⟩
  have hfr := setRow_heap w4 q _ #[.int .i64 0, .int .u8 0, .string ⟨#[]⟩, .slice A4 0 c4] _ _ hq4
  have hBf : Below w.heap.size w wf := by rw [hwf]; exact below_setRow hB4 hqs _
  rw [← hwf] at hfr
  obtain ⟨r0, r1, r2, r3⟩ : wf.cell? ⟨q, 0, none⟩ = some (.int .i64 0) ∧ wf.cell? ⟨q, 1, none⟩ = some (.int .u8 0) ∧ wf.cell? ⟨q, 2, none⟩ = some (.string ⟨#[]⟩) ∧ wf.cell? ⟨q, 3, none⟩ = some (.slice A4 0 c4) := ⟨(blk_cells hfr).1 0, (blk_cells hfr).1 1, (blk_cells hfr).1 2, (blk_cells hfr).1 3⟩
  have HWF := Lib.hid hwf
  have HF := Lib.hid hBf
  clear hwf hfr hBf hB4 ho4 hb4
  go_wp2_with (refine wpList_store_row rfl 50 (.tmp 4) (.tmp 15) rfl q #[.int .i64 0, .int .u8 0, .string ⟨#[]⟩, .slice A4 0 c4] rfl rfl 50 _ hq4 (ent_sized _ _ _ _) rfl (by simp [Value.oneCell']) ?_)
  rw [← HWF.out]
  exact bodyPost_ret (v := .tuple #[.agg #[.int .i64 0, .int .u8 0, .string ⟨#[]⟩, .slice A4 0 c4], .bool false]) (by rw [results_ct rfl]; go_simp; try rfl) rfl ⟨⟨A4, c4, rfl⟩, HF.out⟩
def gN : LG := ⟨2147483646, 1, []⟩
def gN1 : LG := ⟨2147483646, 1, [nE 1]⟩
theorem names_1 : refuse 2147483647 0 [nE 1] = 70 := by decide
theorem names_2 : refuse 2147483646 1 [] = 0 := by decide
theorem names_3 : gN.append (nE 1) = (0, gN1) := by rfl
theorem names_4 : gN1.append (nE 1) = (70, gN1) := by rfl
theorem names_5 : gN1.merge 2147483647 1 [nE 1] = ((0, 70), gN1) := by rfl
end Go.Proofs.Ytjfcofalhajgfaa
