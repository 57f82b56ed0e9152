/-
  Nobody's log and the ends of numbers: the law, walked. No statement is proved here. No condition.
-/
import Derived.Test.YtjfcofalhajgfaaLNilB
namespace Go.Proofs.Ytjfcofalhajgfaa
open Go.RowKit

theorem made_noughts (n : Nat) (hn : n ≤ 140737488355328) (w : World) : ∃ w', (Instr.makeSlice 23 (.int .i64 (n : Int)) (.int .i64 (n : Int))).run Try.prog w = .ok (.slice (some ⟨w.heap.size, 0, none⟩) n n) w' ∧ (convert 23 9 (.slice (some ⟨w.heap.size, 0, none⟩) n n)).run Try.prog w' = .ok (.string ⟨(List.replicate n 0).toArray⟩) w' ∧ Below w.heap.size w w' := by
  obtain ⟨i0, hi, hz0, hz1, hz2⟩ := info_parts info_u8
  obtain ⟨w', h1, h2, h3⟩ := run_make_full (P := Try.prog) w w.heap.size 23 5 i0 _ 1 Try.underlying23 hi hz0 hz1 .i64 .i64 n (by rw [hz2]; omega) (by unfold maxLen; omega) (Nat.le_refl _)
  have hBS : (madeCells (Value.int .u8 0).cells (n * 1)).toList = BS (List.replicate n 0) := by
    show (madeCells #[Value.int .u8 0] (n * 1)).toList = _
    rw [toList_madeCells_one]
    unfold BS
    rw [List.map_replicate, Nat.mul_one]
    rfl
  rw [hBS] at h2
  have hrd := Rd.own h2
  exact ⟨w', h1, conv_str hrd, (Below.refl _ _).grown h3 (Nat.le_refl _) (fun k h => by cases h)⟩
theorem may_big {d : ByteArray} (h : d.size = 257) : (⟨1, 2, d, []⟩ : EN).may = false := by unfold EN.may; simp [h]
theorem may_just {d : ByteArray} (h : d.size = 256) : (⟨1, 2, d, []⟩ : EN).may = true := by unfold EN.may; simp [h]
set_option maxHeartbeats 8000000 in
set_option maxRecDepth 100000 in
theorem names_walk (w : World) : Calls Try.prog 9 #[] w fun e w' => e = .returned (.bool true) ∧ Below w.heap.size w w' := by
  go_enter Try.func9, Try.ntmps9
  go_wp2_with fail
  refine (nil_Base w).mono ?_
  rintro e w1 ⟨rfl, hb⟩
  have HB := Lib.hid hb
  clear hb
  go_wp2_with fail
  refine (nil_Last w1).mono ?_
  rintro e w2 ⟨rfl, hb⟩
  replace HB := Lib.hid (HB.out.trans (Joins.below_le hb HB.out.size))
  clear hb
  go_wp2_with fail
  refine (nil_Term 0 w2).mono ?_
  rintro e w3 ⟨rfl, hb⟩
  replace HB := Lib.hid (HB.out.trans (Joins.below_le hb HB.out.size))
  clear hb
  go_wp2_with fail
  refine (nil_Entry 0 w3).mono ?_
  rintro e w4 ⟨⟨A4, c4, rfl⟩, hb⟩
  replace HB := Lib.hid (HB.out.trans (Joins.below_le hb HB.out.size))
  clear hb
  obtain ⟨w5, hw5⟩ : ∃ w5, w5 = w4.alloc (.cells #[.int .i64 0, .int .u8 0, .string ⟨#[]⟩, .slice A4 0 c4] 50) := ⟨_, rfl⟩
  have HB5 := Lib.hid (show Below w.heap.size w w5 by rw [hw5]; exact HB.out.alloc HB.out.size _)
  have HW5 := Lib.hid hw5
  clear hw5
  go_upto_region 6 with fail
  rw [← HW5.out]
  clear HB HW5
  go_wp2_with fail
  refine (nil_Members 9 w5).mono ?_
  rintro e w6 ⟨rfl, hb⟩
  have HB := Lib.hid (HB5.out.trans (Joins.below_le hb HB5.out.size))
  clear hb HB5
  go_wp2_with fail
  refine (nil_Merge 0 0 w6).mono ?_
  rintro e w7 ⟨rfl, hb⟩
  replace HB := Lib.hid (HB.out.trans (Joins.below_le hb HB.out.size))
  clear hb
  obtain ⟨w8, hw8⟩ : ∃ w8, w8 = w7.alloc (.cells #[.int .i64 1, .int .u8 1, .string ⟨#[]⟩, .slice none 0 0] 50) := ⟨_, rfl⟩
  have hb8 : Below w7.heap.size w7 w8 := by rw [hw8]; exact (Below.refl _ _).alloc (Nat.le_refl _) _
  have hn8 : w8.heap[w7.heap.size]? = some (.cells #[.int .i64 1, .int .u8 1, .string ⟨#[]⟩, .slice none 0 0] 50 (0, 0)) := by rw [hw8]; exact heap_alloc_new w7 _
  obtain ⟨bn, hbn⟩ : ∃ bn, bn = w7.heap.size := ⟨_, rfl⟩
  rw [← hbn] at hn8
  have HB8 := Lib.hid (And.intro (HB.out.trans (Joins.below_le hb8 HB.out.size)) hn8)
  have HW8 := Lib.hid (And.intro hw8 hbn)
  clear hw8 hbn hb8 hn8
  go_upto_region 9 with fail
  rw [← HW8.out.1, ← HW8.out.2]
  clear HW8 HB
  obtain ⟨x0, x1, x2, x3⟩ : w8.cell? ⟨bn, 0, none⟩ = some (.int .i64 1) ∧ w8.cell? ⟨bn, 1, none⟩ = some (.int .u8 1) ∧ w8.cell? ⟨bn, 2, none⟩ = some (.string ⟨#[]⟩) ∧ w8.cell? ⟨bn, 3, none⟩ = some (.slice none 0 0) := ⟨(blk_cells HB8.out.2).1 0, (blk_cells HB8.out.2).1 1, (blk_cells HB8.out.2).1 2, (blk_cells HB8.out.2).1 3⟩
  obtain ⟨w9, hw9⟩ : ∃ w9, w9 = w8.alloc (.cells #[.int .i64 1, .int .u8 1, .string ⟨#[]⟩, .slice none 0 0] 50) := ⟨_, rfl⟩
  have hb9 : Below w8.heap.size w8 w9 := by rw [hw9]; exact (Below.refl _ _).alloc (Nat.le_refl _) _
  have he9 : EntN w9 Any (.slice (some ⟨w8.heap.size, 0, none⟩) 1 1) [nE 1] := lit_ents [1] (by decide) (by rw [row_1, hw9]; exact heap_alloc_new w8 _) trivial
  have cN := new_any 2147483647 0 [nE 1] _ w9 he9
  rw [hw9] at cN
  have HB9 := Lib.hid (And.intro (HB8.out.1.trans (Joins.below_le hb9 HB8.out.1.size)) (ent_kept HB8.out.2 hb9))
  have HW9 := Lib.hid hw9
  clear hw9 hb9 he9
  go_wp2_with fail
  refine cN.mono ?_
  rintro e wa ⟨hcase, hb⟩
  rw [← HW9.out] at hb
  obtain ⟨hn, -⟩ | ⟨-, rfl⟩ := hcase.symm
  · rw [names_1] at hn
    exact absurd hn (by decide)
  rw [names_1]
  clear cN x0 x1 x2 x3 HW9 hcase
  have HBa := Lib.hid (And.intro (HB9.out.1.trans (Joins.below_le hb HB9.out.1.size)) (ent_kept HB9.out.2 hb))
  clear hb
  have cN := new_any 2147483646 1 [] _ wa (EntN.nil wa Any)
  go_wp2_with fail
  refine cN.mono ?_
  rintro e wb ⟨hcase, hb⟩
  obtain ⟨hn, -⟩ | ⟨-, p, v, rfl, hlog, hvs⟩ := hcase
  · exact absurd names_2 hn
  clear cN
  have hlog : LogAt wb wa.heap.size p v gN := hlog
  have HBb := Lib.hid (And.intro (HBa.out.1.trans (Joins.below_le hb HBa.out.1.size)) (ent_kept HBa.out.2 hb))
  have hBa := hb.size
  clear hb
  -- two entries more
  have hnd : wb.drew.heap[bn]? = _ := HBb.out.2
  have cA := append_any gN _ p v (nE 1) wb.drew (hlog.below (Below.refl _ _).drew) hvs rfl hBa
  rw [names_3] at cA
  have hkeep : ∀ {u : Value} {g : LG} {x x' : World}, LogAt x wa.heap.size p u g → Turned p u x x' → wa.heap.size ≤ x.heap.size → x.heap[bn]? = some (.cells #[.int .i64 1, .int .u8 1, .string ⟨#[]⟩, .slice none 0 0] 50 (0, 0)) → bn < wa.heap.size → Below w.heap.size w x → (x'.heap[bn]? = some (.cells #[.int .i64 1, .int .u8 1, .string ⟨#[]⟩, .slice none 0 0] 50 (0, 0)) ∧ Below w.heap.size w x') ∧ wa.heap.size ≤ x'.heap.size := fun {u g x x'} hl ht hs hn hbn hB => by
    have hbe := ht.below hl hs
    exact ⟨⟨(hbe.block bn hbn).trans hn, hB.trans (Joins.below_le hbe HBa.out.1.size)⟩, Nat.le_trans hs ht.size⟩
  have hbna : bn < wa.heap.size := lt_of_heap HBa.out.2
  have hnext : ∀ x1, (∃ u, LogAt x1 wa.heap.size p u gN1 ∧ u.ownBlock.isSome = true) → Turned p v wb.drew x1 → (x1.cell? ⟨bn, 0, none⟩ = some (.int .i64 1) ∧ x1.cell? ⟨bn, 1, none⟩ = some (.int .u8 1) ∧ x1.cell? ⟨bn, 2, none⟩ = some (.string ⟨#[]⟩) ∧ x1.cell? ⟨bn, 3, none⟩ = some (.slice none 0 0)) ∧ Calls Try.prog 39 #[.pointer (some ⟨p, 0, none⟩), .agg #[.int .i64 1, .int .u8 1, .string ⟨#[]⟩, .slice none 0 0]] x1 (fun e w' => e = .returned (.int .i64 70) ∧ Hid ((∃ u, LogAt w' wa.heap.size p u gN1 ∧ u.ownBlock.isSome = true) ∧ w'.heap[bn]? = some (.cells #[.int .i64 1, .int .u8 1, .string ⟨#[]⟩, .slice none 0 0] 50 (0, 0)) ∧ Below w.heap.size w w' ∧ wa.heap.size ≤ w'.heap.size)) := by
    rintro x1 ⟨u, hu, hus⟩ ht
    obtain ⟨⟨hn1, hB1⟩, hs1⟩ := hkeep (hlog.below (w' := wb.drew) (Below.refl _ _).drew) ht hBa hnd hbna (HBb.out.1.trans (Below.refl _ _).drew)
    refine ⟨⟨(blk_cells hn1).1 0, (blk_cells hn1).1 1, (blk_cells hn1).1 2, (blk_cells hn1).1 3⟩, ?_⟩
    have c2 := append_any gN1 _ p u (nE 1) x1 hu hus rfl hs1
    rw [names_4] at c2
    refine c2.mono ?_
    rintro e w' ⟨rfl, hu', ht'⟩
    obtain ⟨⟨hn2, hB2⟩, hs2⟩ := hkeep hu ht' hs1 hn1 hbna hB1
    exact ⟨rfl, Lib.hid ⟨hu', hn2, hB2, hs2⟩⟩
  have HNEXT := Lib.hid hnext
  have hnb := HBb.out.2
  obtain ⟨x0, x1, x2, x3⟩ : wb.cell? ⟨bn, 0, none⟩ = some (.int .i64 1) ∧ wb.cell? ⟨bn, 1, none⟩ = some (.int .u8 1) ∧ wb.cell? ⟨bn, 2, none⟩ = some (.string ⟨#[]⟩) ∧ wb.cell? ⟨bn, 3, none⟩ = some (.slice none 0 0) := ⟨(blk_cells hnb).1 0, (blk_cells hnb).1 1, (blk_cells hnb).1 2, (blk_cells hnb).1 3⟩
  obtain ⟨y0, y1, y2, y3⟩ : wb.drew.cell? ⟨bn, 0, none⟩ = some (.int .i64 1) ∧ wb.drew.cell? ⟨bn, 1, none⟩ = some (.int .u8 1) ∧ wb.drew.cell? ⟨bn, 2, none⟩ = some (.string ⟨#[]⟩) ∧ wb.drew.cell? ⟨bn, 3, none⟩ = some (.slice none 0 0) := ⟨x0, x1, x2, x3⟩
  unfold EN.agg nE at cA
  dsimp only at cA
  clear hnext hkeep hnb hnd hlog
  go_upto_region 13 with fail
  apply cut_goal
  case h =>
    intro key
    go_region_with (go_at_call 39; first | (refine cA.mono ?_; rintro e z1 ⟨rfl, hu1, ht1⟩; obtain ⟨⟨z0', z1', z2', z3'⟩, c2⟩ := HNEXT.out z1 hu1 ht1; clear hu1 ht1) | (refine c2.mono ?_; rintro e z2 ⟨rfl, HZ⟩))
    all_goals
      revert HZ
      revert z2
      first
        | exact key
        | (intro z2 HZ; exact key z2 HZ)
  intro z2 HZ
  obtain ⟨u, hu, hus⟩ := HZ.out.1
  clear x0 x1 x2 x3 y0 y1 y2 y3 cA HNEXT
  obtain ⟨x0, x1, x2, x3⟩ : z2.cell? ⟨bn, 0, none⟩ = some (.int .i64 1) ∧ z2.cell? ⟨bn, 1, none⟩ = some (.int .u8 1) ∧ z2.cell? ⟨bn, 2, none⟩ = some (.string ⟨#[]⟩) ∧ z2.cell? ⟨bn, 3, none⟩ = some (.slice none 0 0) := ⟨(blk_cells HZ.out.2.1).1 0, (blk_cells HZ.out.2.1).1 1, (blk_cells HZ.out.2.1).1 2, (blk_cells HZ.out.2.1).1 3⟩
  obtain ⟨z3, hz3⟩ : ∃ z3, z3 = z2.alloc (.cells #[.int .i64 1, .int .u8 1, .string ⟨#[]⟩, .slice none 0 0] 50) := ⟨_, rfl⟩
  have hb3 : Below z2.heap.size z2 z3 := by rw [hz3]; exact (Below.refl _ _).alloc (Nat.le_refl _) _
  have he3 : EntN z3 (fun b => z2.heap.size ≤ b) (.slice (some ⟨z2.heap.size, 0, none⟩) 1 1) [nE 1] := lit_ents [1] (by decide) (by rw [row_1, hz3]; exact heap_alloc_new z2 _) (Nat.le_refl _)
  have cM := merge_any gN1 wa.heap.size p u _ 2147483647 1 [nE 1] _ z3 (hu.below hb3) hus he3 hu.off (Nat.le_trans HZ.out.2.2.2 hb3.size)
  rw [names_5] at cM
  have hk3 : z3.heap[bn]? = _ := ent_kept HZ.out.2.1 hb3
  have HL3 := Lib.hid (And.intro (hu.below hb3) (And.intro hk3 (And.intro (HZ.out.2.2.1.trans (Joins.below_le hb3 HZ.out.2.2.1.size)) (Nat.le_trans HZ.out.2.2.2 hb3.size))))
  rw [hz3] at cM
  have HZ3 := Lib.hid hz3
  have HBNA := Lib.hid hbna
  clear hz3 hb3 he3 hk3 hu hus hbna hvs hBa
  go_wp2_with fail
  refine cM.mono ?_
  rintro e z4 ⟨rfl, -, ht⟩
  rw [← HZ3.out] at ht
  clear cM x0 x1 x2 x3 HZ3
  have hbe := ht.below HL3.out.1 HL3.out.2.2.2
  have HP := Lib.hid (And.intro (HL3.out.2.2.1.trans (Joins.below_le hbe HBa.out.1.size)) ((hbe.block bn HBNA.out).trans HL3.out.2.1))
  clear ht hbe HL3 HZ HBNA
  obtain ⟨z5, hmk, hcv, hb⟩ := made_noughts 257 (by decide) z4
  have hmk' : (Instr.makeSlice 23 (.int .i64 257) (.int .i64 257)).run Try.prog z4 = .ok (.slice (some ⟨z4.heap.size, 0, none⟩) 257 257) z5 := hmk
  obtain ⟨d5, hd⟩ : ∃ d : ByteArray, d = ⟨(List.replicate 257 0).toArray⟩ := ⟨_, rfl⟩
  have hds : d5.size = 257 := by rw [hd]; show ((List.replicate _ (0 : UInt8)).toArray).size = _; rw [List.size_toArray, List.length_replicate]
  rw [← hd] at hcv
  have cW := write_any ⟨1, 2, d5, []⟩ (.slice none 0 0) z5 (Rec.N.nil _ _)
  unfold EN.agg at cW
  dsimp only at cW
  have HB5 := Lib.hid (And.intro (HP.out.1.trans (Joins.below_le hb HP.out.1.size)) (ent_kept HP.out.2 hb))
  have HDS := Lib.hid hds
  clear hmk hd hds hb
  go_wp2_with fail
  refine cW.mono ?_
  rintro e z5' ⟨hcase, hb⟩
  clear cW hmk' hcv
  obtain ⟨-, rfl⟩ | ⟨hn, -⟩ := hcase
  case inr => exact absurd ((may_big HDS.out).symm.trans hn) (by decide)
  replace HP := Lib.hid (And.intro (HB5.out.1.trans (Joins.below_le hb HB5.out.1.size)) (ent_kept HB5.out.2 hb))
  clear hb HB5 HDS
  obtain ⟨z6, hmk, hcv, hb⟩ := made_noughts 256 (by decide) z5'
  have hmk' : (Instr.makeSlice 23 (.int .i64 256) (.int .i64 256)).run Try.prog z5' = .ok (.slice (some ⟨z5'.heap.size, 0, none⟩) 256 256) z6 := hmk
  obtain ⟨d6, hd⟩ : ∃ d : ByteArray, d = ⟨(List.replicate 256 0).toArray⟩ := ⟨_, rfl⟩
  have hds : d6.size = 256 := by rw [hd]; show ((List.replicate _ (0 : UInt8)).toArray).size = _; rw [List.size_toArray, List.length_replicate]
  rw [← hd] at hcv
  have cW := write_any ⟨1, 2, d6, []⟩ (.slice none 0 0) z6 (Rec.N.nil _ _)
  unfold EN.agg at cW
  dsimp only at cW
  have HB6 := Lib.hid (And.intro (HP.out.1.trans (Joins.below_le hb HP.out.1.size)) (ent_kept HP.out.2 hb))
  have HDS := Lib.hid hds
  clear hmk hd hds hb
  go_wp2_with fail
  refine cW.mono ?_
  rintro e z6' ⟨hcase, hb⟩
  clear cW hmk' hcv
  obtain ⟨hn, -⟩ | ⟨-, uu, rfl, -⟩ := hcase
  · exact absurd ((may_just HDS.out).symm.trans hn) (by decide)
  replace HP := Lib.hid (And.intro (HB6.out.1.trans (Joins.below_le hb HB6.out.1.size)) (ent_kept HB6.out.2 hb))
  clear hb HB6 HDS
  have hp := HP.out.2
  obtain ⟨x0, x1, x2, x3⟩ : z6'.cell? ⟨bn, 0, none⟩ = some (.int .i64 1) ∧ z6'.cell? ⟨bn, 1, none⟩ = some (.int .u8 1) ∧ z6'.cell? ⟨bn, 2, none⟩ = some (.string ⟨#[]⟩) ∧ z6'.cell? ⟨bn, 3, none⟩ = some (.slice none 0 0) := ⟨(blk_cells hp).1 0, (blk_cells hp).1 1, (blk_cells hp).1 2, (blk_cells hp).1 3⟩
  have cA := nil_Append (nE 1) (.slice none 0 0) z6'
  unfold EN.agg nE at cA
  dsimp only at cA
  clear hp
  go_wp2_with fail
  refine cA.mono ?_
  rintro e y1 ⟨rfl, hb⟩
  have HF := Lib.hid (HP.out.1.trans (Joins.below_le hb HP.out.1.size))
  clear hb cA x0 x1 x2 x3 HP
  go_wp2_with fail
  refine (nil_Cut 0 y1).mono ?_
  rintro e y2 ⟨rfl, hb⟩
  replace HF := Lib.hid (HF.out.trans (Joins.below_le hb HF.out.size))
  clear hb
  go_wp2_with fail
  refine (nil_Reset 0 0 y2).mono ?_
  rintro e y3 ⟨rfl, hb⟩
  replace HF := Lib.hid (HF.out.trans (Joins.below_le hb HF.out.size))
  clear hb
  go_wp2_with fail
  refine (nil_Above 0 0 y3).mono ?_
  rintro e y4 ⟨rfl, hb⟩
  replace HF := Lib.hid (HF.out.trans (Joins.below_le hb HF.out.size))
  clear hb
  go_wp2_with fail
  refine (nil_From 0 9 y4).mono ?_
  rintro e y5 ⟨rfl, hb⟩
  replace HF := Lib.hid (HF.out.trans (Joins.below_le hb HF.out.size))
  clear hb
  go_wp2_with fail
  refine (nil_Copy y5).mono ?_
  rintro e y6 ⟨rfl, hb⟩
  replace HF := Lib.hid (HF.out.trans (Joins.below_le hb HF.out.size))
  clear hb
  go_wp2_with fail
  refine (awake_any y6).mono ?_
  rintro e y7 ⟨rfl, hb⟩
  replace HF := Lib.hid (HF.out.trans (Joins.below_le hb HF.out.size))
  clear hb
  go_wp2_with fail
  go_ret
  exact ⟨rfl, HF.out⟩
end Go.Proofs.Ytjfcofalhajgfaa
