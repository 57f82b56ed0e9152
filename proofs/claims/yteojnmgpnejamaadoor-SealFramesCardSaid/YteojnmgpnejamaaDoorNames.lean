/-
  The walk of the law SealNames: the chapter's examples, and the limit. Condition: the table reads as the program lays it.
-/
import Derived.Test.YteojnmgpnejamaaDoorAwake
namespace Go.Proofs.YteojnmgpnejamaaDoor
open Go.RowKit

theorem sum_none : sumN 0 [] = 0 := by decide +kernel
theorem sum_digits : sumN 0 [49, 50, 51, 52, 53, 54, 55, 56, 57] = 3421780262 := by decide +kernel
theorem sum_digits2 : sumN (sumN 0 [49, 50, 51, 52]) [53, 54, 55, 56, 57] = 3421780262 := by decide +kernel
theorem opened_none : openedOf [] = (4, 0, []) := by decide +kernel
theorem opened_long {b : List UInt8} (h : 8199 < b.length) : openedOf b = (4, 0, []) := by
  unfold openedOf formOf
  rw [decide_eq_false (show ¬ b.length ≤ 8199 by omega)]
  simp
theorem BS_noughts (n : Nat) : (madeCells (Value.int .u8 0).cells n).toList = BS (List.replicate n 0) := by
  show (madeCells #[Value.int .u8 0] n).toList = _
  rw [toList_madeCells_one]
  unfold BS
  rw [List.map_replicate]
  rfl

/-- a new slice of noughts -/
theorem made_noughts (w : World) (n : Nat) (hn : n ≤ 140737488355328) : ∃ w', (Instr.makeSlice 22 (.int .i64 (n : Int)) (.int .i64 (n : Int))).run Tryd.prog w = .ok (.slice (some ⟨w.heap.size, 0, none⟩) n n) w' ∧
    w'.ownsRow w.heap.size 5 1 (.slice (some ⟨w.heap.size, 0, none⟩) n n) n (BS (List.replicate n 0)) ∧ Below w.heap.size w w' := by
  obtain ⟨i0, hi, hz0, hz1, hz2⟩ := info_parts info_u8
  obtain ⟨w', h1, h2, h3⟩ := run_make_full (P := Tryd.prog) w w.heap.size 22 5 i0 _ 1 Tryd.underlying22 hi hz0 hz1 .i64 .i64 n (by rw [hz2]; omega) (by unfold maxLen; omega) (Nat.le_refl _)
  rw [Nat.mul_one, BS_noughts] at h2
  exact ⟨w', h1, h2, (Below.refl _ _).grown h3 (Nat.le_refl _) (fun k h => by cases h)⟩

set_option maxRecDepth 100000 in
set_option maxHeartbeats 4000000 in
theorem names_walk (w : World) (ht : Tab w) : Calls Tryd.prog 5 #[] w fun e w' => e = .returned (.bool true) ∧ Below w.heap.size w w' := by
  obtain ⟨i0, hi, hz0, hz1, hz2⟩ := info_parts info_u8
  obtain ⟨w0, hmk, ho0, hb0⟩ := made_noughts w 8193 (by omega)
  have hmk' : (Instr.makeSlice 22 (.int .i64 8193) (.int .i64 8193)).run Tryd.prog w = .ok (.slice (some ⟨w.heap.size, 0, none⟩) 8193 8193) w0 := hmk
  obtain ⟨G, hG⟩ : ∃ G, G = w.heap.size := ⟨_, rfl⟩
  obtain ⟨L, hL⟩ : ∃ L, L = List.replicate 8193 (0 : UInt8) := ⟨_, rfl⟩
  have hLl : L.length = 8193 := by rw [hL]; simp
  rw [← hG] at hmk' ho0
  rw [← hL] at ho0
  have hs1 : sealedOf 1 L = (40, []) := if_pos (by omega)
  have hZl : (L.take 8192).length = 8192 := by rw [List.length_take]; omega
  obtain ⟨Z, hZ⟩ : ∃ Z, Z = L.take 8192 := ⟨_, rfl⟩
  rw [← hZ] at hZl
  have hs2 : sealedOf 1 Z = (0, frame 1 Z) := if_neg (by omega)
  have HZ := Lib.hid hZ
  have HLL := Lib.hid hLl
  have HZL := Lib.hid hZl
  have hsl : ∀ W, (Instr.slice 22 (.slice (some ⟨G, 0, none⟩) 8193 8193) none (some (.int .i64 8192)) none).run Tryd.prog W = .ok (.slice (some ⟨G, 0, none⟩) 8192 8193) W := fun W => slice_till W _ _ _ _ 8192 rfl (by omega)
  have HS1 := Lib.hid hs1
  have HS2 := Lib.hid hs2
  have HO0 := Lib.hid ho0
  clear hL hG hmk hZ hLl hZl hs1 hs2 ho0
  go_enter Tryd.func5, Tryd.ntmps5
  go_wp2_with fail
  have c1 := seal_any 1 L (.slice (some ⟨G, 0, none⟩) 8193 8193) w0 (ht.below hb0 ht.1) (Rd.own HO0.out) (by rw [HLL.out]; omega)
  unfold SealedPost at c1
  rw [HS1.out, show ((1 : UInt8).toNat : Int) = 1 from rfl] at c1
  refine c1.mono ?_
  rintro e w1 ⟨v1, n1, rfl, -, hb1⟩
  have hb1' := hb0.trans (hb1.mono hb0.size)
  have ho1 := own_below HO0.out hb1 (Nat.le_refl _)
  have hrz : Rd w1 w1.heap.size (.slice (some ⟨G, 0, none⟩) 8192 8193) Z := by
    have h0 : Rd w1 w1.heap.size (.slice (some ⟨G, 0, none⟩) L.length 8193) L := by rw [HLL.out]; exact Rd.own ho1
    have := Rd.takeAny h0 (n := 8192) (by rw [HLL.out]; omega)
    rw [HZ.out]
    exact this
  have hsz1 := hb1'.size
  clear c1 hb0 hb1 ho1
  go_wp2_with fail
  have c2 := seal_any 1 Z (.slice (some ⟨G, 0, none⟩) 8192 8193) w1 (ht.below hb1' ht.1) hrz (by rw [HZL.out]; omega)
  unfold SealedPost at c2
  rw [HS2.out, show ((1 : UInt8).toNat : Int) = 1 from rfl] at c2
  refine c2.mono ?_
  rintro e w2 ⟨v2, n2, rfl, ho2, hb2⟩
  have hb2' := hb1'.trans (hb2.mono hb1'.size)
  clear c2 hb1' hb2 hrz
  go_wp2_with fail
  have c3 := open_any (frame 1 Z) v2 w2 (ht.below hb2' ht.1) (Rd.own ho2) (by rw [frame_length, HZL.out]; omega)
  unfold OpenedPost at c3
  rw [opened_frame 1 Z (by rw [HZL.out]; omega), show ((1 : UInt8).toNat : Int) = 1 from rfl] at c3
  refine c3.mono ?_
  rintro e w3 ⟨v3, n3, rfl, ho3, hb3⟩
  have hb3' := hb2'.trans (hb3.mono hb2'.size)
  have ho2' := own_below ho2 hb3 (Nat.le_refl _)
  have hn2 := own_count ho2'
  rw [frame_length, HZL.out] at hn2
  obtain ⟨A3, c3', hv3, -⟩ := Rd.own ho3
  rw [HZL.out] at hv3
  subst hv3
  clear c3 hb2' ho2 ho3
  have hsz3 := hb3'.size
  go_wp2_with (at_builtin; go_must (refine wpList_app rfl (.tmp 36) (.tmp 37) 22 rfl w.heap.size 5 i0 Tryd.underlying22 hi hz0 hz1 hz2 v2 _ (frame 1 Z) [0] n2 rfl rfl ((World.ownsRow.mono ho2' (by omega)).alloc _) (w3.heap.size + 1) (Rd.lit w3 _ _ 0 rfl) (by rw [frame_length, HZL.out]; simp) (by simp; omega) ?_; intro v4 w4 ho4 hg4))
  have hb4 := (hb3'.alloc hb3'.size _).grown hg4 (by simp; omega) (fun k h => (World.ownsRow.mono ho2' (show w.heap.size ≤ w1.heap.size from hsz1)).lt k h |>.1)
  have ho4' : w4.ownsRow w.heap.size 5 1 v4 (n2 + 1) (BS (frame 1 Z ++ [0])) := ho4
  have c4 := open_any (frame 1 Z ++ [0]) v4 w4 (ht.below hb4 ht.1) (Rd.own ho4') (by rw [List.length_append, frame_length, HZL.out]; simp)
  unfold OpenedPost at c4
  rw [opened_long (b := frame 1 Z ++ [0]) (by rw [List.length_append, frame_length, HZL.out]; simp), show ((0 : UInt8).toNat : Int) = 0 from rfl] at c4
  refine c4.mono ?_
  rintro e w5 ⟨v5, n5, rfl, -, hb5⟩
  have hb5' := hb4.trans (hb5.mono hb4.size)
  clear c4 hb3' hb4 hb5 hg4 ho4 ho4' ho2'
  go_wp2_with fail
  have c6 := open_any [] (.slice none 0 0) w5 (ht.below hb5' ht.1) (Rd.nil _ _) (by simp)
  unfold OpenedPost at c6
  rw [opened_none, show ((0 : UInt8).toNat : Int) = 0 from rfl] at c6
  refine c6.mono ?_
  rintro e w6 ⟨v6, n6, rfl, -, hb6⟩
  have hb6' := hb5'.trans (hb6.mono hb5'.size)
  clear c6 hb5' hb6
  go_wp2_with fail
  have c7 := seal_any 0 [] (.slice none 0 0) w6 (ht.below hb6' ht.1) (Rd.nil _ _) (by simp)
  unfold SealedPost at c7
  rw [show sealedOf 0 [] = (0, frame 0 []) from rfl, show ((0 : UInt8).toNat : Int) = 0 from rfl] at c7
  refine c7.mono ?_
  rintro e w7 ⟨v7, n7, rfl, ho7, hb7⟩
  have hb7' := hb6'.trans (hb7.mono hb6'.size)
  obtain ⟨A7, c7', hv7, -⟩ := Rd.own ho7
  rw [frame_length, show ([] : List UInt8).length + 7 = 7 from rfl] at hv7
  subst hv7
  clear c7 hb6' hb7 ho7
  go_wp2_with fail
  refine (sum_any [] (.slice none 0 0) w7 (ht.below hb7' ht.1) (Rd.nil _ _) (by simp)).mono ?_
  rintro e w8 ⟨rfl, hb8⟩
  have hb8' := hb7'.trans (hb8.mono hb7'.size)
  rw [sum_none]
  obtain ⟨w9, hcv9, hr9, hb9, -⟩ := lit_bytes w8 #[.int .u8 49, .int .u8 50, .int .u8 51, .int .u8 52, .int .u8 53, .int .u8 54, .int .u8 55, .int .u8 56, .int .u8 57] [49, 50, 51, 52, 53, 54, 55, 56, 57] 9 rfl rfl (by unfold maxLen; decide)
  have hb9' := hb8'.trans (hb9.mono hb8'.size)
  clear hb7' hb8
  go_wp2_with fail
  refine (sum_any _ _ w9 (ht.below hb9' ht.1) hr9 (by decide)).mono ?_
  rintro e w10 ⟨rfl, hb10⟩
  have hb10' := hb9'.trans (hb10.mono hb9'.size)
  rw [sum_digits]
  obtain ⟨w11, hcv11, hr11, hb11, -⟩ := lit_bytes w10 #[.int .u8 49, .int .u8 50, .int .u8 51, .int .u8 52] [49, 50, 51, 52] 4 rfl rfl (by unfold maxLen; decide)
  have hb11' := hb10'.trans (hb11.mono hb10'.size)
  clear hb8' hb9 hb10 hcv9 hr9 hb9'
  go_wp2_with fail
  refine (sum_any _ _ w11 (ht.below hb11' ht.1) hr11 (by decide)).mono ?_
  rintro e w12 ⟨rfl, hb12⟩
  have hb12' := hb11'.trans (hb12.mono hb11'.size)
  have hsx : sumN 0 [49, 50, 51, 52] < 4294967296 := sumN_lt _ (by decide)
  have hsd := sum_digits2
  obtain ⟨S, hS⟩ : ∃ S, S = sumN 0 [49, 50, 51, 52] := ⟨_, rfl⟩
  rw [← hS] at hsx hsd ⊢
  obtain ⟨w13, hcv13, hr13, hb13, -⟩ := lit_bytes w12 #[.int .u8 53, .int .u8 54, .int .u8 55, .int .u8 56, .int .u8 57] [53, 54, 55, 56, 57] 5 rfl rfl (by unfold maxLen; decide)
  have hb13' := hb12'.trans (hb13.mono hb12'.size)
  have HSD := Lib.hid hsd
  clear hb10' hb11 hb12 hcv11 hr11 hb11' hS hsd
  go_wp2_with fail
  refine (more_any _ _ S w13 hsx (ht.below hb13' ht.1) hr13 (by decide)).mono ?_
  rintro e w14 ⟨rfl, hb14⟩
  have hb14' := hb13'.trans (hb14.mono hb13'.size)
  rw [HSD.out]
  clear hb12' hb13 hb14 hcv13 hr13 hb13'
  go_wp2_with fail
  refine (awake_any _ (ht.below hb14' ht.1)).mono ?_
  rintro e w15 ⟨rfl, hb15⟩
  go_wp2_with fail
  go_ret
  exact ⟨rfl, hb14'.trans (hb15.mono hb14'.size)⟩
end Go.Proofs.YteojnmgpnejamaaDoor
