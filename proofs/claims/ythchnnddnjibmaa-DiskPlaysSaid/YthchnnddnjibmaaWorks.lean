/-
  The laws' own helper 'works': what it asks of a small disk is so. No condition.
-/
import Derived.Test.YthchnnddnjibmaaPOne
namespace Go.Proofs.Ythchnnddnjibmaa
open Go.RowKit Go.Maps

def wD0 : DS := DS.new 3
def wD1 : DS := (wD0.wrote 1 (all512 97)).tick
def wD2 : DS := wD1.tick.flushed
def wD3 : DS := (wD2.wrote 1 (all512 98)).tick
def wD4 : DS := (wD3.wrote 2 (all512 99)).tick
def wD5 : DS := wD4.crash [false, true]
def wD6 : DS := wD5.again
theorem wE1 : wD0.write 1 (all512 97) = (0, wD1) := by kernel_rfl
theorem wE2 : wD1.flush = (0, wD2) := by kernel_rfl
theorem wE3 : wD2.write 1 (all512 98) = (0, wD3) := by kernel_rfl
theorem wE4 : wD3.write 2 (all512 99) = (0, wD4) := by kernel_rfl
theorem wE4r : wD4.read 1 = (0, all512 98) := by kernel_rfl
theorem wE5 : wD4.crashed [false, true] = (0, wD5) := by kernel_rfl
theorem wE5d : wD5.dead = true := by kernel_rfl
theorem wE6a : wD6.read 1 = (0, all512 97) := by kernel_rfl
theorem wE6b : wD6.read 2 = (0, all512 99) := by kernel_rfl
theorem wF0 : Fit wD0 0 := Fit.new (by omega)
theorem wF1 : Fit wD1 1 := by have h := wF0.write 1 (all512 97); rw [wE1] at h; exact h
theorem wF2 : Fit wD2 2 := by have h := wF1.flush; rw [wE2] at h; exact h
theorem wF3 : Fit wD3 3 := by have h := wF2.write 1 (all512 98); rw [wE3] at h; exact h
theorem wF4 : Fit wD4 4 := by have h := wF3.write 2 (all512 99); rw [wE4] at h; exact h
theorem wF5 : Fit wD5 4 := wF4.crash _
theorem wF6 : Fit wD6 4 := wF5.again

theorem own_at {w : World} {base : Nat} {e : TypeId} {v : Value} {c : UInt8} (h : w.ownsRow base e 1 v (all512 c).length (BS (all512 c))) : ∃ g cap, v = .slice (some ⟨g, 0, none⟩) 512 cap ∧ base ≤ g ∧ g < w.heap.size ∧ ∀ j, j < 512 → w.cell? ⟨g, j, none⟩ = some (.int .u8 (c.toNat : Int)) := by
  have hl := all512_length c
  rw [hl] at h
  obtain ⟨g, cap, rfl, h1, h2⟩ := h.form (by omega)
  refine ⟨g, cap, rfl, h1, h2, fun j hj => ?_⟩
  rw [h.cellAt j (by omega)]
  unfold BS all512
  rw [List.map_replicate, List.getElem?_replicate, if_pos hj]

set_option maxHeartbeats 4000000 in
set_option maxRecDepth 100000 in
theorem works_any (w : World) : Calls Try.prog 8 #[] w fun e w' => e = .returned (.bool true) ∧ Below w.heap.size w w' := by
  go_enter Try.func8, Try.ntmps8
  go_wp2_with fail
  refine (one_new w.heap.size 3 _ w rfl (by omega) (by omega) (Nat.le_refl _)).mono ?_
  rintro e w1 ⟨q, rfl, hb1, ho1⟩
  have O1 : Hid (One w.heap.size w1 q wD0) := ho1
  clear ho1
  go_wp2_with fail
  refine (full_c 97 _ w1 rfl).mono ?_
  rintro e w2 ⟨g2, rfl, hr2, hb2⟩
  have hs1 := hb1.size
  have hs2 := hb2.size
  go_wp2_with fail
  have c3 := one_write (O1.out.grow hb2) 1 _ _ hr2 (wF0.fine (by omega))
  rw [wE1] at c3
  refine c3.mono ?_
  rintro e w3 ⟨rfl, hb3, ho3⟩
  have O3 := Lib.hid ho3
  have hs3 := hb3.size
  clear ho3 c3 hr2
  go_wp2_with fail
  have c4 := one_flush O3.out (wF1.fine (by omega))
  rw [wE2] at c4
  refine c4.mono ?_
  rintro e w4 ⟨rfl, hb4, ho4⟩
  have O4 := Lib.hid ho4
  have hs4 := hb4.size
  clear ho4 c4
  go_wp2_with fail
  refine (full_c 98 _ w4 rfl).mono ?_
  rintro e w5 ⟨g5, rfl, hr5, hb5⟩
  have hs5 := hb5.size
  go_wp2_with fail
  have c6 := one_write (O4.out.grow hb5) 1 _ _ hr5 (wF2.fine (by omega))
  rw [wE3] at c6
  refine c6.mono ?_
  rintro e w6 ⟨rfl, hb6, ho6⟩
  have O6 := Lib.hid ho6
  have hs6 := hb6.size
  clear ho6 c6 hr5
  go_wp2_with fail
  refine (full_c 99 _ w6 rfl).mono ?_
  rintro e w7 ⟨g7, rfl, hr7, hb7⟩
  have hs7 := hb7.size
  go_wp2_with fail
  have c8 := one_write (O6.out.grow hb7) 2 _ _ hr7 (wF3.fine (by omega))
  rw [wE4] at c8
  refine c8.mono ?_
  rintro e w8 ⟨rfl, hb8, ho8⟩
  have O8 := Lib.hid ho8
  have hs8 := hb8.size
  clear ho8 c8 hr7
  go_wp2_with fail
  have c9 := one_read O8.out 1 (wF4.fine (by omega))
  rw [wE4r] at c9
  refine c9.mono ?_
  rintro e w9 ⟨v9, rfl, hr9, hb9, ho9⟩
  obtain ⟨g9, cap9, rfl, hg9, hg9', hc9⟩ := own_at hr9
  have k9 : w9.cell? ⟨g9, 0, none⟩ = some (.int .u8 98) := hc9 0 (by omega)
  have O9 := Lib.hid ho9
  have hs9 := hb9.size
  clear ho9 c9 hr9 hc9
  go_wp2_with fail
  have hb10 := Below.alloc (Below.refl w9.heap.size w9) (Nat.le_refl _) (.cells #[.bool false, .bool true] 4)
  have hrow : RowAt (w9.alloc (.cells #[.bool false, .bool true] 4)) (.slice (some ⟨w9.heap.size, 0, none⟩) 2 2) [false, true].length 1 (KS [false, true]) := by
    have ho := World.ownsRow_lit (base := 0) (e := 4) (size := 1) w9 #[.bool false, .bool true] 2 (Nat.zero_le _) (by unfold maxLen; omega) rfl
    exact RowAt.of_own ho
  have hs10 := hb10.size
  have c11 := one_crash (O9.out.grow hb10) _ [false, true] hrow (by decide) (wF4.fine (by omega))
  rw [wE5] at c11
  refine c11.mono ?_
  rintro e w11 ⟨rfl, hb11, ho11⟩
  have O11 := Lib.hid ho11
  have hs11 := hb11.size
  clear ho11 c11 hrow
  go_wp2_with fail
  have c12 := one_dead O11.out
  rw [wE5d] at c12
  refine c12.mono ?_
  rintro e w12 ⟨rfl, rfl⟩
  clear c12
  go_wp2_with fail
  refine (one_again O11.out wE5d (wF5.fine (by omega))).mono ?_
  rintro e w13 ⟨q', rfl, hb13, ho13⟩
  have O13 : Hid (One w.heap.size w13 q' wD6) := ho13
  have hs13 := hb13.size
  clear ho13
  go_wp2_with fail
  have c14 := one_read O13.out 1 (wF6.fine (by omega))
  rw [wE6a] at c14
  refine c14.mono ?_
  rintro e w14 ⟨v14, rfl, hr14, hb14, ho14⟩
  obtain ⟨g14, cap14, rfl, hg14, hg14', hc14⟩ := own_at hr14
  have k14 : w14.cell? ⟨g14, 511, none⟩ = some (.int .u8 97) := hc14 511 (by omega)
  have O14 := Lib.hid ho14
  have hs14 := hb14.size
  clear ho14 c14 hr14 hc14
  go_wp2_with fail
  have c15 := one_read O14.out 2 (wF6.fine (by omega))
  rw [wE6b] at c15
  refine c15.mono ?_
  rintro e w15 ⟨v15, rfl, hr15, hb15, ho15⟩
  obtain ⟨g15, cap15, rfl, hg15, hg15', hc15⟩ := own_at hr15
  have k15 : w15.cell? ⟨g15, 0, none⟩ = some (.int .u8 99) := hc15 0 (by omega)
  have k14' : w15.cell? ⟨g14, 511, none⟩ = some (.int .u8 97) := (hb15.cell (p := ⟨g14, 511, none⟩) hg14').trans k14
  have hs15 := hb15.size
  clear ho15 c15 hr15 hc15
  go_wp2_with fail
  go_ret
  refine ⟨rfl, ?_⟩
  have l1 := hb1
  have l2 := l1.trans (Joins.below_le hb2 (by omega))
  have l3 := l2.trans hb3
  have l4 := l3.trans hb4
  have l5 := l4.trans (Joins.below_le hb5 (by omega))
  have l6 := l5.trans hb6
  have l7 := l6.trans (Joins.below_le hb7 (by omega))
  have l8 := l7.trans hb8
  have l9 := l8.trans (Joins.below_le hb9 (by omega))
  have l10 := l9.trans (Joins.below_le hb10 (by omega))
  have l11 := l10.trans hb11
  have l13 := l11.trans (Joins.below_le hb13 (by omega))
  have l14 := l13.trans (Joins.below_le hb14 (by omega))
  exact l14.trans (Joins.below_le hb15 (by omega))
end Go.Proofs.Ythchnnddnjibmaa
