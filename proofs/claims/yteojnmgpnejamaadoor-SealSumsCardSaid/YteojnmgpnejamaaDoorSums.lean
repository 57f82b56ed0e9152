/-
  The walk of the law SealSums: the sums are the document's. Conditions: the table reads as the program lays it, the bytes lie in memory.
-/
import Derived.Test.YteojnmgpnejamaaDoorAwake
namespace Go.Proofs.YteojnmgpnejamaaDoor
open Go.RowKit

set_option maxHeartbeats 1000000 in
theorem sums_walk (l : List UInt8) (b : Value) (s : Nat) (w : World) (ht : Tab w) (hs : s < 4294967296) (hr : Rd w w.heap.size b l) (hl : l.length ≤ 140737488351232) :
    Calls Tryd.prog 3 #[b, .int .u32 (s : Int)] w fun e w' => e = .returned (.bool true) ∧ Below w.heap.size w w' := by
  have HR := Lib.hid hr
  obtain ⟨A, c, rfl, -⟩ := hr
  by_cases hbig : 20000 < l.length
  · have hbig2 : (20000 : Int) < (l.length : Int) := by omega
    go_enter Tryd.func3, Tryd.ntmps3
    go_wp2_with fail
    refine (awake_any _ ht).mono ?_
    rintro e w1 ⟨rfl, hb1⟩
    go_wp2_with fail
    go_ret
    exact ⟨rfl, hb1⟩
  · have hbig2 : ¬ (20000 : Int) < (l.length : Int) := by omega
    obtain ⟨i0, hi, hz0, hz1, hz2⟩ := info_parts info_u8
    go_enter Tryd.func3, Tryd.ntmps3
    go_wp2_with (at_builtin; refine wpList_app rfl (.tmp 10) (.tmp 11) 22 rfl w.heap.size 5 i0 Tryd.underlying22 hi hz0 hz1 hz2 _ (.slice A l.length c) [] l 0 rfl rfl (World.ownsRow_lit w #[] 0 (Nat.le_refl _) (by unfold maxLen; omega) rfl) w.heap.size (HR.out.below ((Below.refl _ _).alloc (Nat.le_refl _) _) (Nat.le_refl _)) (by simp; omega) (by simp) ?_; intro v1 w1 ho1 hg1; have hb1 : Below w.heap.size w w1 := ((Below.refl _ _).alloc (Nat.le_refl _) _).grown hg1 (by simp) (fun k h => by injection h with h; subst h; exact Nat.le_refl _); clear hg1)
    rw [List.nil_append] at ho1
    refine (sum_any l v1 _ (ht.below hb1 ht.1) (Rd.own ho1) (by omega)).mono ?_
    rintro e w2 ⟨rfl, hb2⟩
    have ho2 := own_below ho1 hb2 (Nat.le_refl _)
    have hb2' := hb1.trans (hb2.mono hb1.size)
    clear ho1 hb1 hb2
    go_wp2_with fail
    refine (refsum_any l _ _ (HR.out.below hb2' hb2'.size) (by omega)).mono ?_
    rintro e w3 ⟨rfl, rfl⟩
    obtain ⟨x, hx⟩ : ∃ x, x = sumN 0 l := ⟨_, rfl⟩
    rw [← hx]
    clear hx
    go_wp2_with fail
    refine (more_any l v1 s _ hs (ht.below hb2' ht.1) (Rd.own ho2) (by omega)).mono ?_
    rintro e w4 ⟨rfl, hb4⟩
    have ho4 := own_below ho2 hb4 (Nat.le_refl _)
    have hb4' := hb2'.trans (hb4.mono hb2'.size)
    clear ho2 hb2' hb4
    go_wp2_with fail
    refine (refmore_any l _ s _ hs (HR.out.below hb4' hb4'.size) (by omega)).mono ?_
    rintro e w5 ⟨rfl, rfl⟩
    obtain ⟨y, hy⟩ : ∃ y, y = sumN s l := ⟨_, rfl⟩
    rw [← hy]
    clear hy
    go_wp2_with fail
    refine (same_any l l v1 _ _ (Rd.own ho4) (HR.out.below hb4' hb4'.size) (by omega) (by omega)).mono ?_
    rintro e w6 ⟨rfl, hb6⟩
    have hb6' := hb4'.trans (hb6.mono hb4'.size)
    clear hb4' hb6 ho4
    rw [show decide (l = l) = true by simp]
    go_wp2_with fail
    refine (awake_any _ (ht.below hb6' ht.1)).mono ?_
    rintro e w7 ⟨rfl, hb7⟩
    go_wp2_with fail
    go_ret
    exact ⟨rfl, hb6'.trans (hb7.mono hb6'.size)⟩
end Go.Proofs.YteojnmgpnejamaaDoor
