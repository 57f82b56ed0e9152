/-
  What the document's own Seal (butteryref02) comes to: the same frame, in new memory, or the same refusal. Condition: the body lies in memory.
-/
import Derived.Test.YtfmaocinckeagaaDoorFrame
import Derived.Test.YtfmaocinckeagaaDoorSumRef
namespace Go.Proofs.YtfmaocinckeagaaDoor
open Go.RowKit

set_option maxHeartbeats 1000000 in
theorem refseal_any (k : UInt8) (l : List UInt8) (v : Value) (w : World) (hv : Rd w w.heap.size v l) (hl : l.length ≤ 140737488355328) :
    Calls Tryd.prog 16 #[.int .u8 (k.toNat : Int), v] w (SealedPost w k l) := by
  have HV := Lib.hid hv
  obtain ⟨A, c, rfl, -⟩ := hv
  obtain ⟨i0, hi, hz0, hz1, hz2⟩ := info_parts info_u8
  by_cases hbig : 8192 < l.length
  · have hbig2 : (8192 : Int) < (l.length : Int) := by omega
    have hs : sealedOf k l = (40, []) := if_pos hbig
    have HS := Lib.hid hs
    clear hs
    go_enter Tryd.func16, Tryd.ntmps16
    go_wp2_with fail
    go_ret2
    exact ⟨.slice none 0 0, 0, by rw [HS.out]; rfl, by rw [HS.out]; exact World.ownsRow_nil _ _ _ _, Below.refl _ _⟩
  · have hbig2 : ¬ (8192 : Int) < (l.length : Int) := by omega
    have hs : sealedOf k l = (0, frame k l) := if_neg hbig
    have HS := Lib.hid hs
    clear hs
    go_enter Tryd.func16, Tryd.ntmps16
    have HH := Lib.hid (head_cells k l.length (by omega))
    have hS : sumN 0 (bareOf k l) < 4294967296 := sumN_lt _ (by decide)
    have H4 := Lib.hid (le4_cells _ hS)
    go_wp2_with (at_builtin; refine wpList_app rfl (.tmp 21) (.tmp 22) 27 rfl w.heap.size 5 i0 Tryd.underlying27 hi hz0 hz1 hz2 _ (.slice A l.length c) (headOf k l.length) l 3 rfl rfl (HH.out ▸ World.ownsRow_lit w _ 3 (Nat.le_refl _) (by unfold maxLen; decide) rfl) w.heap.size (HV.out.below ((Below.refl _ _).alloc (Nat.le_refl _) _) (Nat.le_refl _)) (by rw [headOf_length]; omega) (by simp) ?_; intro v1 w1 ho1 hg1)
    have hb1 : Below w.heap.size w w1 := ((Below.refl _ _).alloc (Nat.le_refl _) _).grown hg1 (by simp) (fun k h => by injection h with h; subst h; exact Nat.le_refl _)
    clear hg1
    refine (refsum_any (bareOf k l) v1 _ (Rd.own ho1) (by rw [bareOf_length]; omega)).mono ?_
    rintro e w2 ⟨rfl, rfl⟩
    have ho2 : w1.ownsRow w.heap.size 5 1 v1 (3 + l.length) (BS (bareOf k l)) := ho1
    clear ho1
    obtain ⟨S, hSS⟩ : ∃ S, S = sumN 0 (bareOf k l) := ⟨_, rfl⟩
    rw [← hSS] at hS H4 ⊢
    have HSS := Lib.hid hSS
    clear hSS
    go_wp2_with (at_builtin; refine wpList_app rfl (.tmp 26) (.tmp 38) 27 rfl w.heap.size 5 i0 Tryd.underlying27 hi hz0 hz1 hz2 _ _ (bareOf k l) (le4u S) _ rfl rfl (ho2.alloc _) (w1.heap.size + 1) (Rd.lits w1 _ _ _ 4 H4.out rfl (by rw [le4u_length]; unfold maxLen; decide)) (by rw [le4u_length, bareOf_length]; omega) (by have := hb1.size; simp; omega) ?_; intro v3 w3 ho3 hg3)
    have hb3 := (hb1.alloc hb1.size _).grown hg3 (by have := hb1.size; simp; omega) (fun k h => (ho2.lt k h).1)
    go_ret2
    exact ⟨v3, _, by rw [HS.out]; rfl, by rw [HS.out]; exact (HSS.out ▸ ho3 : _), hb3⟩
end Go.Proofs.YtfmaocinckeagaaDoor
