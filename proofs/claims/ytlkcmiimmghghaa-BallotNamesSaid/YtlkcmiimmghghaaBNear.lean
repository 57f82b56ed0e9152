/-
  Whether two lists are unlike by one at most: the program's, and the document's. No statement is proved here. No condition.
-/
import Derived.Test.YtlkcmiimmghghaaBWithoutW
namespace Go.Proofs.Ytlkcmiimmghghaa
open Go.RowKit

set_option maxHeartbeats 1000000 in
theorem near_any (l m : List Int) (a b : Value) (w : World) (ha : inR.N w Any a l) (hb : inR.N w Any b m) (hl : l.length ≤ 1000) (hm : m.length ≤ 1000) (wl : ∀ x ∈ l, I6 x) (wm : ∀ x ∈ m, I6 x) :
    Calls Try.prog 13 #[a, b] w fun e w' => e = .returned (.bool (near l m)) ∧ Below w.heap.size w w' := by
  have c1 := without_any l m a b w ha hb hl hm wl wm
  have H := Lib.hid (And.intro ha (And.intro hb (And.intro wl wm)))
  clear ha hb wl wm
  go_enter Try.func13, Try.ntmps13
  go_wp2_with fail
  refine c1.mono ?_
  rintro e w1 ⟨v1, rfl, ho1, hb1⟩
  clear c1
  obtain ⟨A1, k1, rfl⟩ := ho1.slice
  have c2 := without_any m l b a w1 (H.out.2.1.grow hb1) (H.out.1.grow hb1) hm hl H.out.2.2.2 H.out.2.2.1
  have HB1 := Lib.hid hb1
  have hl1 : (wo m l).length ≤ 1000 := Nat.le_trans (wo_len _ _) hl
  clear hb1 ho1
  go_wp2_with fail
  refine c2.mono ?_
  rintro e w2 ⟨v2, rfl, ho2, hb2⟩
  clear c2
  obtain ⟨A2, k2, rfl⟩ := ho2.slice
  have HB := Lib.hid (HB1.out.trans (Joins.below_le hb2 HB1.out.size))
  have hl2 : (wo l m).length ≤ 1000 := Nat.le_trans (wo_len _ _) hm
  clear hb2 ho2
  have HN : Hid (near l m = decide (((wo m l).length : Int) + ((wo l m).length : Int) ≤ 1)) := Lib.hid (by
    unfold near lack
    rw [Bool.eq_iff_iff]
    simp only [decide_eq_true_eq]
    omega)
  go_wp2_with fail
  go_ret
  exact ⟨by rw [HN.out] <;> rfl, HB.out⟩
end Go.Proofs.Ytlkcmiimmghghaa
