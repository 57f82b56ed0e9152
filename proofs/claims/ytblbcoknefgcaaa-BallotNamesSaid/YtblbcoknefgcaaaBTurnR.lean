/-
  The voters with one more, or one less: the document's. No statement is proved here. No condition.
-/
import Derived.Test.YtblbcoknefgcaaaBTurn
namespace Go.Proofs.Ytblbcoknefgcaaa
open Go.RowKit

/-- Turn's numbers up to k -/
def upK (l : List Int) (s : Int) (k : Nat) : List Int := (([1, 2, 3, 4, 5] : List Int).take (k - 1)).filter fun v => hasI l v != (v == s)
theorem upK_all (l : List Int) (s : Int) : upK l s 6 = turnL l s := rfl
theorem upK_step (l : List Int) (s : Int) {k : Nat} (h1 : 1 ≤ k) (h5 : k ≤ 5) : upK l s (k + 1) = if (hasI l (k : Int) != ((k : Int) == s)) = true then upK l s k ++ [(k : Int)] else upK l s k := by
  have hx : ([1, 2, 3, 4, 5] : List Int)[k - 1]? = some (k : Int) := by
    have : k = 1 ∨ k = 2 ∨ k = 3 ∨ k = 4 ∨ k = 5 := by omega
    rcases this with rfl | rfl | rfl | rfl | rfl <;> rfl
  unfold upK
  rw [show k + 1 - 1 = (k - 1) + 1 by omega, take_snoc hx, List.filter_append]
  cases h : (hasI l (k : Int) != ((k : Int) == s))
  · simp [h]
  · simp [h]
theorem upK_len (l : List Int) (s : Int) (k : Nat) : (upK l s k).length ≤ 5 := Nat.le_trans (List.length_filter_le _ _) (by rw [List.length_take]; exact Nat.min_le_right _ _)
end Go.Proofs.Ytblbcoknefgcaaa
