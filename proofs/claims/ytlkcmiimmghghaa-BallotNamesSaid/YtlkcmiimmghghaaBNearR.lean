/-
  Whether two lists are unlike by one at most, and are the same: the document's. No statement is proved here. No condition.
-/
import Derived.Test.YtlkcmiimmghghaaBNear
namespace Go.Proofs.Ytlkcmiimmghghaa
open Go.RowKit

/-- how many of a list others have not -/
def cntNo (r l : List Int) : Nat := (l.filter fun x => !hasI r x).length
theorem cntNo_le (r l : List Int) : cntNo r l ≤ l.length := List.length_filter_le _ _
theorem cntNo_snoc {r l : List Int} {k : Nat} {x : Int} (h : l[k]? = some x) : cntNo r (l.take (k + 1)) = cntNo r (l.take k) + (if hasI r x = true then 0 else 1) := by
  unfold cntNo
  rw [filter_snoc _ h]
  cases hasI r x <;> rfl
theorem cntNo_lack (a b : List Int) : cntNo (wo [] b) (wo [] a) = lack a b := lack_count a b
/-- are two lists the same -/
def sameI (l m : List Int) : Bool := decide (l = m)
end Go.Proofs.Ytlkcmiimmghghaa
