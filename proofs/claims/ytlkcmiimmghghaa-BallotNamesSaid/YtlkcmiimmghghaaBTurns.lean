/-
  The law of turns, walked. No statement is proved here. No condition.
-/
import Derived.Test.YtlkcmiimmghghaaBMem
import Derived.Test.YtlkcmiimmghghaaBTurnR
import Derived.Test.YtlkcmiimmghghaaBNearR
namespace Go.Proofs.Ytlkcmiimmghghaa
open Go.RowKit

def longB (l m : List Int) : Bool := decide ((l.length : Int) > 200 ∨ (m.length : Int) > 200)
theorem turnO_len (l : List Int) (s : Int) : (turnO l s).length ≤ 5 := by
  unfold turnO
  split
  · exact Nat.le_trans (List.length_filter_le _ _) (by decide)
  · simp
end Go.Proofs.Ytlkcmiimmghghaa
