/-
  The document's own disk: Write, Flush, Crash, Fuse. Conditions: none but that it lies in memory and its lists are not too long.
-/
import Derived.Test.YtplpfhgdanclhaaDRef
namespace Go.Proofs.Ytplpfhgdanclhaa
open Go.RowKit

/-- blocks that were there, and those that have been made since -/
def More (F : Nat → Prop) (w w' : World) : Nat → Prop := fun n => F n ∨ (w.heap.size ≤ n ∧ n < w'.heap.size)
theorem More.here {F : Nat → Prop} {w w' : World} : ∀ b, F b → More F w w' b := fun _ h => .inl h
theorem info_S : (Try.prog.info? 9).map (fun i => (i.zero, i.size, i.bytes)) = some (some (.string ByteArray.empty), 1, 16) := by kernel_rfl
theorem info_B : (Try.prog.info? 4).map (fun i => (i.zero, i.size, i.bytes)) = some (some (.bool false), 1, 1) := by kernel_rfl

end Go.Proofs.Ytplpfhgdanclhaa
