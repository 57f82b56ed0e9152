/-
  The document's own disk: Fuse, Reopen. Conditions: none but that it lies in memory and its lists are not too long.
-/
import Derived.Test.YtplpfhgdanclhaaDRefC
namespace Go.Proofs.Ytplpfhgdanclhaa
open Go.RowKit

/-- a new row of no elements -/
theorem empty_row (w : World) (e : TypeId) (size base : Nat) (h : base ≤ w.heap.size) : (w.alloc (.cells #[] e)).ownsRow base e size (.slice (some ⟨w.heap.size, 0, none⟩) 0 0) 0 [] := World.ownsRow_lit w #[] 0 h (by unfold maxLen; omega) (by simp)
theorem KS_one (l : List Bool) : ∀ u ∈ KS l, u.oneCell' = true := by
  intro u hu
  obtain ⟨b, _, rfl⟩ := List.mem_map.1 hu
  rfl
theorem SS_one (l : List (List UInt8)) : ∀ u ∈ SS l, u.oneCell' = true := by
  intro u hu
  obtain ⟨b, _, rfl⟩ := List.mem_map.1 hu
  rfl
theorem KS_length (l : List Bool) : (KS l).length = l.length := by simp [KS]
theorem SS_length (l : List (List UInt8)) : (SS l).length = l.length := by simp [SS]

/-- blocks that have been made since -/
def Made (w w' : World) : Nat → Prop := fun n => w.heap.size ≤ n ∧ n < w'.heap.size

end Go.Proofs.Ytplpfhgdanclhaa
