/-
  The document's own disk: New. Conditions: none.
-/
import Derived.Test.YtplpfhgdanclhaaDRefD
import Derived.Laws.MakeOwn
namespace Go.Proofs.Ytplpfhgdanclhaa
open Go.RowKit

/-- n sectors of noughts -/
def blank (n : Nat) : List (List UInt8) := List.replicate n (List.replicate 512 0)
theorem blank_snoc (n : Nat) : blank (n + 1) = blank n ++ [List.replicate 512 0] := List.replicate_succ'
theorem blank_length (n : Nat) : (blank n).length = n := List.length_replicate
theorem SS_append (l m : List (List UInt8)) : SS (l ++ m) = SS l ++ SS m := by unfold SS; rw [List.map_append]

theorem zero_text (w : World) : ∃ v w' bs, (Instr.makeSlice 39 (.int .i64 512) (.int .i64 512)).run Try.prog w = .ok v w' ∧ (convert 39 9 v).run Try.prog w' = .ok (.string bs) w' ∧ bs = ⟨(List.replicate 512 (0 : UInt8)).toArray⟩ ∧ Below w.heap.size w w' ∧ (∃ A, v = .slice A 512 512) := by
  obtain ⟨i0, hi, hz0, hz1, hz2⟩ := info_parts (show (Try.prog.info? 5).map (fun i => (i.zero, i.size, i.bytes)) = some (some (.int .u8 0), 1, 1) by kernel_rfl)
  obtain ⟨w', h1, h2, h3⟩ := run_make_full (P := Try.prog) w w.heap.size 39 5 i0 _ 1 Try.underlying39 hi hz0 hz1 .i64 .i64 512 (by rw [hz2]; omega) (by unfold maxLen; omega) (Nat.le_refl _)
  have hBS : (madeCells (Value.int .u8 0).cells (512 * 1)).toList = BS (List.replicate 512 0) := by
    show (madeCells #[Value.int .u8 0] (512 * 1)).toList = _
    rw [toList_madeCells_one]
    unfold BS
    rw [List.map_replicate]
    rfl
  rw [hBS] at h2
  exact ⟨_, w', _, h1, run_str (P := Try.prog) 39 5 9 Try.underlying39 Try.underlying5 Try.underlying9 (Rd.own h2), rfl, (Below.refl _ _).grown h3 (Nat.le_refl _) (fun k h => by cases h), _, rfl⟩

end Go.Proofs.Ytplpfhgdanclhaa
