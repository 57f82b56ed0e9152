/-
  The laws' own helper 'full': a new slice of 512 bytes that are all one. No condition.
-/
import Derived.Test.YtplpfhgdanclhaaDRefE
namespace Go.Proofs.Ytplpfhgdanclhaa
open Go.RowKit

theorem made_bytes (w : World) : ∃ w', (Instr.makeSlice 39 (.int .i64 512) (.int .i64 512)).run Try.prog w = .ok (.slice (some ⟨w.heap.size, 0, none⟩) 512 512) w' ∧ w'.ownsRow w.heap.size 5 1 (.slice (some ⟨w.heap.size, 0, none⟩) 512 512) 512 (BS (List.replicate 512 0)) ∧ Below w.heap.size w w' := by
  obtain ⟨i0, hi, hz0, hz1, hz2⟩ := info_parts (show (Try.prog.info? 5).map (fun i => (i.zero, i.size, i.bytes)) = some (some (.int .u8 0), 1, 1) by kernel_rfl)
  obtain ⟨w', h1, h2, h3⟩ := run_make_full (P := Try.prog) w w.heap.size 39 5 i0 _ 1 Try.underlying39 hi hz0 hz1 .i64 .i64 512 (by rw [hz2]; omega) (by unfold maxLen; omega) (Nat.le_refl _)
  have hBS : (madeCells (Value.int .u8 0).cells (512 * 1)).toList = BS (List.replicate 512 0) := by
    show (madeCells #[Value.int .u8 0] (512 * 1)).toList = _
    rw [toList_madeCells_one]
    unfold BS
    rw [List.map_replicate]
    rfl
  rw [hBS] at h2
  exact ⟨w', h1, h2, (Below.refl _ _).grown h3 (Nat.le_refl _) (fun k h => by cases h)⟩
theorem BS_set (xs : List UInt8) (r : Nat) (u : UInt8) : BS (xs.set r u) = (BS xs).set r (.int .u8 (u.toNat : Int)) := by unfold BS; rw [List.map_set]
/-- r bytes c, the rest noughts -/
def filled (c : UInt8) (r : Nat) : List UInt8 := List.replicate r c ++ List.replicate (512 - r) 0
theorem filled_set (c : UInt8) (r : Nat) (h : r < 512) : (filled c r).set r c = filled c (r + 1) := by
  unfold filled
  rw [List.set_append_right _ _ (by rw [List.length_replicate]; exact Nat.le_refl _), List.length_replicate, Nat.sub_self, show 512 - r = (512 - (r + 1)) + 1 by omega, List.replicate_succ, List.set_cons_zero, List.replicate_succ', List.append_assoc]
  rfl
theorem filled_length (c : UInt8) (r : Nat) (h : r ≤ 512) : (filled c r).length = 512 := by unfold filled; rw [List.length_append, List.length_replicate, List.length_replicate]; omega

/-- a sector of one byte -/
def all512 (c : UInt8) : List UInt8 := List.replicate 512 c

end Go.Proofs.Ytplpfhgdanclhaa
