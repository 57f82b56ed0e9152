/-
  The row's condition on the listed table gives what the walks ask; and the program's own start meets it. No other condition.
-/
import Derived.Test.YtfmaocinckeagaaDoorSum
import Derived.ProofKit
import Derived.LaidMore
import Derived.OpenShut
import Derived.Stop.Joined
import Derived.Lib.LaidTab
namespace Go.Proofs.YtfmaocinckeagaaDoor
open Go.ChangeShapes Go.WideShapes Go.ChangeAt Go.RowKit

def laidOne : List (String × DataW Unit) := [("buttery/seal.halfStep", Rows.laid_buttery_seal_halfStep)]
theorem gHalf : Tryd.prog.globalNamed "buttery/seal.halfStep" = some 0 := by kernel_rfl
theorem tHalf : (Tryd.prog.globals[0]?).map (·.type) = some 124 := by kernel_rfl
theorem cells_u32 : Tryd.prog.cellsOf 78 = 1 := by kernel_rfl
theorem cells_tab : Tryd.prog.cellsOf 124 = 16 := by kernel_rfl

theorem tab_of_laid {W : World} (h : laidMetH Tryd.prog laidOne W) : Tab W := by
  rw [MakeChecks.laidMetH_plain _ _ _ (by kernel_rfl)] at h
  have h' : laidMet Tryd.prog (("buttery/seal.halfStep", Lib.tabData .u32 (tabN.map fun (n : Nat) => (n : Int))) :: []) W := h
  have hT := Lib.tabIs_of_head gHalf tHalf Tryd.underlying124 Tryd.underlying78 cells_u32 cells_tab h'
  have hc : ∀ i, i < 16 → W.cell? ⟨0, i, none⟩ = some (.int .u32 ((tabAt i : Nat) : Int)) := by
    intro i hi
    have hl : i < tabN.length := hi
    have := hT.cell gHalf i (by rw [List.length_map]; exact hl)
    rw [this]
    unfold tabAt
    simp [List.getD, hl]
  exact ⟨World.block_lt_of_cell? W _ (hc 0 (by omega)), hc⟩

theorem door_met (os : Os) (args : Array Value) : laidMetH Tryd.prog laidOne ((World.doorLaid Tryd.prog 400 os).forCall (fun _ _ => 0) ⟨#[], args, []⟩).memory :=
  laidMetH_of_parts3 (fuel := 8) (laidMet_of_run' 8 (by kernel_rfl) (by kernel_rfl)) (by kernel_rfl) (by kernel_rfl)
end Go.Proofs.YtfmaocinckeagaaDoor
