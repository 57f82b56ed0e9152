/-
  How an argument that is a slice of numbers reads plainly, each number one that the machine has. No statement is proved here. No condition.
-/
import Derived.Test.YtblbcoknefgcaaaBArgs
import Derived.Test.YtblbcoknefgcaaaUMap
namespace Go.Proofs.Ytblbcoknefgcaaa
open Go.ChangeShapes Go.WideShapes Go.ChangeAt Go.RowKit
open Go.ChangeMaps (open_string shut_string)

def inJ : Rec {n : Int // I6 n} where
  vals x := inR.vals x.1
  size := 1
  len _ := rfl
  one x := inR.one x.1
theorem int_of {w : World} {v : Value} {L : List {n : Int // I6 n}} (h : inJ.N w Any v L) : inR.N w Any v (L.map (·.1)) := by
  have hrow : inR.row (L.map (·.1)) = inJ.row L := by
    unfold Rec.row
    rw [List.flatMap_map]
    rfl
  unfold Rec.N at h ⊢
  rw [hrow, List.length_map]
  exact h
section
variable {H : Type} {enc : TypeId × Value → H} {w : World} {base : Nat} {spare : Nat → Bool} {held : Bool} {n : Nat} {cs : List Value} {y : DataW H × List MemPlace}
theorem one_intW (h : DataW.trod enc Try.prog w base spare held n 3 cs = some y) : ∃ r : {n : Int // I6 n}, cs = inJ.vals r := by
  obtain ⟨s, e, -, hw⟩ := DataW.trod_int Try.underlying3 h
  exact ⟨⟨s, hw⟩, e⟩
theorem open_intsW {a : Option Addr} {len cap : Nat} {fuel : Nat} {x : DataW H × List MemPlace} (h : DataW.trod enc Try.prog w base spare held fuel 32 [.slice a len cap] = some x) (hw : ∀ q ∈ x.1.weights Try.prog 32, q ≤ reachBytes) :
    ∃ l : List Int, l.length = len ∧ inR.N w Any (.slice a len cap) l ∧ len * Try.prog.bytesOf 3 ≤ 140737488355328 ∧ ∀ x ∈ l, I6 x := by
  obtain ⟨L, hL, hN, hb⟩ := open_recW (R := inJ) Try.underlying32 c_int (by decide) (fun _ _ _ h _ => one_intW h) h hw
  refine ⟨L.map (·.1), by rw [List.length_map, hL], int_of hN, hb, fun x hx => ?_⟩
  obtain ⟨z, -, rfl⟩ := List.mem_map.1 hx
  exact z.2
end
end Go.Proofs.Ytblbcoknefgcaaa
