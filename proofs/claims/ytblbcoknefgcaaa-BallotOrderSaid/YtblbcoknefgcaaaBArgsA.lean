/-
  How an argument that is a pair of numbers reads plainly. No statement is proved here. No condition.
-/
import Derived.Test.YtblbcoknefgcaaaBArgs
import Derived.Test.YtblbcoknefgcaaaBOrder
import Derived.OpenShut
namespace Go.Proofs.Ytblbcoknefgcaaa
open Go.ChangeShapes Go.WideShapes Go.ChangeAt Go.RowKit
open Go.ChangeMaps (open_string shut_string)

theorem c_two : Try.prog.cellsOf 64 = 2 := by kernel_rfl
set_option maxRecDepth 100000 in
theorem okWide_two {w : World} {r : Reach} {base : Nat} {v : Value} (h : Value.okWide Try.prog w r base 64 v) : ∃ cs, v = .agg cs := by
  simp only [Value.okWide, Try.underlying64] at h
  obtain ⟨cs, h1, -⟩ := h
  exact ⟨cs, h1⟩
section
variable {H : Type} {enc : TypeId × Value → H} {w : World} {base : Nat} {spare : Nat → Bool} {held : Bool} {n : Nat} {cs : List Value} {y : DataW H × List MemPlace}
set_option maxRecDepth 100000 in
theorem one_two (h : DataW.trod enc Try.prog w base spare held n 64 cs = some y) : ∃ a b : Int, cs = [.int .i64 a, .int .i64 b] := by
  obtain ⟨xs, m, -, -, hlen, hxl, hff⟩ := DataW.trod_array Try.underlying64 h
  have hl : cs.length = 2 := by rw [hlen]; exact c_two
  match cs, hl with
  | a0 :: a1 :: [], _ =>
    have h0 := hff 0 (by decide)
    rw [c_int, List.getElem?_eq_getElem (show 0 < xs.length by omega)] at h0
    have h1 := hff 1 (by decide)
    rw [c_int, List.getElem?_eq_getElem (show 1 < xs.length by omega)] at h1
    obtain ⟨s0, e0, -, w0⟩ := DataW.trod_int Try.underlying3 h0
    simp at e0
    subst e0
    obtain ⟨s1, e1, -, w1⟩ := DataW.trod_int Try.underlying3 h1
    simp at e1
    subst e1
    exact ⟨s0, s1, rfl⟩
end
end Go.Proofs.Ytblbcoknefgcaaa
