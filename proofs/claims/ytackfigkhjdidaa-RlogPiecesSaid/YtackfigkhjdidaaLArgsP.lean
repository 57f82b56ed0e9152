/-
  How an argument that is a slice of pieces reads plainly. No statement is proved here. No condition.
-/
import Derived.Test.YtackfigkhjdidaaLPieces
import Derived.Test.YtackfigkhjdidaaLArgs
namespace Go.Proofs.Ytackfigkhjdidaa
open Go.ChangeShapes Go.WideShapes Go.ChangeAt Go.RowKit
open Go.ChangeMaps (open_string shut_string)

theorem c_piece : Try.prog.cellsOf 65 = 2 := by kernel_rfl
theorem b_piece : Try.prog.bytesOf 65 = 16 := by kernel_rfl
theorem piece_struct : ∃ fs : Array Field, Try.prog.underlying 65 = some (.struct fs) ∧ fs.toList.map (fun f => (f.offset, f.type)) = [(0, 3), (1, 3)] := ⟨_, Try.underlying65, rfl⟩
section
variable {H : Type} {enc : TypeId × Value → H} {w : World} {base : Nat} {spare : Nat → Bool} {held : Bool} {n : Nat} {cs : List Value} {y : DataW H × List MemPlace}
set_option maxRecDepth 100000 in
theorem one_piece (h : DataW.trod enc Try.prog w base spare held n 65 cs = some y) : ∃ r : Int × Int, cs = pieceR.vals r := by
  obtain ⟨fs, hfs, hts⟩ := piece_struct
  obtain ⟨xs, k, -, hy, hlen, hxl, hff⟩ := DataW.trod_struct hfs h
  have hsz : fs.size = 2 := by have := congrArg List.length hts; simpa using this
  have hl : cs.length = 2 := by rw [hlen]; exact c_piece
  obtain ⟨f0, g0, o0, t0⟩ := field_in hts (j := 0) rfl
  obtain ⟨f1, g1, o1, t1⟩ := field_in hts (j := 1) rfl
  match cs, hl with
  | a0 :: a1 :: [], _ =>
    have h0 := hff 0 f0 g0
    rw [o0, t0, c_int, List.getElem?_eq_getElem (show 0 < xs.length by omega)] at h0
    have h1 := hff 1 f1 g1
    rw [o1, t1, c_int, List.getElem?_eq_getElem (show 1 < xs.length by omega)] at h1
    obtain ⟨s0, e0, -, w0⟩ := DataW.trod_int Try.underlying3 h0
    simp at e0
    subst e0
    obtain ⟨s1, e1, -, w1⟩ := DataW.trod_int Try.underlying3 h1
    simp at e1
    subst e1
    exact ⟨(s0, s1), rfl⟩
end
end Go.Proofs.Ytackfigkhjdidaa
