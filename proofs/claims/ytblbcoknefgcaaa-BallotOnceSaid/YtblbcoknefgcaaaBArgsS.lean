/-
  How an argument that is a slice of those who stand reads plainly. No statement is proved here. No condition.
-/
import Derived.Test.YtblbcoknefgcaaaBArgs
import Derived.Test.YtblbcoknefgcaaaBOnce
namespace Go.Proofs.Ytblbcoknefgcaaa
open Go.ChangeShapes Go.WideShapes Go.ChangeAt Go.RowKit
open Go.ChangeMaps (open_string shut_string)

theorem c_stand : Try.prog.cellsOf 62 = 3 := by kernel_rfl
theorem b_stand : Try.prog.bytesOf 62 = 24 := by kernel_rfl
theorem stand_struct : ∃ fs : Array Field, Try.prog.underlying 62 = some (.struct fs) ∧ fs.toList.map (fun f => (f.offset, f.type)) = [(0, 3), (1, 3), (2, 4)] := ⟨_, Try.underlying62, rfl⟩
section
variable {H : Type} {enc : TypeId × Value → H} {w : World} {base : Nat} {spare : Nat → Bool} {held : Bool} {n : Nat} {cs : List Value} {y : DataW H × List MemPlace}
set_option maxRecDepth 100000 in
theorem one_stand (h : DataW.trod enc Try.prog w base spare held n 62 cs = some y) : ∃ r : ST, cs = standR.vals r := by
  obtain ⟨fs, hfs, hts⟩ := stand_struct
  obtain ⟨xs, k, -, hy, hlen, hxl, hff⟩ := DataW.trod_struct hfs h
  have hsz : fs.size = 3 := by have := congrArg List.length hts; simpa using this
  have hl : cs.length = 3 := by rw [hlen]; exact c_stand
  obtain ⟨f0, g0, o0, t0⟩ := field_in hts (j := 0) rfl
  obtain ⟨f1, g1, o1, t1⟩ := field_in hts (j := 1) rfl
  obtain ⟨f2, g2, o2, t2⟩ := field_in hts (j := 2) rfl
  match cs, hl with
  | a0 :: a1 :: a2 :: [], _ =>
    have h0 := hff 0 f0 g0
    rw [o0, t0, c_int, List.getElem?_eq_getElem (show 0 < xs.length by omega)] at h0
    have h1 := hff 1 f1 g1
    rw [o1, t1, c_int, List.getElem?_eq_getElem (show 1 < xs.length by omega)] at h1
    have h2 := hff 2 f2 g2
    rw [o2, t2, c_bool, List.getElem?_eq_getElem (show 2 < xs.length by omega)] at h2
    obtain ⟨s0, e0, -, w0⟩ := DataW.trod_int Try.underlying3 h0
    simp at e0
    subst e0
    obtain ⟨s1, e1, -, w1⟩ := DataW.trod_int Try.underlying3 h1
    simp at e1
    subst e1
    obtain ⟨s2, e2, -⟩ := DataW.trod_bool Try.underlying4 h2
    simp at e2
    subst e2
    exact ⟨⟨s0, s1, s2⟩, rfl⟩
end
end Go.Proofs.Ytblbcoknefgcaaa
