/-
  DedupOnce's argument: a slice of requests, opened. No statement is proved here. No condition.
-/
import Derived.Test.YtlgjidoehnhnoaaEArgs
import Derived.Test.YtlgjidoehnhnoaaEOnceM
namespace Go.Proofs.Ytlgjidoehnhnoaa
open Go.ChangeShapes Go.WideShapes Go.ChangeAt Go.RowKit
open Go.ChangeMaps (open_string shut_string)

theorem ask_struct : ∃ fs : Array Field, Try.prog.underlying 61 = some (.struct fs) ∧ fs.toList.map (fun f => (f.offset, f.type)) = [(0, 3), (1, 3), (2, 4), (3, 32)] := ⟨_, Try.underlying61, rfl⟩
theorem cells_ask : Try.prog.cellsOf 61 = 8 := by kernel_rfl
section
variable {H : Type} {enc : TypeId × Value → H} {w : World} {base : Nat} {spare : Nat → Bool} {held : Bool} {n : Nat} {cs : List Value} {y : DataW H × List MemPlace}
theorem one_op (h : DataW.trod enc Try.prog w base spare held n 32 cs = some y) : ∃ o : PO, cs = o.vals ∧ (0 ≤ o.kind ∧ o.kind ≤ 255) := by
  obtain ⟨fs, hfs, hts⟩ := op_struct
  obtain ⟨xs, k, -, hy, hlen, hxl, hff⟩ := DataW.trod_struct hfs h
  have hsz : fs.size = 5 := by have := congrArg List.length hts; simpa using this
  have hl : cs.length = 5 := by rw [hlen]; exact cells_9.2.2.2.2.2.2.2.1
  obtain ⟨f0, g0, o0, t0⟩ := field_in hts (j := 0) rfl
  obtain ⟨f1, g1, o1, t1⟩ := field_in hts (j := 1) rfl
  obtain ⟨f2, g2, o2, t2⟩ := field_in hts (j := 2) rfl
  obtain ⟨f3, g3, o3, t3⟩ := field_in hts (j := 3) rfl
  obtain ⟨f4, g4, o4, t4⟩ := field_in hts (j := 4) rfl
  match cs, hl with
  | [a, b, c, d, e], _ =>
    have h0 := hff 0 f0 g0
    have h1 := hff 1 f1 g1
    have h2 := hff 2 f2 g2
    have h3 := hff 3 f3 g3
    have h4 := hff 4 f4 g4
    rw [o0, t0, cells_9.2.2.1, List.getElem?_eq_getElem (show 0 < xs.length by omega)] at h0
    rw [o1, t1, cells_9.1, List.getElem?_eq_getElem (show 1 < xs.length by omega)] at h1
    rw [o2, t2, cells_9.1, List.getElem?_eq_getElem (show 2 < xs.length by omega)] at h2
    rw [o3, t3, cells_9.1, List.getElem?_eq_getElem (show 3 < xs.length by omega)] at h3
    rw [o4, t4, cells_9.2.2.2.1, List.getElem?_eq_getElem (show 4 < xs.length by omega)] at h4
    obtain ⟨s0, e0, d0, w0⟩ := DataW.trod_int Try.underlying5 h0
    obtain ⟨s1, e1, -, -⟩ := DataW.trod_string Try.underlying9 h1
    obtain ⟨s2, e2, -, -⟩ := DataW.trod_string Try.underlying9 h2
    obtain ⟨s3, e3, -, -⟩ := DataW.trod_string Try.underlying9 h3
    obtain ⟨s4, e4, -⟩ := DataW.trod_bool Try.underlying4 h4
    simp at e0 e1 e2 e3 e4
    refine ⟨⟨s0, s1, s2, s3, s4⟩, by rw [e0, e1, e2, e3, e4]; rfl, ?_⟩
    have h := bounds_u8 w0
    show 0 ≤ s0 ∧ s0 ≤ 255
    omega
theorem one_ask (h : DataW.trod enc Try.prog w base spare held n 61 cs = some y) : ∃ r : PA, cs = askR.vals r := by
  obtain ⟨fs, hfs, hts⟩ := ask_struct
  obtain ⟨xs, k, -, -, hlen, hxl, hff⟩ := DataW.trod_struct hfs h
  have hsz : fs.size = 4 := by have := congrArg List.length hts; simpa using this
  have hl : cs.length = 8 := by rw [hlen]; exact cells_ask
  obtain ⟨f0, g0, o0, t0⟩ := field_in hts (j := 0) rfl
  obtain ⟨f1, g1, o1, t1⟩ := field_in hts (j := 1) rfl
  obtain ⟨f2, g2, o2, t2⟩ := field_in hts (j := 2) rfl
  obtain ⟨f3, g3, o3, t3⟩ := field_in hts (j := 3) rfl
  match cs, hl with
  | [a, b, c, d, e, f, g, i], _ =>
    have h0 := hff 0 f0 g0
    have h1 := hff 1 f1 g1
    have h2 := hff 2 f2 g2
    have h3 := hff 3 f3 g3
    rw [o0, t0, cells_9.2.1, List.getElem?_eq_getElem (show 0 < xs.length by omega)] at h0
    rw [o1, t1, cells_9.2.1, List.getElem?_eq_getElem (show 1 < xs.length by omega)] at h1
    rw [o2, t2, cells_9.2.2.2.1, List.getElem?_eq_getElem (show 2 < xs.length by omega)] at h2
    rw [o3, t3, cells_9.2.2.2.2.2.2.2.1, List.getElem?_eq_getElem (show 3 < xs.length by omega)] at h3
    obtain ⟨s0, e0, -, -⟩ := DataW.trod_int Try.underlying3 h0
    obtain ⟨s1, e1, -, -⟩ := DataW.trod_int Try.underlying3 h1
    obtain ⟨s2, e2, -⟩ := DataW.trod_bool Try.underlying4 h2
    obtain ⟨o, e3, hk⟩ := one_op h3
    simp [PO.vals] at e0 e1 e2 e3
    exact ⟨⟨s0, s1, s2, o, hk⟩, by rw [e0, e1, e2, e3.1, e3.2.1, e3.2.2.1, e3.2.2.2.1, e3.2.2.2.2]; rfl⟩
/-- an operation in a row -/
theorem one_opr (h : DataW.trod enc Try.prog w base spare held n 32 cs = some y) : ∃ r : {o : PO // 0 ≤ o.kind ∧ o.kind ≤ 255}, cs = r.1.vals := by
  obtain ⟨o, h1, h2⟩ := one_op h
  exact ⟨⟨o, h2⟩, h1⟩
end
end Go.Proofs.Ytlgjidoehnhnoaa
