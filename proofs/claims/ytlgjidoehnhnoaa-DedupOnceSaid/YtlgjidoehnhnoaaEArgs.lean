/-
  How an argument of pairs, of last writes, or an operation, as the statements' form reads it, reads plainly. No statement is proved here. No condition.
-/
import Derived.Test.YtlgjidoehnhnoaaEPlain
import Derived.ProofKit
import Derived.OpenShut
import Derived.ShutString
import Derived.ChangeOld
import Derived.SizedLaws
import Derived.Deep.SlicePairs
namespace Go.Proofs.Ytlgjidoehnhnoaa
open Go.ChangeShapes Go.WideShapes Go.ChangeAt Go.RowKit
open Go.ChangeMaps (open_string shut_string)

theorem args_knob : ownKnob Try.prog.godebug = none := by kernel_rfl
theorem args_laid : laidOutB Try.prog = true := by kernel_rfl
section
variable {H : Type} {enc : TypeId × Value → H} {w : World} {base : Nat} {spare : Nat → Bool} {held : Bool}
/-- a slice of records -/
theorem open_rec {P : Program} {α : Type} {R : Rec α} {t e : TypeId} {fuel : Nat} {a : Option Addr} {len cap : Nat} {x : DataW H × List MemPlace} (ht : P.underlying t = some (.slice e)) (ce : P.cellsOf e = R.size) (hsz : 0 < R.size)
    (hone : ∀ n cs y, DataW.trod enc P w base spare held n e cs = some y → ∃ r : α, cs = R.vals r) (h : DataW.trod enc P w base spare held fuel t [.slice a len cap] = some x) :
    (∃ l : List α, l.length = len ∧ R.N w Any (.slice a len cap) l) ∧ ((x.1 = .nil ∧ len = 0) ∨ ∃ el sp, x.1 = .slice el sp ∧ len ≤ el.length + sp.length) := by
  rcases Deep.open_slice ht h with ⟨hcs, hx⟩ | ⟨ad, len', cap', m, n, D, Pl, hcs, hb, hl, hm, hmm, rfl, hx⟩
  · simp at hcs
    obtain ⟨rfl, rfl, rfl⟩ := hcs
    exact ⟨⟨[], rfl, Rec.N.nil _ _⟩, .inl ⟨by rw [hx], rfl⟩⟩
  · simp at hcs
    obtain ⟨rfl, rfl, rfl⟩ := hcs
    have hlm : len ≤ m := by rw [hmm]; split <;> omega
    have each : ∀ i, i < len → ∃ r : α, ∀ j u, (R.vals r)[j]? = some u → w.cell? (ad.add (i * R.size + j)) = some u := fun i hi => by
      obtain ⟨cs', h1, h2⟩ := hx i (by omega)
      obtain ⟨r, hr⟩ := hone _ _ _ h2
      rw [ce] at h1
      obtain ⟨_, hlen, hcell⟩ := World.cells?_some h1
      refine ⟨r, fun j u hu => ?_⟩
      have hj : j < R.size := by have := (List.getElem?_eq_some_iff.1 hu).1; rw [R.len] at this; exact this
      have := hcell j hj
      rw [Deep.add_add, hr, hu] at this
      exact this
    refine ⟨?_, .inr ⟨_, _, rfl, by first | (simp; done) | (simp; omega)⟩⟩
    rcases Nat.eq_zero_or_pos len with h0 | h0
    · subst h0
      refine ⟨[], rfl, ?_⟩
      exact ⟨_, cap, rfl, by simp [Rec.row], hl, hm, (fun h => by cases h), fun h => absurd h (by simp)⟩
    · obtain ⟨r0, hr0⟩ := each 0 h0
      haveI : Inhabited α := ⟨r0⟩
      obtain ⟨y, hy⟩ := Deep.choose_lt each
      have hlen : ((List.range len).map y).length = len := by simp
      refine ⟨(List.range len).map y, hlen, ?_⟩
      unfold Rec.N
      rw [hlen]
      refine ⟨_, cap, rfl, by rw [R.row_length, hlen], hl, hm, (fun h => by cases h), fun _ => ?_⟩
      obtain ⟨b, o, sp⟩ := ad
      obtain ⟨u0, hu0⟩ : ∃ u, (R.vals (y 0))[0]? = some u := ⟨_, List.getElem?_eq_getElem (by rw [R.len]; exact hsz)⟩
      have hc0 := hy 0 h0 0 _ hu0
      have hsp : sp = none := by simpa [Addr.add] using World.cell?_spot hc0
      subst hsp
      have hbl := World.block_lt_of_cell? w _ hc0
      rw [plus_zero] at hbl
      refine ⟨b, o, rfl, trivial, hbl, fun j u hu => ?_⟩
      have hj : j < len * R.size := by
        have := (List.getElem?_eq_some_iff.1 hu).1
        rw [R.row_length, hlen] at this
        exact this
      have hi : j / R.size < len := Nat.div_lt_of_lt_mul (by rw [Nat.mul_comm]; exact hj)
      have hgi : ((List.range len).map y)[j / R.size]? = some (y (j / R.size)) := by rw [List.getElem?_map, List.getElem?_range hi]; rfl
      have hmod : j % R.size < R.size := Nat.mod_lt _ hsz
      obtain ⟨u', hu'⟩ : ∃ u', (R.vals (y (j / R.size)))[j % R.size]? = some u' := ⟨_, List.getElem?_eq_getElem (by rw [R.len]; exact hmod)⟩
      have h1 := R.row_get hgi hu'
      have e : j / R.size * R.size + j % R.size = j := by rw [Nat.mul_comm]; exact Nat.div_add_mod j R.size
      rw [e, hu] at h1
      have h2 := hy _ hi _ _ hu'
      rw [e, plus_zero] at h2
      rw [h2, ← Option.some.inj h1]
end
theorem field_in {fs : Array Field} {ts : List (Nat × TypeId)} (hts : fs.toList.map (fun f => (f.offset, f.type)) = ts) {j o : Nat} {t : TypeId} (h : ts[j]? = some (o, t)) : ∃ f, fs[j]? = some f ∧ f.offset = o ∧ f.type = t := by
  have h1 := h
  rw [← hts, List.getElem?_map] at h1
  cases hf : fs.toList[j]? with
  | none => rw [hf] at h1; cases h1
  | some f =>
    rw [hf] at h1
    have h2 := Option.some.inj h1
    injection h2 with h2 h3
    exact ⟨f, by rw [← Array.getElem?_toList]; exact hf, h2, h3⟩
theorem cells_9 : Try.prog.cellsOf 9 = 1 ∧ Try.prog.cellsOf 3 = 1 ∧ Try.prog.cellsOf 5 = 1 ∧ Try.prog.cellsOf 4 = 1 ∧ Try.prog.cellsOf 24 = 2 ∧ Try.prog.cellsOf 46 = 5 ∧ Try.prog.cellsOf 27 = 3 ∧ Try.prog.cellsOf 32 = 5 ∧ Try.prog.bytesOf 24 = 32 ∧ Try.prog.bytesOf 46 = 40 := ⟨by kernel_rfl, by kernel_rfl, by kernel_rfl, by kernel_rfl, by kernel_rfl, by kernel_rfl, by kernel_rfl, by kernel_rfl, by kernel_rfl, by kernel_rfl⟩
theorem pair_struct : ∃ fs : Array Field, Try.prog.underlying 24 = some (.struct fs) ∧ fs.toList.map (fun f => (f.offset, f.type)) = [(0, 9), (1, 9)] := ⟨_, Try.underlying24, rfl⟩
theorem res_struct : ∃ fs : Array Field, Try.prog.underlying 27 = some (.struct fs) ∧ fs.toList.map (fun f => (f.offset, f.type)) = [(0, 5), (1, 4), (2, 9)] := ⟨_, Try.underlying27, rfl⟩
theorem last_struct : ∃ fs : Array Field, Try.prog.underlying 46 = some (.struct fs) ∧ fs.toList.map (fun f => (f.offset, f.type)) = [(0, 3), (1, 3), (2, 27)] := ⟨_, Try.underlying46, rfl⟩
theorem op_struct : ∃ fs : Array Field, Try.prog.underlying 32 = some (.struct fs) ∧ fs.toList.map (fun f => (f.offset, f.type)) = [(0, 5), (1, 9), (2, 9), (3, 9), (4, 4)] := ⟨_, Try.underlying32, rfl⟩
section
variable {H : Type} {enc : TypeId × Value → H} {w : World} {base : Nat} {spare : Nat → Bool} {held : Bool} {n : Nat} {cs : List Value} {y : DataW H × List MemPlace}
theorem one_pair (h : DataW.trod enc Try.prog w base spare held n 24 cs = some y) : ∃ r : PP, cs = pairR.vals r := by
  obtain ⟨fs, hfs, hts⟩ := pair_struct
  obtain ⟨xs, k, -, -, hlen, hxl, hff⟩ := DataW.trod_struct hfs h
  have hsz : fs.size = 2 := by have := congrArg List.length hts; simpa using this
  have hl : cs.length = 2 := by rw [hlen]; exact cells_9.2.2.2.2.1
  obtain ⟨f0, g0, o0, t0⟩ := field_in hts (j := 0) rfl
  obtain ⟨f1, g1, o1, t1⟩ := field_in hts (j := 1) rfl
  match cs, hl with
  | [a, b], _ =>
    have h0 := hff 0 f0 g0
    have h1 := hff 1 f1 g1
    rw [o0, t0, cells_9.1, List.getElem?_eq_getElem (show 0 < xs.length by omega)] at h0
    rw [o1, t1, cells_9.1, List.getElem?_eq_getElem (show 1 < xs.length by omega)] at h1
    obtain ⟨s0, e0, -, -⟩ := DataW.trod_string Try.underlying9 h0
    obtain ⟨s1, e1, -, -⟩ := DataW.trod_string Try.underlying9 h1
    simp at e0 e1
    exact ⟨⟨s0, s1⟩, by rw [e0, e1]; rfl⟩
theorem one_res (h : DataW.trod enc Try.prog w base spare held n 27 cs = some y) : ∃ r : PR, cs = r.vals := by
  obtain ⟨fs, hfs, hts⟩ := res_struct
  obtain ⟨xs, k, -, -, hlen, hxl, hff⟩ := DataW.trod_struct hfs h
  have hsz : fs.size = 3 := by have := congrArg List.length hts; simpa using this
  have hl : cs.length = 3 := by rw [hlen]; exact cells_9.2.2.2.2.2.2.1
  obtain ⟨f0, g0, o0, t0⟩ := field_in hts (j := 0) rfl
  obtain ⟨f1, g1, o1, t1⟩ := field_in hts (j := 1) rfl
  obtain ⟨f2, g2, o2, t2⟩ := field_in hts (j := 2) rfl
  match cs, hl with
  | [a, b, c], _ =>
    have h0 := hff 0 f0 g0
    have h1 := hff 1 f1 g1
    have h2 := hff 2 f2 g2
    rw [o0, t0, cells_9.2.2.1, List.getElem?_eq_getElem (show 0 < xs.length by omega)] at h0
    rw [o1, t1, cells_9.2.2.2.1, List.getElem?_eq_getElem (show 1 < xs.length by omega)] at h1
    rw [o2, t2, cells_9.1, List.getElem?_eq_getElem (show 2 < xs.length by omega)] at h2
    obtain ⟨s0, e0, -, -⟩ := DataW.trod_int Try.underlying5 h0
    obtain ⟨s1, e1, -⟩ := DataW.trod_bool Try.underlying4 h1
    obtain ⟨s2, e2, -, -⟩ := DataW.trod_string Try.underlying9 h2
    simp at e0 e1 e2
    exact ⟨⟨s0, s1, s2⟩, by rw [e0, e1, e2]; rfl⟩
theorem one_last (h : DataW.trod enc Try.prog w base spare held n 46 cs = some y) : ∃ r : PL, cs = lastR.vals r := by
  obtain ⟨fs, hfs, hts⟩ := last_struct
  obtain ⟨xs, k, -, -, hlen, hxl, hff⟩ := DataW.trod_struct hfs h
  have hsz : fs.size = 3 := by have := congrArg List.length hts; simpa using this
  have hl : cs.length = 5 := by rw [hlen]; exact cells_9.2.2.2.2.2.1
  obtain ⟨f0, g0, o0, t0⟩ := field_in hts (j := 0) rfl
  obtain ⟨f1, g1, o1, t1⟩ := field_in hts (j := 1) rfl
  obtain ⟨f2, g2, o2, t2⟩ := field_in hts (j := 2) rfl
  match cs, hl with
  | [a, b, c, d, e], _ =>
    have h0 := hff 0 f0 g0
    have h1 := hff 1 f1 g1
    have h2 := hff 2 f2 g2
    rw [o0, t0, cells_9.2.1, List.getElem?_eq_getElem (show 0 < xs.length by omega)] at h0
    rw [o1, t1, cells_9.2.1, List.getElem?_eq_getElem (show 1 < xs.length by omega)] at h1
    rw [o2, t2, cells_9.2.2.2.2.2.2.1, List.getElem?_eq_getElem (show 2 < xs.length by omega)] at h2
    obtain ⟨s0, e0, -, -⟩ := DataW.trod_int Try.underlying3 h0
    obtain ⟨s1, e1, -, -⟩ := DataW.trod_int Try.underlying3 h1
    obtain ⟨r, e2⟩ := one_res h2
    simp [PR.vals] at e0 e1 e2
    exact ⟨⟨s0, s1, r⟩, by rw [e0, e1, e2.1, e2.2.1, e2.2.2]; rfl⟩
/-- an operation -/
theorem open_op (h : DataW.trod enc Try.prog w base spare held n 32 cs = some y) (hw : ∀ q ∈ y.1.weights Try.prog 32, q ≤ reachBytes) : ∃ o : PO, .agg cs.toArray = o.agg ∧ (0 ≤ o.kind ∧ o.kind ≤ 255) ∧ o.key.size ≤ 140737488355328 := by
  obtain ⟨fs, hfs, hts⟩ := op_struct
  have hfl : fs.toList.map (·.type) = [5, 9, 9, 9, 4] := by
    have := congrArg (List.map Prod.snd) hts
    rw [List.map_map] at this
    exact this
  obtain ⟨xs, k, -, hy, hlen, hxl, hff⟩ := DataW.trod_struct hfs h
  have hsz : fs.size = 5 := by have := congrArg List.length hts; simpa using this
  have hl : cs.length = 5 := by rw [hlen]; exact cells_9.2.2.2.2.2.2.2.1
  obtain ⟨f0, g0, o0, t0⟩ := field_in hts (j := 0) rfl
  obtain ⟨f1, g1, o1, t1⟩ := field_in hts (j := 1) rfl
  obtain ⟨f2, g2, o2, t2⟩ := field_in hts (j := 2) rfl
  obtain ⟨f3, g3, o3, t3⟩ := field_in hts (j := 3) rfl
  obtain ⟨f4, g4, o4, t4⟩ := field_in hts (j := 4) rfl
  match cs, hl with
  | [a, b, c, d, e], _ =>
    have h0 := hff 0 f0 g0
    have h1 := hff 1 f1 g1
    have h2 := hff 2 f2 g2
    have h3 := hff 3 f3 g3
    have h4 := hff 4 f4 g4
    rw [o0, t0, cells_9.2.2.1, List.getElem?_eq_getElem (show 0 < xs.length by omega)] at h0
    rw [o1, t1, cells_9.1, List.getElem?_eq_getElem (show 1 < xs.length by omega)] at h1
    rw [o2, t2, cells_9.1, List.getElem?_eq_getElem (show 2 < xs.length by omega)] at h2
    rw [o3, t3, cells_9.1, List.getElem?_eq_getElem (show 3 < xs.length by omega)] at h3
    rw [o4, t4, cells_9.2.2.2.1, List.getElem?_eq_getElem (show 4 < xs.length by omega)] at h4
    obtain ⟨s0, e0, d0, w0⟩ := DataW.trod_int Try.underlying5 h0
    obtain ⟨s1, e1, d1, -⟩ := DataW.trod_string Try.underlying9 h1
    obtain ⟨s2, e2, -, -⟩ := DataW.trod_string Try.underlying9 h2
    obtain ⟨s3, e3, -, -⟩ := DataW.trod_string Try.underlying9 h3
    obtain ⟨s4, e4, -⟩ := DataW.trod_bool Try.underlying4 h4
    simp at e0 e1 e2 e3 e4
    refine ⟨⟨s0, s1, s2, s3, s4⟩, by rw [e0, e1, e2, e3, e4]; rfl, ?_, ?_⟩
    · have h := bounds_u8 w0
      show 0 ≤ s0 ∧ s0 ≤ 255
      omega
    · have hin : s1.data.toList.length ∈ y.1.weights Try.prog 32 := by
        rw [hy]
        simp only [DataW.weights, hfs, hfl]
        refine DataW.weights_mem_each (j := 1) (t := 9) (d := (xs[1]).1) rfl (by rw [List.getElem?_map, List.getElem?_eq_getElem (show 1 < xs.length by omega)]; rfl) _ ?_
        rw [d1]
        simp [DataW.weights]
      have h5 := hw _ hin
      simp only [reachBytes] at h5
      have h6 : s1.data.toList.length = s1.size := by simp
      show s1.size ≤ _
      omega
end
end Go.Proofs.Ytlgjidoehnhnoaa
