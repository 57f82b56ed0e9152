/-
  How an argument of steps, or of truth values, as the statements' form reads it, reads plainly. No statement is proved here. No condition.
-/
import Derived.Test.YtclfhidapkoiiaaKStep
import Derived.ProofKit
import Derived.OpenShut
import Derived.ShutString
import Derived.ChangeOld
import Derived.SizedLaws
import Derived.Deep.SlicePairs
namespace Go.Proofs.Ytclfhidapkoiiaa
open Go.ChangeShapes Go.WideShapes Go.ChangeAt Go.RowKit
open Go.ChangeMaps (open_string shut_string)

theorem args_knob : ownKnob Try.prog.godebug = none := by kernel_rfl
theorem args_laid : laidOutB Try.prog = true := by kernel_rfl
theorem weights_in {H : Type} {P : Program} {e : TypeId} {d : DataW H} {n : Nat} : ∀ {l : List (DataW H)}, d ∈ l → n ∈ d.weights P e → n ∈ DataW.weightsAll P e l := by
  intro l
  induction l with
  | nil => intro h; cases h
  | cons a r ih =>
    intro h hn
    unfold DataW.weightsAll
    rcases List.mem_cons.1 h with rfl | h
    · exact List.mem_append_left _ hn
    · exact List.mem_append_right _ (ih h hn)
section
variable {H : Type} {enc : TypeId × Value → H} {w : World} {base : Nat} {spare : Nat → Bool} {held : Bool}
/-- a slice of records; what is read of each is of a weight that memory has -/
theorem open_recW {P : Program} {α : Type} {R : Rec α} {t e : TypeId} {fuel : Nat} {a : Option Addr} {len cap : Nat} {x : DataW H × List MemPlace} (ht : P.underlying t = some (.slice e)) (ce : P.cellsOf e = R.size) (hsz : 0 < R.size)
    (hone : ∀ n cs y, DataW.trod enc P w base spare held n e cs = some y → (∀ q ∈ y.1.weights P e, q ≤ reachBytes) → ∃ r : α, cs = R.vals r) (h : DataW.trod enc P w base spare held fuel t [.slice a len cap] = some x) (hw : ∀ q ∈ x.1.weights P t, q ≤ reachBytes) :
    ∃ l : List α, l.length = len ∧ R.N w Any (.slice a len cap) l := by
  rcases Deep.open_slice ht h with ⟨hcs, hx⟩ | ⟨ad, len', cap', m, n, D, Pl, hcs, hb, hl, hm, hmm, rfl, hx⟩
  · simp at hcs
    obtain ⟨rfl, rfl, rfl⟩ := hcs
    exact ⟨[], rfl, Rec.N.nil _ _⟩
  · simp at hcs
    obtain ⟨rfl, rfl, rfl⟩ := hcs
    have hlm : len ≤ m := by rw [hmm]; split <;> omega
    have each : ∀ i, i < len → ∃ r : α, ∀ j u, (R.vals r)[j]? = some u → w.cell? (ad.add (i * R.size + j)) = some u := fun i hi => by
      obtain ⟨cs', h1, h2⟩ := hx i (by omega)
      obtain ⟨r, hr⟩ := hone _ _ _ h2 (fun q hq => hw q (by
        simp only [DataW.weights, ht]
        exact List.mem_cons_of_mem _ (List.mem_append_left _ (weights_in (List.mem_map.2 ⟨i, List.mem_range.2 hi, rfl⟩) hq))))
      rw [ce] at h1
      obtain ⟨_, hlen, hcell⟩ := World.cells?_some h1
      refine ⟨r, fun j u hu => ?_⟩
      have hj : j < R.size := by have := (List.getElem?_eq_some_iff.1 hu).1; rw [R.len] at this; exact this
      have := hcell j hj
      rw [Deep.add_add, hr, hu] at this
      exact this
    rcases Nat.eq_zero_or_pos len with h0 | h0
    · subst h0
      refine ⟨[], rfl, ?_⟩
      exact ⟨_, cap, rfl, by simp [Rec.row], hl, hm, (fun h => by cases h), fun h => absurd h (by simp)⟩
    · obtain ⟨r0, hr0⟩ := each 0 h0
      haveI : Inhabited α := ⟨r0⟩
      obtain ⟨y, hy⟩ := Deep.choose_lt each
      have hlen : ((List.range len).map y).length = len := by simp
      refine ⟨(List.range len).map y, hlen, ?_⟩
      unfold Rec.N
      rw [hlen]
      refine ⟨_, cap, rfl, by rw [R.row_length, hlen], hl, hm, (fun h => by cases h), fun _ => ?_⟩
      obtain ⟨b, o, sp⟩ := ad
      obtain ⟨u0, hu0⟩ : ∃ u, (R.vals (y 0))[0]? = some u := ⟨_, List.getElem?_eq_getElem (by rw [R.len]; exact hsz)⟩
      have hc0 := hy 0 h0 0 _ hu0
      have hsp : sp = none := by simpa [Addr.add] using World.cell?_spot hc0
      subst hsp
      have hbl := World.block_lt_of_cell? w _ hc0
      rw [plus_zero] at hbl
      refine ⟨b, o, rfl, trivial, hbl, fun j u hu => ?_⟩
      have hj : j < len * R.size := by
        have := (List.getElem?_eq_some_iff.1 hu).1
        rw [R.row_length, hlen] at this
        exact this
      have hi : j / R.size < len := Nat.div_lt_of_lt_mul (by rw [Nat.mul_comm]; exact hj)
      have hgi : ((List.range len).map y)[j / R.size]? = some (y (j / R.size)) := by rw [List.getElem?_map, List.getElem?_range hi]; rfl
      have hmod : j % R.size < R.size := Nat.mod_lt _ hsz
      obtain ⟨u', hu'⟩ : ∃ u', (R.vals (y (j / R.size)))[j % R.size]? = some u' := ⟨_, List.getElem?_eq_getElem (by rw [R.len]; exact hmod)⟩
      have h1 := R.row_get hgi hu'
      have e : j / R.size * R.size + j % R.size = j := by rw [Nat.mul_comm]; exact Nat.div_add_mod j R.size
      rw [e, hu] at h1
      have h2 := hy _ hi _ _ hu'
      rw [e, plus_zero] at h2
      rw [h2, ← Option.some.inj h1]
end
theorem field_in {fs : Array Field} {ts : List (Nat × TypeId)} (hts : fs.toList.map (fun f => (f.offset, f.type)) = ts) {j o : Nat} {t : TypeId} (h : ts[j]? = some (o, t)) : ∃ f, fs[j]? = some f ∧ f.offset = o ∧ f.type = t := by
  have h1 := h
  rw [← hts, List.getElem?_map] at h1
  cases hf : fs.toList[j]? with
  | none => rw [hf] at h1; cases h1
  | some f =>
    rw [hf] at h1
    have h2 := Option.some.inj h1
    injection h2 with h2 h3
    exact ⟨f, by rw [← Array.getElem?_toList]; exact hf, h2, h3⟩
theorem cells_10 : Try.prog.cellsOf 9 = 1 ∧ Try.prog.cellsOf 3 = 1 ∧ Try.prog.cellsOf 5 = 1 ∧ Try.prog.cellsOf 4 = 1 ∧ Try.prog.cellsOf 31 = 5 := ⟨by kernel_rfl, by kernel_rfl, by kernel_rfl, by kernel_rfl, by kernel_rfl⟩
theorem step_struct : ∃ fs : Array Field, Try.prog.underlying 31 = some (.struct fs) ∧ fs.toList.map (fun f => (f.offset, f.type)) = [(0, 5), (1, 3), (2, 3), (3, 9), (4, 3)] := ⟨_, Try.underlying31, rfl⟩
section
variable {H : Type} {enc : TypeId × Value → H} {w : World} {base : Nat} {spare : Nat → Bool} {held : Bool} {n : Nat} {cs : List Value} {y : DataW H × List MemPlace}
theorem one_bool (h : DataW.trod enc Try.prog w base spare held n 4 cs = some y) : ∃ r : Bool, cs = bR.vals r := by
  obtain ⟨b, e, -⟩ := DataW.trod_bool Try.underlying4 h
  exact ⟨b, e⟩
theorem one_step (h : DataW.trod enc Try.prog w base spare held n 31 cs = some y) (hw : ∀ q ∈ y.1.weights Try.prog 31, q ≤ reachBytes) : ∃ r : PS, cs = psR.vals r := by
  obtain ⟨fs, hfs, hts⟩ := step_struct
  have hfl : fs.toList.map (·.type) = [5, 3, 3, 9, 3] := by
    have := congrArg (List.map Prod.snd) hts
    rw [List.map_map] at this
    exact this
  obtain ⟨xs, k, -, hy, hlen, hxl, hff⟩ := DataW.trod_struct hfs h
  have hsz : fs.size = 5 := by have := congrArg List.length hts; simpa using this
  have hl : cs.length = 5 := by rw [hlen]; exact cells_10.2.2.2.2
  obtain ⟨f0, g0, o0, t0⟩ := field_in hts (j := 0) rfl
  obtain ⟨f1, g1, o1, t1⟩ := field_in hts (j := 1) rfl
  obtain ⟨f2, g2, o2, t2⟩ := field_in hts (j := 2) rfl
  obtain ⟨f3, g3, o3, t3⟩ := field_in hts (j := 3) rfl
  obtain ⟨f4, g4, o4, t4⟩ := field_in hts (j := 4) rfl
  match cs, hl with
  | [a, b, c, d, e], _ =>
    have h0 := hff 0 f0 g0
    have h1 := hff 1 f1 g1
    have h2 := hff 2 f2 g2
    have h3 := hff 3 f3 g3
    have h4 := hff 4 f4 g4
    rw [o0, t0, cells_10.2.2.1, List.getElem?_eq_getElem (show 0 < xs.length by omega)] at h0
    rw [o1, t1, cells_10.2.1, List.getElem?_eq_getElem (show 1 < xs.length by omega)] at h1
    rw [o2, t2, cells_10.2.1, List.getElem?_eq_getElem (show 2 < xs.length by omega)] at h2
    rw [o3, t3, cells_10.1, List.getElem?_eq_getElem (show 3 < xs.length by omega)] at h3
    rw [o4, t4, cells_10.2.1, List.getElem?_eq_getElem (show 4 < xs.length by omega)] at h4
    obtain ⟨s0, e0, -, w0⟩ := DataW.trod_int Try.underlying5 h0
    obtain ⟨s1, e1, -, w1⟩ := DataW.trod_int Try.underlying3 h1
    obtain ⟨s2, e2, -, w2⟩ := DataW.trod_int Try.underlying3 h2
    obtain ⟨s3, e3, d3, -⟩ := DataW.trod_string Try.underlying9 h3
    obtain ⟨s4, e4, -, -⟩ := DataW.trod_int Try.underlying3 h4
    simp at e0 e1 e2 e3 e4
    have hin : s3.data.toList.length ∈ y.1.weights Try.prog 31 := by
      rw [hy]
      simp only [DataW.weights, hfs, hfl]
      refine DataW.weights_mem_each (j := 3) (t := 9) (d := (xs[3]).1) rfl (by rw [List.getElem?_map, List.getElem?_eq_getElem (show 3 < xs.length by omega)]; rfl) _ ?_
      rw [d3]
      simp [DataW.weights]
    have h5 := hw _ hin
    simp only [reachBytes] at h5
    have h6 : s3.data.toList.length = s3.size := by simp
    have hk := bounds_u8 w0
    exact ⟨⟨s0, s1, s2, s3, s4, by omega, by omega, ⟨w1, w2⟩⟩, by rw [e0, e1, e2, e3, e4]; rfl⟩
end
end Go.Proofs.Ytclfhidapkoiiaa
