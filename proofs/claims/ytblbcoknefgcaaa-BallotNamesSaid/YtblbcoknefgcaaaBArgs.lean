/-
  How an argument that is a slice of numbers reads plainly. No statement is proved here. No condition.
-/
import Derived.Test.YtblbcoknefgcaaaBCmp
import Derived.Test.YtblbcoknefgcaaaArgs
import Derived.Deep.SlicePairs
namespace Go.Proofs.Ytblbcoknefgcaaa
open Go.ChangeShapes Go.WideShapes Go.ChangeAt Go.RowKit
open Go.ChangeMaps (open_string shut_string)

theorem weights_in {H : Type} {P : Program} {e : TypeId} {d : DataW H} {n : Nat} : ∀ {l : List (DataW H)}, d ∈ l → n ∈ d.weights P e → n ∈ DataW.weightsAll P e l := by
  intro l
  induction l with
  | nil => intro h; cases h
  | cons a r ih =>
    intro h hn
    unfold DataW.weightsAll
    rcases List.mem_cons.1 h with rfl | h
    · exact List.mem_append_left _ hn
    · exact List.mem_append_right _ (ih h hn)
section
variable {H : Type} {enc : TypeId × Value → H} {w : World} {base : Nat} {spare : Nat → Bool} {held : Bool}
/-- a slice of records; what is read of each is of a weight that memory has -/
theorem open_recW {P : Program} {α : Type} {R : Rec α} {t e : TypeId} {fuel : Nat} {a : Option Addr} {len cap : Nat} {x : DataW H × List MemPlace} (ht : P.underlying t = some (.slice e)) (ce : P.cellsOf e = R.size) (hsz : 0 < R.size)
    (hone : ∀ n cs y, DataW.trod enc P w base spare held n e cs = some y → (∀ q ∈ y.1.weights P e, q ≤ reachBytes) → ∃ r : α, cs = R.vals r) (h : DataW.trod enc P w base spare held fuel t [.slice a len cap] = some x) (hw : ∀ q ∈ x.1.weights P t, q ≤ reachBytes) :
    ∃ l : List α, l.length = len ∧ R.N w Any (.slice a len cap) l ∧ len * P.bytesOf e ≤ 140737488355328 := by
  rcases Deep.open_slice ht h with ⟨hcs, hx⟩ | ⟨ad, len', cap', m, n, D, Pl, hcs, hb, hl, hm, hmm, rfl, hx⟩
  · simp at hcs
    obtain ⟨rfl, rfl, rfl⟩ := hcs
    exact ⟨[], rfl, Rec.N.nil _ _, by simp⟩
  · simp at hcs
    obtain ⟨rfl, rfl, rfl⟩ := hcs
    have hlm : len ≤ m := by rw [hmm]; split <;> omega
    have hbb : len * P.bytesOf e ≤ 140737488355328 := by
      have h1 := hw _ (by simp only [DataW.weights, ht]; exact List.mem_cons_self)
      simp only [reachBytes, List.length_map, List.length_range] at h1
      exact Nat.le_trans (Nat.le_trans (Nat.mul_le_mul_right _ (Nat.le_add_right _ _)) h1) (by decide)
    have each : ∀ i, i < len → ∃ r : α, ∀ j u, (R.vals r)[j]? = some u → w.cell? (ad.add (i * R.size + j)) = some u := fun i hi => by
      obtain ⟨cs', h1, h2⟩ := hx i (by omega)
      obtain ⟨r, hr⟩ := hone _ _ _ h2 (fun q hq => hw q (by
        simp only [DataW.weights, ht]
        exact List.mem_cons_of_mem _ (List.mem_append_left _ (weights_in (List.mem_map.2 ⟨i, List.mem_range.2 hi, rfl⟩) hq))))
      rw [ce] at h1
      obtain ⟨_, hlen, hcell⟩ := World.cells?_some h1
      refine ⟨r, fun j u hu => ?_⟩
      have hj : j < R.size := by have := (List.getElem?_eq_some_iff.1 hu).1; rw [R.len] at this; exact this
      have := hcell j hj
      rw [Deep.add_add, hr, hu] at this
      exact this
    rcases Nat.eq_zero_or_pos len with h0 | h0
    · subst h0
      refine ⟨[], rfl, ?_⟩
      exact ⟨⟨_, cap, rfl, by simp [Rec.row], hl, hm, (fun h => by cases h), fun h => absurd h (by simp)⟩, hbb⟩
    · obtain ⟨r0, hr0⟩ := each 0 h0
      haveI : Inhabited α := ⟨r0⟩
      obtain ⟨y, hy⟩ := Deep.choose_lt each
      have hlen : ((List.range len).map y).length = len := by simp
      refine ⟨(List.range len).map y, hlen, ?_, hbb⟩
      unfold Rec.N
      rw [hlen]
      refine ⟨_, cap, rfl, by rw [R.row_length, hlen], hl, hm, (fun h => by cases h), fun _ => ?_⟩
      obtain ⟨b, o, sp⟩ := ad
      obtain ⟨u0, hu0⟩ : ∃ u, (R.vals (y 0))[0]? = some u := ⟨_, List.getElem?_eq_getElem (by rw [R.len]; exact hsz)⟩
      have hc0 := hy 0 h0 0 _ hu0
      have hsp : sp = none := by simpa [Addr.add] using World.cell?_spot hc0
      subst hsp
      have hbl := World.block_lt_of_cell? w _ hc0
      rw [plus_zero] at hbl
      refine ⟨b, o, rfl, trivial, hbl, fun j u hu => ?_⟩
      have hj : j < len * R.size := by
        have := (List.getElem?_eq_some_iff.1 hu).1
        rw [R.row_length, hlen] at this
        exact this
      have hi : j / R.size < len := Nat.div_lt_of_lt_mul (by rw [Nat.mul_comm]; exact hj)
      have hgi : ((List.range len).map y)[j / R.size]? = some (y (j / R.size)) := by rw [List.getElem?_map, List.getElem?_range hi]; rfl
      have hmod : j % R.size < R.size := Nat.mod_lt _ hsz
      obtain ⟨u', hu'⟩ : ∃ u', (R.vals (y (j / R.size)))[j % R.size]? = some u' := ⟨_, List.getElem?_eq_getElem (by rw [R.len]; exact hmod)⟩
      have h1 := R.row_get hgi hu'
      have e : j / R.size * R.size + j % R.size = j := by rw [Nat.mul_comm]; exact Nat.div_add_mod j R.size
      rw [e, hu] at h1
      have h2 := hy _ hi _ _ hu'
      rw [e, plus_zero] at h2
      rw [h2, ← Option.some.inj h1]
end
theorem field_in {fs : Array Field} {ts : List (Nat × TypeId)} (hts : fs.toList.map (fun f => (f.offset, f.type)) = ts) {j o : Nat} {t : TypeId} (h : ts[j]? = some (o, t)) : ∃ f, fs[j]? = some f ∧ f.offset = o ∧ f.type = t := by
  have h1 := h
  rw [← hts, List.getElem?_map] at h1
  cases hf : fs.toList[j]? with
  | none => rw [hf] at h1; cases h1
  | some f =>
    rw [hf] at h1
    have h2 := Option.some.inj h1
    injection h2 with h2 h3
    exact ⟨f, by rw [← Array.getElem?_toList]; exact hf, h2, h3⟩
theorem c_int : Try.prog.cellsOf 3 = 1 := by kernel_rfl
theorem c_bool : Try.prog.cellsOf 4 = 1 := by kernel_rfl
theorem b_int : Try.prog.bytesOf 3 = 8 := by kernel_rfl
section
variable {H : Type} {enc : TypeId × Value → H} {w : World} {base : Nat} {spare : Nat → Bool} {held : Bool} {n : Nat} {cs : List Value} {y : DataW H × List MemPlace}
theorem one_int (h : DataW.trod enc Try.prog w base spare held n 3 cs = some y) : ∃ r : Int, cs = inR.vals r := by
  obtain ⟨s, e, -, _⟩ := DataW.trod_int Try.underlying3 h
  exact ⟨s, e⟩
end
end Go.Proofs.Ytblbcoknefgcaaa
