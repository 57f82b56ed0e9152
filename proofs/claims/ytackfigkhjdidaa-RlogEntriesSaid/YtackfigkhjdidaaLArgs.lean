/-
  How an argument that is an entry, or a slice of entries, of pieces, of numbers, reads plainly. No statement is proved here. No condition.
-/
import Derived.Test.YtackfigkhjdidaaLSame
import Derived.Test.YtackfigkhjdidaaArgs
import Derived.Deep.SlicePairs
namespace Go.Proofs.Ytackfigkhjdidaa
open Go.ChangeShapes Go.WideShapes Go.ChangeAt Go.RowKit
open Go.ChangeMaps (open_string shut_string)

theorem weights_in {H : Type} {P : Program} {e : TypeId} {d : DataW H} {n : Nat} : ∀ {l : List (DataW H)}, d ∈ l → n ∈ d.weights P e → n ∈ DataW.weightsAll P e l := by
  intro l
  induction l with
  | nil => intro h; cases h
  | cons a r ih =>
    intro h hn
    unfold DataW.weightsAll
    rcases List.mem_cons.1 h with rfl | h
    · exact List.mem_append_left _ hn
    · exact List.mem_append_right _ (ih h hn)
section
variable {H : Type} {enc : TypeId × Value → H} {w : World} {base : Nat} {spare : Nat → Bool} {held : Bool}
/-- a slice of records; what is read of each is of a weight that memory has -/
theorem open_recW {P : Program} {α : Type} {R : Rec α} {t e : TypeId} {fuel : Nat} {a : Option Addr} {len cap : Nat} {x : DataW H × List MemPlace} (ht : P.underlying t = some (.slice e)) (ce : P.cellsOf e = R.size) (hsz : 0 < R.size)
    (hone : ∀ n cs y, DataW.trod enc P w base spare held n e cs = some y → (∀ q ∈ y.1.weights P e, q ≤ reachBytes) → ∃ r : α, cs = R.vals r) (h : DataW.trod enc P w base spare held fuel t [.slice a len cap] = some x) (hw : ∀ q ∈ x.1.weights P t, q ≤ reachBytes) :
    ∃ l : List α, l.length = len ∧ R.N w Any (.slice a len cap) l ∧ len * P.bytesOf e ≤ 140737488355328 := by
  rcases Deep.open_slice ht h with ⟨hcs, hx⟩ | ⟨ad, len', cap', m, n, D, Pl, hcs, hb, hl, hm, hmm, rfl, hx⟩
  · simp at hcs
    obtain ⟨rfl, rfl, rfl⟩ := hcs
    exact ⟨[], rfl, Rec.N.nil _ _, by simp⟩
  · simp at hcs
    obtain ⟨rfl, rfl, rfl⟩ := hcs
    have hlm : len ≤ m := by rw [hmm]; split <;> omega
    have hbb : len * P.bytesOf e ≤ 140737488355328 := by
      have h1 := hw _ (by simp only [DataW.weights, ht]; exact List.mem_cons_self)
      simp only [reachBytes, List.length_map, List.length_range] at h1
      exact Nat.le_trans (Nat.le_trans (Nat.mul_le_mul_right _ (Nat.le_add_right _ _)) h1) (by decide)
    have each : ∀ i, i < len → ∃ r : α, ∀ j u, (R.vals r)[j]? = some u → w.cell? (ad.add (i * R.size + j)) = some u := fun i hi => by
      obtain ⟨cs', h1, h2⟩ := hx i (by omega)
      obtain ⟨r, hr⟩ := hone _ _ _ h2 (fun q hq => hw q (by
        simp only [DataW.weights, ht]
        exact List.mem_cons_of_mem _ (List.mem_append_left _ (weights_in (List.mem_map.2 ⟨i, List.mem_range.2 hi, rfl⟩) hq))))
      rw [ce] at h1
      obtain ⟨_, hlen, hcell⟩ := World.cells?_some h1
      refine ⟨r, fun j u hu => ?_⟩
      have hj : j < R.size := by have := (List.getElem?_eq_some_iff.1 hu).1; rw [R.len] at this; exact this
      have := hcell j hj
      rw [Deep.add_add, hr, hu] at this
      exact this
    rcases Nat.eq_zero_or_pos len with h0 | h0
    · subst h0
      refine ⟨[], rfl, ?_⟩
      exact ⟨⟨_, cap, rfl, by simp [Rec.row], hl, hm, (fun h => by cases h), fun h => absurd h (by simp)⟩, hbb⟩
    · obtain ⟨r0, hr0⟩ := each 0 h0
      haveI : Inhabited α := ⟨r0⟩
      obtain ⟨y, hy⟩ := Deep.choose_lt each
      have hlen : ((List.range len).map y).length = len := by simp
      refine ⟨(List.range len).map y, hlen, ?_, hbb⟩
      unfold Rec.N
      rw [hlen]
      refine ⟨_, cap, rfl, by rw [R.row_length, hlen], hl, hm, (fun h => by cases h), fun _ => ?_⟩
      obtain ⟨b, o, sp⟩ := ad
      obtain ⟨u0, hu0⟩ : ∃ u, (R.vals (y 0))[0]? = some u := ⟨_, List.getElem?_eq_getElem (by rw [R.len]; exact hsz)⟩
      have hc0 := hy 0 h0 0 _ hu0
      have hsp : sp = none := by simpa [Addr.add] using World.cell?_spot hc0
      subst hsp
      have hbl := World.block_lt_of_cell? w _ hc0
      rw [plus_zero] at hbl
      refine ⟨b, o, rfl, trivial, hbl, fun j u hu => ?_⟩
      have hj : j < len * R.size := by
        have := (List.getElem?_eq_some_iff.1 hu).1
        rw [R.row_length, hlen] at this
        exact this
      have hi : j / R.size < len := Nat.div_lt_of_lt_mul (by rw [Nat.mul_comm]; exact hj)
      have hgi : ((List.range len).map y)[j / R.size]? = some (y (j / R.size)) := by rw [List.getElem?_map, List.getElem?_range hi]; rfl
      have hmod : j % R.size < R.size := Nat.mod_lt _ hsz
      obtain ⟨u', hu'⟩ : ∃ u', (R.vals (y (j / R.size)))[j % R.size]? = some u' := ⟨_, List.getElem?_eq_getElem (by rw [R.len]; exact hmod)⟩
      have h1 := R.row_get hgi hu'
      have e : j / R.size * R.size + j % R.size = j := by rw [Nat.mul_comm]; exact Nat.div_add_mod j R.size
      rw [e, hu] at h1
      have h2 := hy _ hi _ _ hu'
      rw [e, plus_zero] at h2
      rw [h2, ← Option.some.inj h1]
end
theorem field_in {fs : Array Field} {ts : List (Nat × TypeId)} (hts : fs.toList.map (fun f => (f.offset, f.type)) = ts) {j o : Nat} {t : TypeId} (h : ts[j]? = some (o, t)) : ∃ f, fs[j]? = some f ∧ f.offset = o ∧ f.type = t := by
  have h1 := h
  rw [← hts, List.getElem?_map] at h1
  cases hf : fs.toList[j]? with
  | none => rw [hf] at h1; cases h1
  | some f =>
    rw [hf] at h1
    have h2 := Option.some.inj h1
    injection h2 with h2 h3
    exact ⟨f, by rw [← Array.getElem?_toList]; exact hf, h2, h3⟩
theorem c_str : Try.prog.cellsOf 9 = 1 := by kernel_rfl
theorem c_int : Try.prog.cellsOf 3 = 1 := by kernel_rfl
theorem c_u8 : Try.prog.cellsOf 5 = 1 := by kernel_rfl
theorem c_bool : Try.prog.cellsOf 4 = 1 := by kernel_rfl
theorem c_entry : Try.prog.cellsOf 50 = 4 := by kernel_rfl
theorem c_ses : Try.prog.cellsOf 31 = 1 := by kernel_rfl
theorem c_sis : Try.prog.cellsOf 32 = 1 := by kernel_rfl
theorem b_int : Try.prog.bytesOf 3 = 8 := by kernel_rfl
theorem b_entry : Try.prog.bytesOf 50 = 56 := by kernel_rfl
theorem entry_struct : ∃ fs : Array Field, Try.prog.underlying 50 = some (.struct fs) ∧ fs.toList.map (fun f => (f.offset, f.type)) = [(0, 3), (1, 5), (2, 9), (3, 32)] := ⟨_, Try.underlying50, rfl⟩
/-- an entry and its list -/
def EntJ (w : World) (x : RE × List Int) : Prop := inR.N w Any (.slice x.1.la x.1.ln x.1.lc) x.2 ∧ x.1.ln = x.2.length ∧ x.2.length ≤ 17592186044416 ∧ x.1.data.size ≤ 140737488355328
def entJ (w : World) : Rec {x : RE × List Int // EntJ w x} where
  vals x := entR.vals x.1.1
  size := 4
  len _ := rfl
  one x := entR.one x.1.1
section
variable {H : Type} {enc : TypeId × Value → H} {w : World} {base : Nat} {spare : Nat → Bool} {held : Bool} {n : Nat} {cs : List Value} {y : DataW H × List MemPlace}
theorem slice_form {fuel : Nat} {t e : TypeId} {v : Value} {x : DataW H × List MemPlace} (ht : Try.prog.underlying t = some (.slice e)) (hf : DataW.trod enc Try.prog w base spare held fuel t [v] = some x) : ∃ a len cap, v = .slice a len cap := by
  rcases Deep.open_slice ht hf with ⟨hcs, _⟩ | ⟨a, len, cap, _, _, _, _, hcs, _⟩
  · simp at hcs
    exact ⟨_, _, _, hcs⟩
  · simp at hcs
    exact ⟨_, _, _, hcs⟩
theorem one_int (h : DataW.trod enc Try.prog w base spare held n 3 cs = some y) : ∃ r : Int, cs = inR.vals r := by
  obtain ⟨s, e, -, _⟩ := DataW.trod_int Try.underlying3 h
  exact ⟨s, e⟩
set_option maxRecDepth 100000 in
theorem one_entry (h : DataW.trod enc Try.prog w base spare held n 50 cs = some y) (hw : ∀ q ∈ y.1.weights Try.prog 50, q ≤ reachBytes) : ∃ r : {x : RE × List Int // EntJ w x}, cs = (entJ w).vals r := by
  obtain ⟨fs, hfs, hts⟩ := entry_struct
  have hfl : fs.toList.map (·.type) = [3, 5, 9, 32] := by
    have := congrArg (List.map Prod.snd) hts
    rw [List.map_map] at this
    exact this
  obtain ⟨xs, k, -, hy, hlen, hxl, hff⟩ := DataW.trod_struct hfs h
  have hsz : fs.size = 4 := by have := congrArg List.length hts; simpa using this
  have hl : cs.length = 4 := by rw [hlen]; exact c_entry
  obtain ⟨f0, g0, o0, t0⟩ := field_in hts (j := 0) rfl
  obtain ⟨f1, g1, o1, t1⟩ := field_in hts (j := 1) rfl
  obtain ⟨f2, g2, o2, t2⟩ := field_in hts (j := 2) rfl
  obtain ⟨f3, g3, o3, t3⟩ := field_in hts (j := 3) rfl
  match cs, hl with
  | a0 :: a1 :: a2 :: a3 :: [], _ =>
    have h0 := hff 0 f0 g0
    rw [o0, t0, c_int, List.getElem?_eq_getElem (show 0 < xs.length by omega)] at h0
    have h1 := hff 1 f1 g1
    rw [o1, t1, c_u8, List.getElem?_eq_getElem (show 1 < xs.length by omega)] at h1
    have h2 := hff 2 f2 g2
    rw [o2, t2, c_str, List.getElem?_eq_getElem (show 2 < xs.length by omega)] at h2
    have h3 := hff 3 f3 g3
    rw [o3, t3, c_sis, List.getElem?_eq_getElem (show 3 < xs.length by omega)] at h3
    obtain ⟨s0, e0, -, w0⟩ := DataW.trod_int Try.underlying3 h0
    simp at e0
    subst e0
    obtain ⟨s1, e1, -, w1⟩ := DataW.trod_int Try.underlying5 h1
    simp at e1
    subst e1
    obtain ⟨s2, e2, k2', -⟩ := DataW.trod_string Try.underlying9 h2
    simp at e2
    subst e2
    have h3' : DataW.trod enc Try.prog w base spare held _ 32 [a3] = some _ := h3
    obtain ⟨q3, l3, k3, e3⟩ := slice_form Try.underlying32 h3'
    subst e3
    have hin : ∀ (j : Nat) (t : TypeId) (z : DataW H), [3, 5, 9, 32][j]? = some t → (xs.map (·.1))[j]? = some z → ∀ q ∈ z.weights Try.prog t, q ≤ reachBytes := fun j t z h1 h2 q hq => hw q (by
      rw [hy]
      simp only [DataW.weights, hfs, hfl]
      exact DataW.weights_mem_each h1 h2 _ hq)
    obtain ⟨L, hL, hN, hb⟩ := open_recW (R := inR) Try.underlying32 c_int (by decide) (fun _ _ _ h _ => one_int h) h3' (hin 3 _ _ rfl (by rw [List.getElem?_map, List.getElem?_eq_getElem (show 3 < xs.length by omega)]; rfl))
    rw [b_int] at hb
    have hd := hin 2 _ (xs[2]'(by omega)).1 rfl (by rw [List.getElem?_map, List.getElem?_eq_getElem (show 2 < xs.length by omega)]; rfl) s2.data.toList.length (by rw [k2']; simp [DataW.weights])
    have hds : s2.size ≤ 140737488355328 := by
      rw [Array.length_toList] at hd
      unfold reachBytes at hd
      exact Nat.le_trans (show s2.data.size ≤ 140737488351232 from hd) (by decide)
    exact ⟨⟨(⟨s0, s1, s2, q3, l3, k3⟩, L), hN, hL.symm, by dsimp only; omega, hds⟩, rfl⟩
theorem ent_of {v : Value} {l : List {x : RE × List Int // EntJ w x}} (h : (entJ w).N w Any v l) : EntN w Any v (l.map fun x => ⟨x.1.1.term, x.1.1.kind, x.1.1.data, x.1.2⟩) := by
  have hrow : entR.row (l.map (·.1.1)) = (entJ w).row l := by
    unfold Rec.row
    rw [List.flatMap_map]
    rfl
  refine ⟨l.map (·.1.1), ?_, by simp, fun i r e hr he => ?_⟩
  · unfold Rec.N at h ⊢
    rw [hrow, List.length_map]
    exact h
  · rw [List.getElem?_map] at hr he
    cases hx : l[i]? with
    | none => rw [hx] at hr; cases hr
    | some x =>
      rw [hx] at hr he
      have hr := Option.some.inj hr
      have he := Option.some.inj he
      rw [← hr, ← he]
      exact ⟨rfl, rfl, rfl, x.2.2.1, x.2.1⟩
end
end Go.Proofs.Ytackfigkhjdidaa
