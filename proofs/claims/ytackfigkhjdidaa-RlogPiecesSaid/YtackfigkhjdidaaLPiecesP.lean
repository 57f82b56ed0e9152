/-
  Pieces of one log merged into another that began as it, plainly. No statement is proved here. No condition.
-/
import Derived.Test.YtackfigkhjdidaaLMergeP
namespace Go.Proofs.Ytackfigkhjdidaa
open Go.RowKit

theorem lastTerm_drop' (t : Int) (l : List EN) (k : Nat) : lastTerm (lastTerm t (l.take k)) (l.drop k) = lastTerm t l := by rw [← lastTerm_append, List.take_append_drop]
theorem follows_mono : ∀ (l : List EN) (t : Int), follows t l = true → t ≤ lastTerm t l
  | [], t, _ => Int.le_refl t
  | e :: l, t, h => by
    simp only [follows, Bool.and_eq_true, decide_eq_true_eq] at h
    have := follows_mono l e.term h.2
    show t ≤ lastTerm e.term l
    omega
/-- the log whose pieces come -/
structure AllP (L : List EN) : Prop where
  fol : follows 0 L = true
  odd : ∀ e ∈ L, e.term % 2 = 1
  len : L.length ≤ 40
/-- the other log: as far as k the same, then entries of even terms -/
structure PG (L : List EN) (g : LG) (c k : Nat) : Prop where
  ex : ∃ O, g.l = (L.take k).drop c ++ O ∧ ∀ e ∈ O, e.term % 2 = 0
  base : g.base = c
  term : g.term = lastTerm 0 (L.take c)
  ck : c ≤ k
  kl : k ≤ L.length
def pc (L : List EN) (f t : Nat) : List EN := (L.drop f).take (t - f)
theorem pc_len {L : List EN} {f t : Nat} (h : t ≤ L.length) : (pc L f t).length = t - f := by unfold pc; rw [List.length_take, List.length_drop]; omega
theorem pc_get {L : List EN} {f t j : Nat} (hj : j < t - f) : (pc L f t)[j]? = L[f + j]? := by unfold pc; rw [List.getElem?_take, if_pos hj, List.getElem?_drop]
theorem pc_drop {L : List EN} {f t d : Nat} : (pc L f t).drop d = pc L (f + d) t := by unfold pc; rw [List.drop_take, List.drop_drop, Nat.sub_sub]
theorem PG.get {L : List EN} {g : LG} {c k i : Nat} (h : PG L g c k) (hi : c + i < k) : g.l[i]? = L[c + i]? := by
  obtain ⟨O, ho, -⟩ := h.ex
  have hl : ((L.take k).drop c).length = k - c := by rw [List.length_drop, List.length_take, Nat.min_eq_left h.kl]
  rw [ho, List.getElem?_append_left (by rw [hl]; omega), List.getElem?_drop, List.getElem?_take, if_pos hi]
theorem PG.len {L : List EN} {g : LG} {c k : Nat} (h : PG L g c k) : k - c ≤ g.l.length := by
  obtain ⟨O, ho, -⟩ := h.ex
  rw [ho, List.length_append, List.length_drop, List.length_take, Nat.min_eq_left h.kl]
  omega
theorem PG.even {L : List EN} {g : LG} {c k i : Nat} {x : EN} (h : PG L g c k) (hi : k ≤ c + i) (hx : g.l[i]? = some x) : x.term % 2 = 0 := by
  obtain ⟨O, ho, he⟩ := h.ex
  have hl : ((L.take k).drop c).length = k - c := by rw [List.length_drop, List.length_take, Nat.min_eq_left h.kl]
  have := h.ck
  rw [ho, List.getElem?_append_right (by rw [hl]; omega)] at hx
  exact he x (List.mem_of_getElem? hx)
theorem PG.parts {L : List EN} {g : LG} {c k s t : Nat} (hA : AllP L) (h : PG L g c k) (hcs : c ≤ s) (hsk : s ≤ k) (hst : s ≤ t) (ht : t ≤ L.length) : parts (g.l.drop (s - c)) (pc L s t) = min k t - s := by
  have hk := h.kl
  refine parts_stop _ _ _ (by rw [pc_len ht]; omega) (fun j hj => ?_) ?_
  · obtain ⟨x, hx⟩ : ∃ x, L[s + j]? = some x := ⟨_, List.getElem?_eq_getElem (by omega)⟩
    refine ⟨x, x, ?_, by rw [pc_get (by omega)]; exact hx, rfl⟩
    rw [List.getElem?_drop, h.get (i := s - c + j) (by omega), show c + (s - c + j) = s + j by omega]
    exact hx
  · by_cases hkt : t ≤ k
    · left; rw [pc_len ht]; omega
    · right
      intro a b ha hb
      rw [List.getElem?_drop] at ha
      have h1 := h.even (i := s - c + (min k t - s)) (by omega) ha
      rw [pc_get (by omega)] at hb
      have h2 := hA.odd b (List.mem_of_getElem? hb)
      intro e
      rw [e] at h1
      omega
/-- what a merge tells, and leaves -/
def MergeOk (L : List EN) (c k f t : Nat) (M : (Int × Int) × LG) (g : LG) : Prop :=
  (M = ((0, 50), g) ∧ k < f) ∨ (∃ first : Int, M.1 = (first, 0) ∧ PG L M.2 c (max k t) ∧ (first = 0 ∨ ((f : Int) < first ∧ first ≤ (t : Int) ∧ M.2.last = t)) ∧ t ≤ M.2.last)
theorem turn_ok {L : List EN} {g : LG} {c k f s t : Nat} (hA : AllP L) (h : PG L g c k) (hcs : c ≤ s) (hsk : s ≤ k) (hst : s ≤ t) (hfs : f ≤ s) (ht : t ≤ L.length) : MergeOk L c k f t (g.turnAt (s - c) (pc L s t)) g := by
  have hp := h.parts hA hcs hsk hst ht
  have hk := h.kl
  have hlen := h.len
  have hb := h.base
  right
  by_cases hkt : t ≤ k
  · rw [turnAt_same (by rw [hp, pc_len ht]; omega)]
    refine ⟨0, rfl, by rw [Nat.max_eq_left hkt]; exact h, .inl rfl, ?_⟩
    show t ≤ g.base + g.l.length
    omega
  · rw [turnAt_other (by rw [hp, pc_len ht]; omega), hp]
    have hm : min k t = k := by omega
    rw [hm]
    have hl : g.l.take (s - c + (k - s)) ++ (pc L s t).drop (k - s) = (L.take t).drop c := by
      obtain ⟨O, ho, -⟩ := h.ex
      have hl2 : ((L.take k).drop c).length = k - c := by rw [List.length_drop, List.length_take, Nat.min_eq_left h.kl]
      rw [ho, show s - c + (k - s) = k - c by omega, ← hl2, List.take_left, pc_drop, show s + (k - s) = k by omega]
      unfold pc
      have e : L.take t = L.take k ++ (L.drop k).take (t - k) := by
        have := List.take_add (l := L) (i := k) (j := t - k)
        rwa [show k + (t - k) = t by omega] at this
      rw [e, List.drop_append_of_le_length (by rw [List.length_take]; omega)]
    rw [hl]
    have hlen2 : ((L.take t).drop c).length = t - c := by rw [List.length_drop, List.length_take, Nat.min_eq_left ht]
    refine ⟨_, rfl, ⟨⟨[], ?_, fun e he => by simp at he⟩, hb, h.term, by omega, by omega⟩, .inr ⟨by omega, by omega, ?_⟩, ?_⟩
    · rw [List.append_nil, Nat.max_eq_right (by omega)]
    · show g.base + ((L.take t).drop c).length = t
      omega
    · show t ≤ g.base + ((L.take t).drop c).length
      omega
theorem last_odd {L : List EN} {f : Nat} (hA : AllP L) (hf : 0 < f) (hl : f ≤ L.length) : lastTerm 0 (L.take f) % 2 = 1 := by
  obtain ⟨x, hx⟩ : ∃ x, L[f - 1]? = some x := ⟨_, List.getElem?_eq_getElem (by omega)⟩
  have := getLast_take hx
  rw [show f - 1 + 1 = f by omega] at this
  rw [this, lastTerm_snoc]
  exact hA.odd x (List.mem_of_getElem? hx)
theorem last_range {L : List EN} {f : Nat} (hA : AllP L) : 0 ≤ lastTerm 0 (L.take f) ∧ lastTerm 0 (L.take f) ≤ 2147483647 := by
  rw [lastTerm_get]
  cases hx : (L.take f)[(L.take f).length - 1]? with
  | none => exact ⟨by decide, by decide⟩
  | some x =>
    have := EN.may_term (follows_all hA.fol x (List.mem_of_mem_take (List.mem_of_getElem? hx))).1
    show 0 ≤ x.term ∧ x.term ≤ _
    omega
theorem merge_ok {L : List EN} {g : LG} {c k f t : Nat} (hA : AllP L) (h : PG L g c k) (hft : f ≤ t) (ht : t ≤ L.length) : MergeOk L c k f t (g.merge (f : Int) (lastTerm 0 (L.take f)) (pc L f t)) g := by
  have hlen := hA.len
  have hk := h.kl
  have hck := h.ck
  have hb := h.base
  have hfolD := (follows_split f hA.fol).2
  have hfol : follows (lastTerm 0 (L.take f)) (pc L f t) = true := (follows_split (t - f) hfolD).1
  have hr : refuse (f : Int) (lastTerm 0 (L.take f)) (pc L f t) = 0 := by
    unfold refuse
    rw [hfol, show isCnt (f : Int) = true by simp [isCnt]; omega, show isCnt (lastTerm 0 (L.take f)) = true by simp [isCnt]; exact last_range hA, pc_len ht]
    show (if ((t - f : Nat) : Int) > 2147483647 - (f : Int) then (70 : Int) else 0) = 0
    exact if_neg (by omega)
  by_cases hfb : (f : Int) < (g.base : Int)
  · rw [merge_below hr hfb, pc_drop, show f + ((g.base : Int) - (f : Int)).toNat = c by omega]
    cases hp : pc L c t with
    | nil =>
      have hz : (pc L c t).length = 0 := by rw [hp]; rfl
      rw [pc_len ht] at hz
      right
      refine ⟨0, rfl, by rw [Nat.max_eq_left (by omega)]; exact h, .inl rfl, ?_⟩
      show t ≤ g.base + g.l.length
      omega
    | cons e m =>
      have hct : c < t := by
        have hz : (pc L c t).length = m.length + 1 := by rw [hp]; rfl
        rw [pc_len ht] at hz
        omega
      have hfc := (follows_split (t - c) (follows_split c hA.fol).2).1
      have : follows g.term (e :: m) = true := by rw [h.term, ← hp]; exact hfc
      simp only [follows, Bool.and_eq_true, decide_eq_true_eq] at this
      dsimp only
      rw [if_neg (by have := this.1.2; omega), ← hp]
      have := turn_ok (f := f) (s := c) hA h (Nat.le_refl _) hck (by omega) (by omega) ht
      rwa [Nat.sub_self] at this
  · by_cases hfk : f ≤ k
    · have hta : g.termAt (f : Int) = some (lastTerm 0 (L.take f)) := by
        have := LG.termAt_at (g := g) (k := f - c) (by have := h.len; omega)
        rw [show (g.base : Int) + ((f - c : Nat) : Int) = (f : Int) by omega] at this
        rw [this, h.term]
        obtain ⟨O, ho, -⟩ := h.ex
        have hl2 : ((L.take k).drop c).length = k - c := by rw [List.length_drop, List.length_take, Nat.min_eq_left h.kl]
        rw [ho, List.take_append_of_le_length (by omega), List.take_drop, show c + (f - c) = f by omega, List.take_take, Nat.min_eq_left hfk]
        have e : L.take c = (L.take f).take c := by rw [List.take_take, Nat.min_eq_left (by omega)]
        rw [e, lastTerm_drop']
      rw [merge_behind hr hfb hta, show ((f : Int) - (g.base : Int)).toNat = f - c by omega]
      exact turn_ok hA h (by omega) hfk hft (Nat.le_refl _) ht
    · left
      refine ⟨merge_state hr hfb fun hta => ?_, by omega⟩
      obtain ⟨j, h1, h2, h3⟩ := LG.termAt_take hta
      have hj : 0 < j := by omega
      obtain ⟨x, hx⟩ : ∃ x, g.l[j - 1]? = some x := ⟨_, List.getElem?_eq_getElem (by omega)⟩
      have e1 := getLast_take hx
      rw [show j - 1 + 1 = j by omega] at e1
      rw [e1, lastTerm_snoc] at h3
      have h4 := h.even (i := j - 1) (by omega) hx
      have h5 := last_odd hA (f := f) (by omega) (by omega)
      omega
theorem PG.at {L : List EN} {g : LG} {c k i : Nat} (h : PG L g c k) (hi : c < i) (hk : i ≤ k) : g.at (i : Int) = L[i - 1]? := by
  have hb := h.base
  unfold LG.at
  rw [if_neg (by omega), show ((i : Int) - (g.base : Int) - 1).toNat = i - 1 - c by omega, h.get (by omega), show c + (i - 1 - c) = i - 1 by omega]
end Go.Proofs.Ytackfigkhjdidaa
