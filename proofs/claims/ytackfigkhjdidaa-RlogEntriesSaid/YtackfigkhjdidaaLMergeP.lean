/-
  What a merge comes to, plainly. No statement is proved here. No condition.
-/
import Derived.Test.YtackfigkhjdidaaLTurnW
namespace Go.Proofs.Ytackfigkhjdidaa
open Go.RowKit

theorem wrap_fit {n : Int} (h : -9223372036854775808 ≤ n ∧ n ≤ 9223372036854775807) : wrap64 n = n := by unfold wrap64; omega
theorem merge_sum {base ah s : Nat} {pv : Int} (h : pv = (base : Int) + (ah : Int)) (hb : base ≤ 2147483647) (ha : ah ≤ 2147483647) (hs : s ≤ 2147483647) : wrap64 (wrap64 (pv + (s : Int)) + 1) = ((base + ah + s + 1 : Nat) : Int) ∧ wrap64 ((ah : Int) + (s : Int)) = (ah : Int) + (s : Int) := by
  rw [wrap_fit (n := pv + (s : Int)) (by omega), wrap_fit (n := pv + (s : Int) + 1) (by omega), wrap_fit (n := (ah : Int) + (s : Int)) (by omega)]
  omega
theorem lastTerm_append : ∀ (a b : List EN) (t : Int), lastTerm t (a ++ b) = lastTerm (lastTerm t a) b
  | [], _, _ => rfl
  | e :: a, b, _ => lastTerm_append a b e.term
theorem follows_append : ∀ (a b : List EN) (t : Int), follows t (a ++ b) = (follows t a && follows (lastTerm t a) b)
  | [], b, t => by simp [follows, lastTerm]
  | e :: a, b, t => by
    show (e.may && decide (t ≤ e.term) && follows e.term (a ++ b)) = _
    rw [follows_append a b e.term]
    show _ = ((e.may && decide (t ≤ e.term) && follows e.term a) && follows (lastTerm e.term a) b)
    simp only [Bool.and_assoc]
theorem follows_split {l : List EN} {t : Int} (k : Nat) (h : follows t l = true) : follows t (l.take k) = true ∧ follows (lastTerm t (l.take k)) (l.drop k) = true := by
  have e := follows_append (l.take k) (l.drop k) t
  rw [List.take_append_drop, h] at e
  simpa using e.symm
theorem follows_low {l : List EN} {t u : Int} (h : follows t l = true) (hu : ∀ e, l.head? = some e → u ≤ e.term) : follows u l = true := by
  cases l with
  | nil => rfl
  | cons e l =>
    simp only [follows, Bool.and_eq_true, decide_eq_true_eq] at h ⊢
    exact ⟨⟨h.1.1, hu e rfl⟩, h.2⟩
theorem parts_terms : ∀ (m l : List EN) (t : Int), lastTerm t (m.take (parts m l)) = lastTerm t (l.take (parts m l))
  | a :: m, b :: l, t => by
    unfold parts
    split
    · rename_i h
      show lastTerm a.term (m.take (parts m l)) = lastTerm b.term (l.take (parts m l))
      rw [h]
      exact parts_terms m l b.term
    · rfl
  | [], l, t => by unfold parts; rfl
  | a :: m, [], t => by unfold parts; rfl
/-- what stands behind a merge's place may be -/
theorem merge_may {m l : List EN} {t : Int} {ah : Nat} (hm : follows t m = true) (hl : follows (lastTerm t (m.take ah)) l = true) : follows t (m.take (ah + parts (m.drop ah) l) ++ l.drop (parts (m.drop ah) l)) = true := by
  rw [follows_append, (follows_split _ hm).1, Bool.true_and]
  have e : m.take (ah + parts (m.drop ah) l) = m.take ah ++ (m.drop ah).take (parts (m.drop ah) l) := by rw [List.take_add]
  rw [e, lastTerm_append, parts_terms]
  exact (follows_split _ hl).2
theorem LG.termAt_take {g : LG} {i t : Int} (h : g.termAt i = some t) : ∃ k : Nat, i = (g.base : Int) + (k : Int) ∧ k ≤ g.l.length ∧ t = lastTerm g.term (g.l.take k) := by
  unfold LG.termAt at h
  split at h
  · rename_i hi
    exact ⟨0, by omega, Nat.zero_le _, (Option.some.inj h).symm⟩
  · unfold LG.at at h
    split at h
    · cases h
    · rename_i h1 h2
      obtain ⟨k, hk⟩ : ∃ k : Nat, (i - g.base - 1).toNat = k := ⟨_, rfl⟩
      rw [hk] at h
      cases hx : g.l[k]? with
      | none => rw [hx] at h; cases h
      | some x =>
        rw [hx] at h
        have hkl := (List.getElem?_eq_some_iff.1 hx).1
        refine ⟨k + 1, by omega, hkl, ?_⟩
        rw [getLast_take hx, lastTerm_snoc]
        exact (Option.some.inj h).symm
theorem LG.termAt_none {g : LG} {i : Int} (hi : (g.base : Int) ≤ i) (h : g.termAt i = none) : (g.last : Int) < i := by
  unfold LG.termAt at h
  split at h
  · cases h
  · unfold LG.at at h
    split at h
    · omega
    · unfold LG.last
      have : g.l.length ≤ (i - g.base - 1).toNat := by
        rcases Nat.lt_or_ge (i - g.base - 1).toNat g.l.length with hh | hh
        · rw [List.getElem?_eq_getElem hh] at h; cases h
        · exact hh
      omega
theorem LG.termAt_at {g : LG} {k : Nat} (hk : k ≤ g.l.length) : g.termAt ((g.base : Int) + (k : Int)) = some (lastTerm g.term (g.l.take k)) := by
  cases h : g.termAt ((g.base : Int) + (k : Int)) with
  | none =>
    have := LG.termAt_none (by omega) h
    unfold LG.last at this
    omega
  | some t =>
    obtain ⟨k', h1, -, rfl⟩ := LG.termAt_take h
    have : k' = k := by omega
    rw [this]
/-- a turn, as the plain one -/
theorem turnAt_same {g : LG} {ah : Nat} {l : List EN} (h : parts (g.l.drop ah) l = l.length) : g.turnAt ah l = ((0, 0), g) := by unfold LG.turnAt; simp only [h, if_true]
theorem turnAt_other {g : LG} {ah : Nat} {l : List EN} (h : ¬ parts (g.l.drop ah) l = l.length) : g.turnAt ah l = ((((g.base + ah + parts (g.l.drop ah) l + 1 : Nat) : Int), 0), { g with l := g.l.take (ah + parts (g.l.drop ah) l) ++ l.drop (parts (g.l.drop ah) l) }) := by unfold LG.turnAt; simp only [h, if_false]
theorem merge_refused {g : LG} {prev term : Int} {l : List EN} (h : refuse prev term l ≠ 0) : g.merge prev term l = ((0, refuse prev term l), g) := by unfold LG.merge; rw [if_pos h]
theorem merge_behind {g : LG} {prev term : Int} {l : List EN} (h : refuse prev term l = 0) (hp : ¬ prev < g.base) (ht : g.termAt prev = some term) : g.merge prev term l = g.turnAt (prev - g.base).toNat l := by unfold LG.merge; rw [if_neg (by simp [h]), if_neg hp, if_pos ht]
theorem merge_state {g : LG} {prev term : Int} {l : List EN} (h : refuse prev term l = 0) (hp : ¬ prev < g.base) (ht : ¬ g.termAt prev = some term) : g.merge prev term l = ((0, 50), g) := by unfold LG.merge; rw [if_neg (by simp [h]), if_neg hp, if_neg ht]
theorem merge_below {g : LG} {prev term : Int} {l : List EN} (h : refuse prev term l = 0) (hp : prev < g.base) : g.merge prev term l = (match l.drop (g.base - prev).toNat with
      | [] => ((0, 0), g)
      | e :: m => if e.term < g.term then ((0, 1), g) else g.turnAt 0 (e :: m)) := by unfold LG.merge; rw [if_neg (by simp [h]), if_pos hp]; rfl
theorem EntN.olds {w : World} {N : Nat → Prop} {v : Value} {l : List EN} (h : EntN w N v l) : EntN w (fun b => N b ∧ b < w.heap.size) v l := by
  have row : ∀ {v : Value} {n size : Nat} {xs : List Value}, RowN w N v n size xs → RowN w (fun b => N b ∧ b < w.heap.size) v n size xs := by
    rintro v n size xs ⟨A, c, rfl, h1, h2, h3, h4, h5⟩
    exact ⟨A, c, rfl, h1, h2, h3, h4, fun h0 => by obtain ⟨b, o, hA, hn, hb, hc⟩ := h5 h0; exact ⟨b, o, hA, ⟨hn, hb⟩, hb, hc⟩⟩
  obtain ⟨rs, h1, h2, h3⟩ := h
  exact ⟨rs, row h1, h2, fun i r e hr he => { h3 i r e hr he with list := row (h3 i r e hr he).list }⟩
theorem EntN.any {w : World} {N : Nat → Prop} {v : Value} {l : List EN} (h : EntN w N v l) : EntN w Any v l := by
  obtain ⟨rs, h1, h2, h3⟩ := h
  exact ⟨rs, h1.any, h2, fun i r e hr he => { h3 i r e hr he with list := (h3 i r e hr he).list.any }⟩
theorem OffLog.olds {w W : World} {p : Nat} {v : Value} {N : Nat → Prop} (h : OffLog w p v N) : OffLog W p v (fun b => N b ∧ b < w.heap.size) := fun b hb _ => h b hb.1 hb.2
end Go.Proofs.Ytackfigkhjdidaa
