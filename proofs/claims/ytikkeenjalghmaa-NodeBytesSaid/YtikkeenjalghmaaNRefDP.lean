/-
  Bytes read by the document's words, plainly: it stops where a reading fails; so it tells what the program's Decode tells. No statement is proved here. No condition.
-/
import Derived.Test.YtikkeenjalghmaaNBackP
namespace Go.Proofs.Ytikkeenjalghmaa
open Go.RowKit

theorem rdCells_snoc (leaf : Bool) : ∀ (i : Nat) (st : Option (List UInt8)), rdCells leaf (i + 1) st = ((rdCells leaf i st).1 ++ [(rdCell leaf (rdCells leaf i st).2).1], (rdCell leaf (rdCells leaf i st).2).2) := by
  intro i
  induction i with
  | zero => intro st; rfl
  | succ i ih =>
    intro st
    show ((rdCell leaf st).1 :: (rdCells leaf (i + 1) (rdCell leaf st).2).1, (rdCells leaf (i + 1) (rdCell leaf st).2).2) = _
    rw [ih]
    rfl
theorem rdKids_snoc : ∀ (i : Nat) (st : Option (List UInt8)), rdKids (i + 1) st = ((rdKids i st).1 ++ [(told 0 (gCount 2147483647) (rdKids i st).2).1], (told 0 (gCount 2147483647) (rdKids i st).2).2) := by
  intro i
  induction i with
  | zero => intro st; rfl
  | succ i ih =>
    intro st
    show ((told 0 (gCount 2147483647) st).1 :: (rdKids (i + 1) (told 0 (gCount 2147483647) st).2).1, (rdKids (i + 1) (told 0 (gCount 2147483647) st).2).2) = _
    rw [ih]
    rfl
theorem told_gone0 {α : Type} (z : α) (g : List UInt8 → Option (α × List UInt8)) : (told z g none).2 = none := rfl
theorem rdCell_none (leaf : Bool) : (rdCell leaf none).2 = none := by
  unfold rdCell
  cases leaf
  · rfl
  · simp only [↓reduceIte]
    split <;> rfl
theorem rdCells_none (leaf : Bool) : ∀ m : Nat, (rdCells leaf m none).2 = none := by
  intro m
  induction m with
  | zero => rfl
  | succ m ih => rw [rdCells_snoc, ih]; exact rdCell_none leaf
theorem rdKids_none : ∀ m : Nat, (rdKids m none).2 = none := by
  intro m
  induction m with
  | zero => rfl
  | succ m ih => rw [rdKids_snoc, ih]; rfl
/-- what has failed has failed for good -/
theorem rdCells_stop {leaf : Bool} {i : Nat} {st : Option (List UInt8)} (h : (rdCells leaf i st).2 = none) : ∀ m, i ≤ m → (rdCells leaf m st).2 = none := by
  intro m
  induction m with
  | zero => intro hm; rw [show i = 0 by omega] at h; exact h
  | succ m ih =>
    intro hm
    by_cases he : i = m + 1
    · rw [← he]; exact h
    · rw [rdCells_snoc, ih (by omega)]
      exact rdCell_none leaf
theorem rdKids_stop {i : Nat} {st : Option (List UInt8)} (h : (rdKids i st).2 = none) : ∀ m, i ≤ m → (rdKids m st).2 = none := by
  intro m
  induction m with
  | zero => intro hm; rw [show i = 0 by omega] at h; exact h
  | succ m ih =>
    intro hm
    by_cases he : i = m + 1
    · rw [← he]; exact h
    · rw [rdKids_snoc, ih (by omega)]
      rfl
theorem told_is {α : Type} {z : α} {g : List UInt8 → Option (α × List UInt8)} {t : List UInt8} {a : α} {r : List UInt8} (h : told z g (some t) = (a, some r)) : g t = some (a, r) := by
  cases hg : g t with
  | none => rw [told_none hg] at h; cases h
  | some p =>
    obtain ⟨b, u⟩ := p
    rw [told_some hg] at h
    injection h with h1 h2
    injection h2 with h2
    rw [h1, h2]
theorem uv_one (n : Nat) : 1 ≤ (uv n).length := by
  unfold uv
  split <;> simp
theorem count_lt {m n : Int} {t r : List UInt8} (h : gCount m t = some (n, r)) : r.length < t.length := by
  have h1 := gCount_is h
  have h2 := uv_one n.toNat
  rw [h1, List.length_append]
  omega
theorem rdCell_lt {leaf : Bool} {t r : List UInt8} {c : PC} (h : rdCell leaf (some t) = (c, some r)) : r.length < t.length := by
  have hl : Less (rdCell leaf (some t)).2 (told [] (gStr 48) (some t)).2 := by
    unfold rdCell
    cases leaf with
    | false => exact Less.refl _
    | true =>
      simp only [↓reduceIte]
      split
      · exact (less_str _ _).trans (less_count _ _)
      · exact (less_count _ _).trans (less_count _ _)
  rw [h] at hl
  cases hs : told [] (gStr 48) (some t) with
  | mk k s =>
    rw [hs] at hl
    cases s with
    | none =>
      have : (rdCell leaf (some t)).2 = none := by
        unfold rdCell
        rw [hs]
        cases leaf with
        | false => rfl
        | true =>
          simp only [↓reduceIte]
          split <;> rfl
      rw [h] at this
      cases this
    | some t1 =>
      have h1 := (gStr_is (told_is hs)).1
      have h2 := uv_one k.length
      have h3 : r.length ≤ t1.length := hl
      rw [h1, List.length_append, List.length_append]
      omega
theorem rdCells_eat {leaf : Bool} : ∀ {m : Nat} {t r : List UInt8}, (rdCells leaf m (some t)).2 = some r → m + r.length ≤ t.length := by
  intro m
  induction m with
  | zero => intro t r h; injection h with h; subst h; omega
  | succ m ih =>
    intro t r h
    rw [rdCells_snoc] at h
    dsimp only at h
    cases hs : (rdCells leaf m (some t)).2 with
    | none => rw [hs, rdCell_none] at h; cases h
    | some u =>
      rw [hs] at h
      have h1 := ih hs
      cases hc : rdCell leaf (some u) with
      | mk c s =>
        rw [hc] at h
        dsimp only at h
        subst h
        have := rdCell_lt hc
        omega
theorem count_also {m m' n : Int} {t r : List UInt8} (h : gCount m t = some (n, r)) (h0 : 0 ≤ m') (hn : n ≤ m') : gCount m' t = some (n, r) := by
  unfold gCount at h ⊢
  cases hg : getU 0 0 t with
  | none => rw [hg] at h; cases h
  | some p =>
    rw [hg] at h
    dsimp only at h ⊢
    split at h
    · cases h
    · rename_i hc
      injection h with h
      injection h with h1 h2
      rw [if_neg (by omega), h1, h2]
/-- the reading by the document's words, and the program's -/
theorem refdec {l : List UInt8} {lf : Bool} {s1 s2 : Option (List UInt8)} {q : Nat} (hf : told false gFlag (some l) = (lf, s1)) (hc : told 0 (gCount 512) s1 = ((q : Int), s2)) (hl : l.length ≤ 512) :
    ((rdCells lf q s2).2 = none → decOk l = false) ∧ (∀ xs t, rdCells lf q s2 = (xs, some t) → rdNode (some l) = if lf then (⟨lf, xs, []⟩, some t) else (⟨lf, xs, (rdKids (q + 1) (some t)).1⟩, (rdKids (q + 1) (some t)).2)) := by
  have key : ∀ t1 t2 : List UInt8, s1 = some t1 → gCount 512 t1 = some ((q : Int), t2) → q ≤ t1.length → s2 = some t2 ∧ rdMany s1 = q ∧ (told 0 (gCount (((s1.getD []).length : Nat) : Int)) s1).2 = some t2 := fun t1 t2 h1 h2 h3 => by
    subst h1
    have h4 := told_some (z := 0) h2
    rw [h4] at hc
    injection hc with _ hc
    have h5 := count_also (m' := (t1.length : Int)) h2 (by omega) (by omega)
    have h6 := told_some (z := 0) h5
    refine ⟨hc.symm, ?_, ?_⟩
    · unfold rdMany
      show (told 0 (gCount (t1.length : Int)) (some t1)).1.toNat = q
      rw [h6]
      simp
    · show (told 0 (gCount (t1.length : Int)) (some t1)).2 = _
      rw [h6]
  have hnode : ∀ t2, rdMany s1 = q → (told 0 (gCount (((s1.getD []).length : Nat) : Int)) s1).2 = some t2 → rdNode (some l) = if lf then (⟨lf, (rdCells lf q (some t2)).1, []⟩, (rdCells lf q (some t2)).2) else (⟨lf, (rdCells lf q (some t2)).1, (rdKids (q + 1) (rdCells lf q (some t2)).2).1⟩, (rdKids (q + 1) (rdCells lf q (some t2)).2).2) := fun t2 h1 h2 => by
    unfold rdNode
    dsimp only
    rw [hf]
    dsimp only
    rw [h1, h2]
  have hlen1 : ∀ t1, s1 = some t1 → t1.length ≤ 511 := fun t1 h1 => by
    have := gFlag_is (told_is (hf.trans (by rw [h1])))
    have h2 := congrArg List.length this
    rw [List.length_append] at h2
    simp only [List.length_cons, List.length_nil] at h2
    omega
  refine ⟨fun hnone => ?_, fun xs t hxs => ?_⟩
  · apply Classical.byContradiction
    intro hok
    have hok : decOk l = true := by simpa using hok
    have hsome : (rdNode (some l)).2.isSome = true := by
      unfold decOk at hok
      rw [Bool.and_eq_true, Bool.and_eq_true] at hok
      exact hok.2.1
    -- the program's count is told
    have hcount : ∃ n t2, s1 = some n ∧ gCount ((n.length : Nat) : Int) n = some t2 := by
      cases hs1 : s1 with
      | none =>
        exfalso
        have : (rdNode (some l)).2 = none := by
          unfold rdNode
          dsimp only
          rw [hf, hs1]
          dsimp only
          split
          · exact rdCells_none _ _
          · have h1 := rdCells_none lf (rdMany none)
            show (rdKids _ (rdCells lf (rdMany none) none).2).2 = none
            rw [h1]
            exact rdKids_none _
        rw [this] at hsome
        cases hsome
      | some n =>
        cases hg : gCount ((n.length : Nat) : Int) n with
        | some p => exact ⟨n, p, rfl, hg⟩
        | none =>
          exfalso
          have h0 : told 0 (gCount ((n.length : Nat) : Int)) (some n) = (0, none) := told_none hg
          have : (rdNode (some l)).2 = none := by
            unfold rdNode
            dsimp only
            rw [hf, hs1]
            dsimp only [Option.getD_some]
            rw [h0]
            dsimp only
            split
            · exact rdCells_none _ _
            · show (rdKids _ (rdCells lf _ none).2).2 = none
              rw [rdCells_none]
              exact rdKids_none _
          rw [this] at hsome
          cases hsome
    obtain ⟨n, p, hs1, hg⟩ := hcount
    obtain ⟨z, t2⟩ := p
    obtain ⟨k, rfl, -, hkn⟩ := gCount_nat hg
    have hn := hlen1 n hs1
    have h512 := count_also (m' := 512) hg (by omega) (by omega)
    have hqk : q = k := by
      have := told_some (z := 0) h512
      rw [hs1, this] at hc
      injection hc with h1 _
      omega
    subst hqk
    obtain ⟨h1, h2, h3⟩ := key n t2 hs1 h512 (by omega)
    rw [hnode t2 h2 h3] at hsome
    rw [h1] at hnone
    cases lf with
    | true =>
      simp only [↓reduceIte] at hsome
      rw [hnone] at hsome
      cases hsome
    | false =>
      simp only [Bool.false_eq_true, ↓reduceIte] at hsome
      rw [hnone, rdKids_none] at hsome
      cases hsome
  · cases hs2 : s2 with
    | none =>
      rw [hs2] at hxs
      have := rdCells_none lf q
      rw [hxs] at this
      cases this
    | some t2 =>
      rw [hs2] at hxs hc
      cases hs1 : s1 with
      | none => rw [hs1] at hc; cases hc
      | some t1 =>
        rw [hs1] at hc
        have hg := told_is hc
        have h1 := rdCells_eat (leaf := lf) (m := q) (t := t2) (r := t) (by rw [hxs])
        have h2 := count_lt hg
        obtain ⟨h3, h4, h5⟩ := key t1 t2 hs1 hg (by omega)
        rw [hnode t2 h4 h5, hxs]
end Go.Proofs.Ytikkeenjalghmaa
