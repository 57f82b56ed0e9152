/-
  Messages of which some parts are there, plainly. No statement is proved here. No condition.
-/
import Derived.Test.YtfmaocinckeagaaDoorQTwo
namespace Go.Proofs.YtfmaocinckeagaaDoor
open Go.RowKit

def allT (m : Nat) (t : Nat → Bool) : Bool := (List.range m).all t
def anyT (m : Nat) (t : Nat → Bool) : Bool := (List.range m).any t
def addT (t : Nat → Bool) (i : Nat) : Nat → Bool := fun j => t j || j == i
def noT : Nat → Bool := fun _ => false
theorem allT_iff {m : Nat} {t : Nat → Bool} : allT m t = true ↔ ∀ i, i < m → t i = true := by
  unfold allT
  rw [List.all_eq_true]
  exact ⟨fun h i hi => h i (List.mem_range.2 hi), fun h i hi => h i (List.mem_range.1 hi)⟩
theorem anyT_iff {m : Nat} {t : Nat → Bool} : anyT m t = true ↔ ∃ i, i < m ∧ t i = true := by
  unfold anyT
  rw [List.any_eq_true]
  exact ⟨fun ⟨i, h1, h2⟩ => ⟨i, List.mem_range.1 h1, h2⟩, fun ⟨i, h1, h2⟩ => ⟨i, List.mem_range.2 h1, h2⟩⟩
/-- a message of which these parts are there -/
def KPof (key : Key) (l : List UInt8) (t : Nat → Bool) : KP := ⟨key, (List.range (many l)).map (fun i => if t i then piece l i else []), (List.range (many l)).countP (fun i => !t i)⟩
theorem KPof_len (key : Key) (l : List UInt8) (t : Nat → Bool) : (KPof key l t).parts.length = many l := by simp [KPof]
theorem KPof_none {key : Key} {l : List UInt8} {t : Nat → Bool} (h : anyT (many l) t = false) : KPof key l t = newP key (many l) := by
  have hn : ∀ i ∈ List.range (many l), t i = false := fun i hi => by
    cases ht : t i with
    | false => rfl
    | true => exact absurd (anyT_iff.2 ⟨i, List.mem_range.1 hi, ht⟩) (by rw [h]; simp)
  unfold KPof newP
  congr 1
  · apply List.ext_getElem (by simp)
    intro i h1 h2
    simp at h1 ⊢
    intro ht
    rw [hn i (List.mem_range.2 h1)] at ht
    cases ht
  · rw [List.countP_eq_length.2 (fun i hi => by rw [hn i hi]; rfl), List.length_range]
theorem KPof_left {key : Key} {l : List UInt8} {t : Nat → Bool} : 0 < (KPof key l t).left ↔ allT (many l) t = false := by
  unfold KPof
  dsimp only
  rw [List.countP_pos_iff, ← Bool.not_eq_true, allT_iff]
  constructor
  · rintro ⟨i, hi, h⟩ hall
    rw [hall i (List.mem_range.1 hi)] at h
    cases h
  · intro h
    apply Classical.byContradiction
    intro hn
    apply h
    intro i hi
    cases ht : t i with
    | true => rfl
    | false => exact absurd ⟨i, List.mem_range.2 hi, by rw [ht]; rfl⟩ hn
theorem KPof_all {key : Key} {l : List UInt8} {t : Nat → Bool} (h : allT (many l) t = true) : (KPof key l t).parts.flatten = l := by
  have e : (KPof key l t).parts = (List.range (many l)).map (piece l) := by
    unfold KPof
    apply List.map_congr_left
    intro i hi
    rw [allT_iff.1 h i (List.mem_range.1 hi), if_pos rfl]
  rw [e, join_all]
theorem count_range (m i : Nat) : (List.range m).countP (fun j => j == i) = if i < m then 1 else 0 := by
  induction m with
  | zero => rfl
  | succ m ih =>
    rw [List.range_succ, List.countP_append, ih]
    by_cases h : i = m
    · subst h
      simp
    · have : (m == i) = false := by simpa using Ne.symm h
      simp only [List.countP_singleton, this]
      by_cases h2 : i < m
      · rw [if_pos h2, if_pos (show i < m + 1 by omega)]; rfl
      · rw [if_neg h2, if_neg (show ¬ i < m + 1 by omega)]; rfl
theorem piece_ne {l : List UInt8} {i : Nat} (hM : 2 ≤ many l) (hi : i < many l) : piece l i ≠ [] := by
  intro h
  have := congrArg List.length h
  rw [piece_len] at this
  unfold many at *
  simp only [List.length_nil] at this
  omega
theorem count_set (m i : Nat) (t : Nat → Bool) (hi : i < m) (ht : t i = false) : (List.range m).countP (fun j => !addT t i j) = (List.range m).countP (fun j => !t j) - 1 := by
  have h1 : (List.range m).countP (fun j => !t j) = (List.range m).countP (fun j => !addT t i j) + (List.range m).countP (fun j => j == i) := by
    generalize hR : List.range m = R
    clear hR
    induction R with
    | nil => rfl
    | cons a R ih =>
      rw [List.countP_cons, List.countP_cons, List.countP_cons, ih]
      unfold addT
      by_cases ha : a = i
      · subst ha
        simp [ht]
        omega
      · have : (a == i) = false := by simpa using ha
        simp [this]
        omega
  have h2 : (List.range m).countP (fun j => j == i) = 1 := by rw [count_range, if_pos hi]
  omega
theorem KPof_add {key : Key} {l : List UInt8} {t : Nat → Bool} {i : Nat} (hM : 2 ≤ many l) (hi : i < many l) : (KPof key l t).add i (piece l i) = KPof key l (addT t i) := by
  have hg : (KPof key l t).parts[i]? = some (if t i then piece l i else []) := by
    unfold KPof
    dsimp only
    rw [List.getElem?_map, List.getElem?_range hi]
    rfl
  unfold KP.add
  rw [hg]
  cases ht : t i with
  | true =>
    rw [if_neg (by simp [piece_ne hM hi])]
    have : addT t i = t := by
      funext j
      unfold addT
      by_cases hj : j = i
      · subst hj; rw [ht]; rfl
      · have : (j == i) = false := by simpa using hj
        rw [this, Bool.or_false]
    rw [this]
  | false =>
    rw [if_pos (by simp)]
    unfold KPof
    dsimp only
    congr 1
    · apply List.ext_getElem (by simp)
      intro j h1 h2
      simp at h1 ⊢
      rw [List.getElem_set]
      by_cases hj : i = j
      · subst hj
        simp [addT]
      · rw [if_neg hj]
        simp [addT, Ne.symm hj]
    · exact (count_set _ _ _ hi ht).symm
theorem KPof_one {key : Key} {l : List UInt8} {t : Nat → Bool} (hM : many l = 1) (ht : t 0 = false) : ((KPof key l t).add 0 (piece l 0)).left = 0 ∧ ((KPof key l t).add 0 (piece l 0)).parts.flatten = l := by
  have hl := join_all l
  rw [hM] at hl
  have hk : KPof key l t = ⟨key, [[]], 1⟩ := by
    unfold KPof
    rw [hM]
    simp [List.range_succ, ht]
  rw [hk]
  unfold KP.add
  simp
  simpa [List.range_succ] using hl
/-- what is kept of a message -/
def hasP (key : Key) (l : List UInt8) (t : Nat → Bool) : Option KP := if anyT (many l) t then some (KPof key l t) else none
/-- a packet of a message taken -/
theorem step_msg {J : List KP} {f : Int} {n i : Nat} {l : List UInt8} {t : Nat → Bool} (hJ : J.length < 16) (hk : (J.map KP.key).Nodup) (h : look J (f, (n : Int)) = hasP (f, (n : Int)) l t) (hi : i < many l) (hn : allT (many l) t = false) :
    (stepJ J (f, (n : Int)) ⟨n, i, many l, piece l i⟩).1 = (if allT (many l) (addT t i) then some l else none) ∧
      ∀ j, look (stepJ J (f, (n : Int)) ⟨n, i, many l, piece l i⟩).2 j = if (f, (n : Int)) = j then (if allT (many l) (addT t i) then none else hasP (f, (n : Int)) l (addT t i)) else look J j := by
  have hs := step_look (J := J) (key := (f, (n : Int))) (p := ⟨n, i, many l, piece l i⟩) hJ hk (fun k hk' => by
    rw [h] at hk'
    unfold hasP at hk'
    split at hk'
    · injection hk' with hk'
      rw [← hk']
      exact KPof_len _ _ _
    · cases hk')
  have h0 : (look J (f, (n : Int))).getD (newP (f, (n : Int)) (many l)) = KPof (f, (n : Int)) l t := by
    rw [h]
    unfold hasP
    cases ha : anyT (many l) t with
    | true => rfl
    | false => exact (KPof_none ha).symm
  dsimp only at hs
  rw [h0] at hs
  have hany : anyT (many l) (addT t i) = true := anyT_iff.2 ⟨i, hi, by simp [addT]⟩
  rcases Nat.lt_or_ge (many l) 2 with hM | hM
  · have hM1 : many l = 1 := by have := many_pos l; omega
    have hi0 : i = 0 := by omega
    subst hi0
    have ht0 : t 0 = false := by
      cases ht : t 0 with
      | false => rfl
      | true =>
        have := allT_iff (m := many l) (t := t)
        rw [hn] at this
        exact absurd (this.2 (fun k hk' => by rw [show k = 0 by omega]; exact ht)) (by simp)
    obtain ⟨g1, g2⟩ := KPof_one (key := (f, (n : Int))) hM1 ht0
    have hall : allT (many l) (addT t 0) = true := allT_iff.2 fun k hk' => by rw [show k = 0 by omega]; simp [addT]
    rw [g1, g2] at hs
    rw [hall]
    simpa using hs
  · rw [KPof_add hM hi] at hs
    cases hall : allT (many l) (addT t i) with
    | true =>
      have hl0 : ¬ 0 < (KPof (f, (n : Int)) l (addT t i)).left := fun e => by rw [KPof_left, hall] at e; cases e
      simp only [if_neg hl0, KPof_all hall] at hs
      simpa using hs
    | false =>
      have hl0 : 0 < (KPof (f, (n : Int)) l (addT t i)).left := KPof_left.2 hall
      simp only [if_pos hl0] at hs
      unfold hasP
      rw [hany]
      simpa using hs
theorem look_mem {J : List KP} {x : KP} (h : x ∈ J) : look J x.key ≠ none := by
  intro hn
  have := List.find?_eq_none.1 hn x h
  simp at this
/-- a joiner that has of two keys alone has two messages at most -/
theorem two_keys {J : List KP} {a b : Key} (hk : (J.map KP.key).Nodup) (h : ∀ j, j ≠ a → j ≠ b → look J j = none) : J.length ≤ 2 := by
  have hm : ∀ x ∈ J, x.key = a ∨ x.key = b := fun x hx => by
    apply Classical.byContradiction
    intro hn
    exact look_mem hx (h x.key (fun e => hn (.inl e)) (fun e => hn (.inr e)))
  match J, hk, hm with
  | [], _, _ => exact Nat.zero_le _
  | [_], _, _ => simp
  | [_, _], _, _ => simp
  | x :: y :: z :: J, hk, hm =>
    exfalso
    simp only [List.map_cons, List.nodup_cons, List.mem_cons, not_or] at hk
    obtain ⟨⟨h1, h2, -⟩, ⟨h3, -⟩, -⟩ := hk
    rcases hm x (by simp) with hx | hx <;> rcases hm y (by simp) with hy | hy <;> rcases hm z (by simp) with hz | hz <;> simp_all
theorem one_key {J : List KP} {a : Key} (hk : (J.map KP.key).Nodup) (h : ∀ j, j ≠ a → look J j = none) : J.length ≤ 1 := by
  have hm : ∀ x ∈ J, x.key = a := fun x hx => Classical.byContradiction fun hn => look_mem hx (h x.key hn)
  match J, hk, hm with
  | [], _, _ => exact Nat.zero_le _
  | [_], _, _ => simp
  | x :: y :: J, hk, hm =>
    exfalso
    simp only [List.map_cons, List.nodup_cons, List.mem_cons, not_or] at hk
    have hx := hm x (by simp)
    have hy := hm y (by simp)
    exact hk.1.1 (hx.trans hy.symm)
theorem no_keys {J : List KP} (h : ∀ j, look J j = none) : J = [] := by
  cases J with
  | nil => rfl
  | cons a J => exact absurd (h a.key) (look_mem (List.mem_cons_self ..))
theorem readP_cases (l : List UInt8) : (∃ p, readP l = (0, some p)) ∨ ∃ er, er ≠ 0 ∧ readP l = (er, none) := by
  unfold readP
  split
  · rename_i h
    exact .inr ⟨_, h, rfl⟩
  · split
    · exact .inr ⟨4, by decide, rfl⟩
    · split
      · exact .inr ⟨4, by decide, rfl⟩
      · exact .inl ⟨_, rfl⟩
end Go.Proofs.YtfmaocinckeagaaDoor
