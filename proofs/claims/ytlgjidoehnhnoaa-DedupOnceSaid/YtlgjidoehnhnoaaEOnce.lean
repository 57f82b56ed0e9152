/-
  Requests that come again: what a list of last writes tells behind a note; plainly. No statement is proved here. No condition.
-/
import Derived.Test.YtlgjidoehnhnoaaEPlain
namespace Go.Proofs.Ytlgjidoehnhnoaa
open Go.RowKit

def findL : List PL → Int → Option PL
  | [], _ => none
  | x :: l, c => if x.client = c then some x else findL l c
def tellL (x : Option PL) (i : Int) : PR × Int := match x with
  | none => (zR, 5)
  | some x => if x.id = i then (x.res, 0) else if i < x.id then (zR, 6) else (zR, 5)
theorem seenP_eq (l : List PL) (c i : Int) : seenP l c i = tellL (findL l c) i := by
  induction l with
  | nil => rfl
  | cons x l ih =>
    unfold seenP findL
    by_cases h : x.client = c
    · rw [if_pos h, if_pos h]; rfl
    · rw [if_neg h, if_neg h, ih]
theorem findL_any (l : List PL) (c : Int) : (findL l c).isSome = l.any fun q => decide (q.client = c) := by
  induction l with
  | nil => rfl
  | cons p l ih =>
    unfold findL
    rw [List.any_cons]
    by_cases h : p.client = c
    · rw [if_pos h]; simp [h]
    · rw [if_neg h, ih]; simp [h]
theorem findL_client {l : List PL} {c : Int} {x : PL} (h : findL l c = some x) : x.client = c := by
  induction l with
  | nil => cases h
  | cons p l ih =>
    unfold findL at h
    by_cases hp : p.client = c
    · rw [if_pos hp] at h
      rw [← Option.some.inj h]
      exact hp
    · rw [if_neg hp] at h
      exact ih h
theorem findL_note (l : List PL) (x : PL) (c : Int) : findL (noteP l x) c = if x.client = c then some x else findL l c := by
  unfold noteP putBy
  rw [← findL_any]
  cases h : findL l x.client with
  | some v =>
    rw [if_pos (show (some v).isSome = true from rfl)]
    clear h
    induction l with
    | nil => simp [repl, findL]
    | cons q l ih =>
      unfold repl
      by_cases hq : q.client = x.client
      · rw [if_pos (by simp [hq])]
        unfold findL
        by_cases hk : x.client = c
        · rw [if_pos hk, if_pos hk]
        · rw [if_neg hk, if_neg hk, if_neg (by rw [hq]; exact hk)]
      · rw [if_neg (by simp [hq])]
        unfold findL
        by_cases hk : q.client = c
        · rw [if_pos hk, if_pos hk, if_neg (by rw [← hk]; exact fun e => hq e.symm)]
        · rw [if_neg hk, if_neg hk, ih]
  | none =>
    rw [if_neg (show ¬ (none : Option PL).isSome = true by simp)]
    induction l with
    | nil => simp [ins, findL]
    | cons q l ih =>
      unfold findL at h
      by_cases hq : q.client = x.client
      · rw [if_pos hq] at h; cases h
      · rw [if_neg hq] at h
        unfold ins
        split
        · rw [findL]
        · unfold findL
          by_cases hk : q.client = c
          · rw [if_pos hk, if_pos hk, if_neg (by rw [← hk]; exact fun e => hq e.symm)]
          · rw [if_neg hk, if_neg hk, ih h]
theorem seenP_note (l : List PL) (x : PL) (c i : Int) : seenP (noteP l x) c i = if x.client = c then tellL (some x) i else seenP l c i := by
  rw [seenP_eq, findL_note]
  split
  · rfl
  · rw [seenP_eq]
/-- a request that was done -/
structure PW where
  client : Int
  id : Int
  op : PO
  res : PR
/-- the requests that were done, the last writes, the clients' last IDs -/
structure OnceJ (all : List PW) (seen : List PL) (ids : List Int) : Prop where
  len : ids.length = 3
  was : ∀ x ∈ all, ∃ (c : Nat) (k : Int), x.client = c ∧ ids[c]? = some k ∧ 1 ≤ x.id ∧ x.id ≤ k ∧ x.op.err = 0 ∧ x.op.kind ≠ 1 ∧ (x.id = k → findL seen c = some ⟨c, x.id, x.res⟩)
  ids : ∀ (c : Nat) (k : Int), ids[c]? = some k → 0 ≤ k ∧ (findL seen c = none ∧ k = 0 ∨ ∃ r, findL seen c = some ⟨c, k, r⟩)
theorem OnceJ.start : OnceJ [] [] [0, 0, 0] := ⟨rfl, fun x h => (by cases h), fun c k h => by
  have : k = 0 := by
    match c, h with
    | 0, h => exact (Option.some.inj h).symm
    | 1, h => exact (Option.some.inj h).symm
    | 2, h => exact (Option.some.inj h).symm
    | c + 3, h => simp at h
  exact ⟨by omega, .inl ⟨rfl, this⟩⟩⟩
/-- a new one is none that was seen -/
theorem OnceJ.fresh {all : List PW} {seen : List PL} {ids : List Int} (h : OnceJ all seen ids) {c : Nat} {k : Int} (hc : ids[c]? = some k) : seenP seen c (k + 1) = (zR, 5) := by
  rw [seenP_eq]
  rcases (h.ids c k hc).2 with ⟨h1, -⟩ | ⟨r, h1⟩
  · rw [h1]; rfl
  · rw [h1]
    unfold tellL
    show (if k = k + 1 then _ else if k + 1 < k then _ else _) = _
    rw [if_neg (by omega), if_neg (by omega)]
/-- one that comes again -/
theorem OnceJ.again {all : List PW} {seen : List PL} {ids : List Int} (h : OnceJ all seen ids) {x : PW} (hx : x ∈ all) (m : List PP) :
    ∃ (c : Nat) (k : Int), x.client = c ∧ ids[c]? = some k ∧ ((x.id = k ∧ stepErr seen x.client x.id x.op = 0 ∧ stepP m seen x.client x.id x.op = (m, seen, x.res)) ∨ (x.id ≠ k ∧ stepErr seen x.client x.id x.op = 6)) := by
  obtain ⟨c, k, h1, h2, h3, h4, h5, h6, h7⟩ := h.was x hx
  refine ⟨c, k, h1, h2, ?_⟩
  by_cases hk : x.id = k
  · refine .inl ⟨hk, ?_, ?_⟩
    · unfold stepErr
      rw [if_neg (by rw [h5]; simp), if_neg h6, if_neg]
      rw [h1, seenP_eq, h7 hk]
      unfold tellL
      simp
    · have hs : seenP seen x.client x.id = (x.res, 0) := by
        rw [h1, seenP_eq, h7 hk]
        unfold tellL
        simp
      have he : stepErr seen x.client x.id x.op = 0 := by
        unfold stepErr
        rw [if_neg (by rw [h5]; simp), if_neg h6, hs, if_neg (by simp)]
      unfold stepP
      rw [he, hs]
      simp
  · refine .inr ⟨hk, ?_⟩
    unfold stepErr
    rw [if_neg (by rw [h5]; simp), if_neg h6, if_pos]
    rcases (h.ids c k h2).2 with ⟨-, h8⟩ | ⟨r, h8⟩
    · omega
    · rw [h1, seenP_eq, h8]
      unfold tellL
      show (if k = x.id then _ else if x.id < k then _ else _ : PR × Int).2 = 6
      rw [if_neg (fun e => hk e.symm), if_pos (by omega)]
/-- a new one is done -/
theorem OnceJ.done {all : List PW} {seen : List PL} {ids : List Int} (h : OnceJ all seen ids) {c : Nat} {k : Int} (hc : ids[c]? = some k) {o : PO} (he : o.err = 0) (hg : o.kind ≠ 1) (r : PR) :
    OnceJ (all ++ [⟨c, k + 1, o, r⟩]) (noteP seen ⟨c, k + 1, r⟩) (ids.set c (k + 1)) := by
  have hlt : c < ids.length := (List.getElem?_eq_some_iff.1 hc).1
  have h0 := (h.ids c k hc).1
  refine ⟨by rw [List.length_set]; exact h.len, fun x hx => ?_, fun d j hd => ?_⟩
  · rcases List.mem_append.1 hx with hx | hx
    · obtain ⟨d, j, h1, h2, h3, h4, h5, h6, h7⟩ := h.was x hx
      by_cases hcd : c = d
      · subst hcd
        rw [hc] at h2
        have hkj : k = j := Option.some.inj h2
        subst hkj
        exact ⟨c, k + 1, h1, by rw [List.getElem?_set_self hlt], h3, by omega, h5, h6, fun e => by omega⟩
      · refine ⟨d, j, h1, by rw [List.getElem?_set_ne hcd]; exact h2, h3, h4, h5, h6, fun e => ?_⟩
        rw [findL_note, if_neg (by show ¬ (c : Int) = d; omega)]
        exact h7 e
    · rw [List.mem_singleton.1 hx]
      refine ⟨c, k + 1, rfl, by rw [List.getElem?_set_self hlt], by show 1 ≤ k + 1; omega, Int.le_refl _, he, hg, fun _ => ?_⟩
      rw [findL_note, if_pos rfl]
  · by_cases hcd : c = d
    · subst hcd
      rw [List.getElem?_set_self hlt] at hd
      have hkj : k + 1 = j := Option.some.inj hd
      subst hkj
      refine ⟨by omega, .inr ⟨r, ?_⟩⟩
      rw [findL_note, if_pos rfl]
    · rw [List.getElem?_set_ne hcd] at hd
      rw [findL_note, if_neg (by show ¬ (c : Int) = d; omega)]
      exact h.ids d j hd
end Go.Proofs.Ytlgjidoehnhnoaa
