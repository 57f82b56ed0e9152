/-
  Voters and votes, plainly. No statement is proved here. No condition.
-/
import Derived.Test.YtblbcoknefgcaaaRows
namespace Go.Proofs.Ytblbcoknefgcaaa

/-- may a number be a store's -/
def isS (n : Int) : Bool := decide (1 ≤ n) && decide (n ≤ 5)
/-- the last of a list, or t -/
def lastI (t : Int) : List Int → Int
  | [] => t
  | v :: l => lastI v l
/-- rising stores, all above t -/
def rise (t : Int) : List Int → Bool
  | [] => true
  | v :: l => decide (t < v) && isS v && rise v l
/-- may voters be -/
def chk (l : List Int) : Bool := decide (0 < l.length) && rise 0 l
theorem lastI_snoc (t : Int) (l : List Int) (x : Int) : lastI t (l ++ [x]) = x := by
  induction l generalizing t with
  | nil => rfl
  | cons a l ih => exact ih a
theorem rise_snoc (t : Int) (l : List Int) (x : Int) : rise t (l ++ [x]) = (rise t l && (decide (lastI t l < x) && isS x)) := by
  induction l generalizing t with
  | nil => simp only [List.nil_append, rise, lastI, Bool.and_true, Bool.true_and]; rfl
  | cons a l ih => simp only [List.cons_append, rise, lastI, ih, Bool.and_assoc]; rfl
theorem rise_take {t : Int} {l : List Int} (h : rise t l = true) (k : Nat) : rise t (l.take k) = true := by
  induction l generalizing t k with
  | nil => simp [rise]
  | cons a l ih =>
    cases k with
    | zero => rfl
    | succ k =>
      simp only [List.take_succ_cons, rise, Bool.and_eq_true] at h ⊢
      exact ⟨h.1, ih h.2 k⟩
theorem take_snoc {α : Type} {l : List α} {k : Nat} {x : α} (h : l[k]? = some x) : l.take (k + 1) = l.take k ++ [x] := by
  rw [List.take_add_one, h]; rfl
theorem rise_stop {l : List Int} {k : Nat} {x : Int} (hx : l[k]? = some x) (h : (decide (lastI 0 (l.take k) < x) && isS x) = false) : rise 0 l = false := by
  cases hr : rise 0 l with
  | false => rfl
  | true =>
    have := rise_take hr (k + 1)
    rw [take_snoc hx, rise_snoc, h, Bool.and_false] at this
    cases this
/-- numbers, each once, but for those of S -/
def woS (S : List Int) (acc : List Int) (x : Int) : List Int := if (S.contains x || acc.contains x) = true then acc else acc ++ [x]
def wo (S l : List Int) : List Int := l.foldl (woS S) []
theorem wo_snoc (S l : List Int) (x : Int) : wo S (l ++ [x]) = woS S (wo S l) x := by unfold wo; rw [List.foldl_append]; rfl
theorem wo_take {S l : List Int} {k : Nat} {x : Int} (h : l[k]? = some x) : wo S (l.take (k + 1)) = woS S (wo S (l.take k)) x := by rw [take_snoc h, wo_snoc]
theorem wo_yes {S l : List Int} {k : Nat} {x : Int} (h : l[k]? = some x) (hc : (S.contains x || (wo S (l.take k)).contains x) = true) : wo S (l.take (k + 1)) = wo S (l.take k) := by rw [wo_take h]; unfold woS; rw [if_pos hc]
theorem wo_no {S l : List Int} {k : Nat} {x : Int} (h : l[k]? = some x) (hc : (S.contains x || (wo S (l.take k)).contains x) = false) : wo S (l.take (k + 1)) = wo S (l.take k) ++ [x] := by rw [wo_take h]; unfold woS; rw [if_neg (by rw [hc]; simp)]
theorem snoc_induction {P : List Int → Prop} (h0 : P []) (h1 : ∀ l x, P l → P (l ++ [x])) (l : List Int) : P l := by
  have : ∀ n, ∀ l : List Int, l.length = n → P l := fun n => by
    induction n with
    | zero => intro l hl; rw [List.eq_nil_of_length_eq_zero hl]; exact h0
    | succ n ih =>
      intro l hl
      have hne : l ≠ [] := fun e => by rw [e] at hl; cases hl
      rw [← List.dropLast_concat_getLast hne]
      exact h1 _ _ (ih _ (by rw [List.length_dropLast, hl]; rfl))
  exact this _ l rfl
theorem wo_len (S l : List Int) : (wo S l).length ≤ l.length := by
  induction l using snoc_induction with
  | h0 => exact Nat.le_refl _
  | h1 l x ih =>
    rw [wo_snoc, List.length_append]
    unfold woS
    split
    · exact Nat.le_trans ih (Nat.le_add_right _ _)
    · rw [List.length_append]; exact Nat.add_le_add_right ih _
theorem wo_mem (S l : List Int) (x : Int) : x ∈ wo S l ↔ x ∈ l ∧ x ∉ S := by
  induction l using snoc_induction with
  | h0 => simp [wo]
  | h1 l y ih =>
    rw [wo_snoc]
    unfold woS
    split
    · rename_i hc
      rw [ih]
      simp only [List.contains_eq_mem, Bool.or_eq_true, decide_eq_true_eq, List.mem_append, List.mem_singleton] at *
      constructor
      · exact fun h => ⟨.inl h.1, h.2⟩
      · rintro ⟨h1 | h1, h2⟩
        · exact ⟨h1, h2⟩
        · subst h1
          rcases hc with hc | hc
          · exact absurd hc h2
          · exact ⟨(ih.1 hc).1, h2⟩
    · rename_i hc
      simp only [List.contains_eq_mem, Bool.or_eq_true, decide_eq_true_eq, not_or, List.mem_append, List.mem_singleton, ih] at *
      constructor
      · rintro (h | h)
        · exact ⟨.inl h.1, h.2⟩
        · subst h; exact ⟨.inr rfl, hc.1⟩
      · rintro ⟨h1 | h1, h2⟩
        · exact .inl ⟨h1, h2⟩
        · exact .inr h1
theorem wo_nodup (S l : List Int) : (wo S l).Nodup := by
  induction l using snoc_induction with
  | h0 => exact List.nodup_nil
  | h1 l y ih =>
    rw [wo_snoc]
    unfold woS
    split
    · exact ih
    · rename_i hc
      simp only [List.contains_eq_mem, Bool.or_eq_true, decide_eq_true_eq, not_or] at hc
      rw [List.nodup_append]
      refine ⟨ih, by simp, fun a ha b hb => ?_⟩
      have hb := List.mem_singleton.1 hb
      subst hb
      exact fun e => hc.2 (e ▸ ha)
/-- those that others have not, of those that are there once -/
theorem wo_filter (S l : List Int) : wo S l = (wo [] l).filter fun x => !S.contains x := by
  induction l using snoc_induction with
  | h0 => rfl
  | h1 l y ih =>
    rw [wo_snoc, wo_snoc]
    unfold woS
    by_cases h1 : y ∈ l
    · have e1 : (wo [] l).contains y = true := by rw [List.contains_eq_mem]; simpa using (wo_mem [] l y).2 ⟨h1, by simp⟩
      rw [e1, if_pos (by simp : (([] : List Int).contains y || true) = true), ← ih]
      refine if_pos ?_
      by_cases h2 : y ∈ S
      · simp [List.contains_eq_mem, h2]
      · have : y ∈ wo S l := (wo_mem S l y).2 ⟨h1, h2⟩
        simp [List.contains_eq_mem, this]
    · have e1 : (wo [] l).contains y = false := by rw [List.contains_eq_mem]; simpa using fun h => h1 ((wo_mem [] l y).1 h).1
      rw [e1, if_neg (by simp : ¬ (([] : List Int).contains y || false) = true), List.filter_append, ← ih]
      have e2 : (wo S l).contains y = false := by rw [List.contains_eq_mem]; simpa using fun h => h1 ((wo_mem S l y).1 h).1
      rw [e2, Bool.or_false]
      by_cases h2 : y ∈ S
      · rw [if_pos (by simpa [List.contains_eq_mem] using h2)]
        simp [List.contains_eq_mem, h2]
      · rw [if_neg (by simpa [List.contains_eq_mem] using h2)]
        simp [List.contains_eq_mem, h2]
/-- how many of a list's numbers (each once) others have not -/
def lack (a b : List Int) : Nat := (wo b a).length
def near (a b : List Int) : Bool := decide (lack a b + lack b a ≤ 1)
def majority (n : Nat) : Nat := n / 2 + 1
def won (voters votes : List Int) : Bool := decide (majority (wo [] voters).length ≤ (wo [] voters).length - lack voters votes)
/-- Turn's numbers, and its error -/
def turnL (l : List Int) (s : Int) : List Int := [1, 2, 3, 4, 5].filter fun v => l.contains v != (v == s)
def turnE (l : List Int) (s : Int) : Int := if (chk l && isS s) = true then (if turnL l s = [] then 50 else 0) else 1
def turnO (l : List Int) (s : Int) : List Int := if (chk l && isS s) = true then turnL l s else []
theorem rise_bound {t : Int} {l : List Int} (h : rise t l = true) : (∀ x ∈ l, t < x ∧ 1 ≤ x ∧ x ≤ 5) := by
  induction l generalizing t with
  | nil => simp
  | cons a l ih =>
    simp only [rise, isS, Bool.and_eq_true, decide_eq_true_eq] at h
    intro x hx
    rcases List.mem_cons.1 hx with rfl | hx
    · exact ⟨h.1.1, h.1.2⟩
    · have := ih h.2 x hx
      omega
theorem rise_sorted {t : Int} {l : List Int} (h : rise t l = true) : l.Pairwise (· < ·) := by
  induction l generalizing t with
  | nil => exact .nil
  | cons a l ih =>
    have h' := h
    simp only [rise, isS, Bool.and_eq_true, decide_eq_true_eq] at h
    exact .cons (fun x hx => (rise_bound h.2 x hx).1) (ih h.2)
/-- what rises is what is picked of 1 to 5 -/
theorem rise_pick {l : List Int} (h : rise 0 l = true) : l = [1, 2, 3, 4, 5].filter fun v => l.contains v := by
  have hs := rise_sorted h
  have hb := rise_bound h
  refine List.Perm.eq_of_pairwise (le := fun a b => a < b) (fun a b _ _ h1 h2 => by omega) hs ?_ ?_
  · exact List.Pairwise.filter _ (by decide)
  · rw [List.perm_ext_iff_of_nodup (hs.imp (fun h => Int.ne_of_lt h)) (List.filter_sublist.nodup (by decide))]
    intro a
    rw [List.mem_filter, List.contains_eq_mem]
    constructor
    · intro ha
      have := hb a ha
      refine ⟨?_, by simpa using ha⟩
      have : a = 1 ∨ a = 2 ∨ a = 3 ∨ a = 4 ∨ a = 5 := by omega
      simpa using this
    · exact fun ha => by simpa using ha.2
theorem chk_len {l : List Int} (h : chk l = true) : 0 < l.length ∧ l.length ≤ 5 ∧ rise 0 l = true := by
  simp only [chk, Bool.and_eq_true, decide_eq_true_eq] at h
  refine ⟨h.1, ?_, h.2⟩
  rw [rise_pick h.2]
  exact Nat.le_trans (List.length_filter_le _ _) (by decide)
theorem once_has (b : List Int) (x : Int) : (wo [] b).contains x = b.contains x := by
  rw [Bool.eq_iff_iff, List.contains_eq_mem, List.contains_eq_mem]
  simp only [decide_eq_true_eq, wo_mem]
  simp
theorem lack_count (a b : List Int) : ((wo [] a).filter fun x => !(wo [] b).contains x).length = lack a b := by
  unfold lack
  rw [wo_filter b a]
  congr 2
  funext x
  rw [once_has]
theorem filter_snoc {l : List Int} {k : Nat} {x : Int} (p : Int → Bool) (h : l[k]? = some x) : ((l.take (k + 1)).filter p).length = ((l.take k).filter p).length + (if p x = true then 1 else 0) := by
  rw [take_snoc h, List.filter_append, List.length_append]
  cases hp : p x <;> simp [hp]
/-- the voters that rise, all of them -/
def allV : List (List Int) := ([[], [1]] : List (List Int)).flatMap fun a => ([[], [2]] : List (List Int)).flatMap fun b => ([[], [3]] : List (List Int)).flatMap fun c => ([[], [4]] : List (List Int)).flatMap fun d => ([[], [5]] : List (List Int)).map fun e => a ++ b ++ c ++ d ++ e
theorem rise_all {l : List Int} (h : rise 0 l = true) : l ∈ allV := by
  have e := rise_pick h
  simp only [List.filter] at e
  generalize l.contains 1 = b1 at e
  generalize l.contains 2 = b2 at e
  generalize l.contains 3 = b3 at e
  generalize l.contains 4 = b4 at e
  generalize l.contains 5 = b5 at e
  subst e
  cases b1 <;> cases b2 <;> cases b3 <;> cases b4 <;> cases b5 <;> decide
/-- where a store is, or would be -/
def place (l : List Int) (s : Int) : Nat := (l.filter fun x => decide (x < s)).length
theorem turn_ins_all : ∀ l ∈ allV, ∀ s ∈ ([1, 2, 3, 4, 5] : List Int), l.contains s = false → l.take (place l s) ++ s :: l.drop (place l s) = turnL l s ∧ turnL l s ≠ [] := by decide
theorem turn_del_all : ∀ l ∈ allV, ∀ s ∈ ([1, 2, 3, 4, 5] : List Int), l.contains s = true → l.take (place l s) ++ l.drop (place l s + 1) = turnL l s ∧ (turnL l s = [] ↔ l.length = 1) := by decide
theorem isS_mem {s : Int} (h : isS s = true) : s ∈ ([1, 2, 3, 4, 5] : List Int) := by
  simp only [isS, Bool.and_eq_true, decide_eq_true_eq] at h
  have : s = 1 ∨ s = 2 ∨ s = 3 ∨ s = 4 ∨ s = 5 := by omega
  simpa using this
theorem place_le (l : List Int) (s : Int) : place l s ≤ l.length := List.length_filter_le _ _
/-- what lies ahead of the place is less -/
theorem place_iff {l : List Int} (h : l.Pairwise (· < ·)) {s x : Int} {k : Nat} (hx : l[k]? = some x) : x < s ↔ k < place l s := by
  induction l generalizing k with
  | nil => simp at hx
  | cons a l ih =>
    have h2 := List.pairwise_cons.1 h
    by_cases ha : a < s
    · have e : place (a :: l) s = place l s + 1 := by unfold place; rw [List.filter_cons_of_pos (by simpa using ha)]; rfl
      rw [e]
      cases k with
      | zero => simp at hx; subst hx; exact ⟨fun _ => Nat.succ_pos _, fun _ => ha⟩
      | succ k =>
        rw [List.getElem?_cons_succ] at hx
        rw [ih h2.2 hx]
        omega
    · have e : place (a :: l) s = 0 := by
        unfold place
        rw [List.filter_cons_of_neg (by simpa using ha), List.length_eq_zero_iff, List.filter_eq_nil_iff]
        intro y hy
        have := h2.1 y hy
        simp
        omega
      rw [e]
      constructor
      · intro hlt
        cases k with
        | zero => simp at hx; omega
        | succ k =>
          rw [List.getElem?_cons_succ] at hx
          have := h2.1 x (List.mem_of_getElem? hx)
          omega
      · exact fun h => absurd h (Nat.not_lt_zero _)
theorem place_none {l : List Int} (h : l.Pairwise (· < ·)) {s : Int} (hp : place l s = l.length) : l.contains s = false := by
  rw [List.contains_eq_mem]
  simp only [decide_eq_false_iff_not]
  intro hm
  obtain ⟨k, hk⟩ := List.mem_iff_getElem?.1 hm
  have := (List.getElem?_eq_some_iff.1 hk).1
  have := (place_iff h (s := s) hk).2 (by omega)
  omega
theorem place_found {l : List Int} (h : l.Pairwise (· < ·)) {s x : Int} (hx : l[place l s]? = some x) : l.contains s = (x == s) := by
  rw [Bool.eq_iff_iff, List.contains_eq_mem]
  simp only [decide_eq_true_eq, beq_iff_eq]
  have h1 := (not_congr (place_iff h (s := s) hx)).2 (Nat.lt_irrefl _)
  constructor
  · intro hm
    obtain ⟨k, hk⟩ := List.mem_iff_getElem?.1 hm
    have h2 := (not_congr (place_iff h (s := s) hk)).1 (Int.lt_irrefl _)
    apply Classical.byContradiction
    intro hne
    have hgt : s < x := by omega
    by_cases he : k = place l s
    · rw [he, hx] at hk; injection hk with hk; exact hne hk
    · have hlk : k < l.length := (List.getElem?_eq_some_iff.1 hk).1
      have := List.pairwise_iff_getElem.1 h (place l s) k (List.getElem?_eq_some_iff.1 hx).1 hlk (by omega)
      rw [(List.getElem?_eq_some_iff.1 hx).2, (List.getElem?_eq_some_iff.1 hk).2] at this
      omega
  · rintro rfl; exact List.mem_of_getElem? hx
end Go.Proofs.Ytblbcoknefgcaaa
