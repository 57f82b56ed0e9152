/-
  A member's log, plainly: which entries may be, what a log is and how it turns. No statement is proved here. No condition.
-/
import Derived.Test.YtackfigkhjdidaaMPlain
namespace Go.Proofs.Ytackfigkhjdidaa

/-- stores that rise from one on -/
def rising : Int → List Int → Bool
  | _, [] => true
  | last, s :: l => decide (last < s) && decide (s ≤ 5) && rising s l
def voters (l : List Int) : Bool := rising 0 l && !l.isEmpty
/-- an entry that may be -/
def EN.may (e : EN) : Bool :=
  decide (1 ≤ e.term ∧ e.term ≤ 2147483647) &&
    (if e.kind = 1 then decide (e.data.size = 0) && e.list.isEmpty
     else if e.kind = 2 then decide (e.data.size ≤ 256) && e.list.isEmpty
     else if e.kind = 3 then decide (e.data.size = 0) && voters e.list
     else false)
/-- entries may stand behind one of a term -/
def follows : Int → List EN → Bool
  | _, [] => true
  | t, e :: l => e.may && decide (t ≤ e.term) && follows e.term l
def isCnt (n : Int) : Bool := decide (0 ≤ n ∧ n ≤ 2147483647)
/-- why entries may not stand behind an index and its term -/
def refuse (index term : Int) (l : List EN) : Int :=
  if isCnt index && isCnt term && follows term l then (if (l.length : Int) > 2147483647 - index then 70 else 0) else 1
/-- a log -/
structure LG where
  base : Nat
  term : Int
  l : List EN
def LG.last (g : LG) : Nat := g.base + g.l.length
def lastTerm : Int → List EN → Int
  | t, [] => t
  | _, e :: l => lastTerm e.term l
def LG.lastT (g : LG) : Int := lastTerm g.term g.l
/-- the entry at an index -/
def LG.at (g : LG) (i : Int) : Option EN := if i ≤ g.base then none else g.l[(i - g.base - 1).toNat]?
/-- the term at an index -/
def LG.termAt (g : LG) (i : Int) : Option Int := if i = g.base then some g.term else (g.at i).map (·.term)
/-- where two logs part -/
def parts : List EN → List EN → Nat
  | a :: l, b :: m => if a.term = b.term then parts l m + 1 else 0
  | _, _ => 0
/-- entries put behind a place of the log's own -/
def LG.turnAt (g : LG) (ahead : Nat) (l : List EN) : (Int × Int) × LG :=
  let same := parts (g.l.drop ahead) l
  if same = l.length then ((0, 0), g)
  else (((g.base + ahead + same + 1 : Nat) : Int), 0) |> fun r => (r, { g with l := g.l.take (ahead + same) ++ l.drop same })
/-- entries merged behind an index -/
def LG.merge (g : LG) (prev term : Int) (l : List EN) : (Int × Int) × LG :=
  if refuse prev term l ≠ 0 then ((0, refuse prev term l), g)
  else if prev < g.base then
    (match l.drop (g.base - prev).toNat with
      | [] => ((0, 0), g)
      | e :: m => if e.term < g.term then ((0, 1), g) else g.turnAt 0 (e :: m))
  else if g.termAt prev = some term then g.turnAt (prev - g.base).toNat l
  else ((0, 50), g)
/-- a log cut at an index -/
def LG.cut (g : LG) (i : Int) : LG := { base := i.toNat, term := (g.termAt i).getD 0, l := g.l.drop (i - g.base).toNat }

theorem lastTerm_snoc (t : Int) (l : List EN) (e : EN) : lastTerm t (l ++ [e]) = e.term := by
  induction l generalizing t with
  | nil => rfl
  | cons a l ih => exact ih a.term
theorem lastTerm_get (t : Int) (l : List EN) : lastTerm t l = ((l[l.length - 1]?).map (·.term)).getD t := by
  rw [← List.getLast?_eq_getElem?]
  induction l generalizing t with
  | nil => rfl
  | cons a l ih =>
    show lastTerm a.term l = _
    rw [ih a.term, List.getLast?_cons]
    cases l.getLast? <;> rfl
theorem rising_snoc : ∀ (l : List Int) (t s : Int), rising t (l ++ [s]) = (rising t l && decide ((l.getLast?.getD t) < s) && decide (s ≤ 5))
  | [], t, s => by simp only [List.nil_append, rising, List.getLast?_nil, Option.getD_none, Bool.and_true, Bool.true_and]; rfl
  | a :: l, t, s => by
    show (decide (t < a) && decide (a ≤ 5) && rising a (l ++ [s])) = _
    rw [rising_snoc l a s]
    have e : ((a :: l).getLast?).getD t = (l.getLast?).getD a := by cases l <;> simp [List.getLast?_cons]
    rw [e]
    simp only [rising, Bool.and_assoc]
/-- a beginning that does not rise: the whole does not -/
theorem rising_take {l : List Int} {t : Int} {i : Nat} (h : rising t (l.take i) = false) : rising t l = false := by
  induction l generalizing t i with
  | nil => simpa using h
  | cons a l ih =>
    cases i with
    | zero => simp [rising] at h
    | succ i =>
      simp only [List.take_succ_cons, rising] at h ⊢
      rcases Bool.and_eq_false_iff.1 h with h1 | h1
      · rw [h1, Bool.false_and]
      · rw [ih h1, Bool.and_false]
theorem follows_snoc : ∀ (l : List EN) (t : Int) (e : EN), follows t (l ++ [e]) = (follows t l && e.may && decide (lastTerm t l ≤ e.term))
  | [], t, e => by simp only [List.nil_append, follows, lastTerm, Bool.and_true, Bool.true_and]; rfl
  | a :: l, t, e => by
    show (a.may && decide (t ≤ a.term) && follows a.term (l ++ [e])) = _
    rw [follows_snoc l a.term e]
    show _ = ((a.may && decide (t ≤ a.term) && follows a.term l) && e.may && decide (lastTerm a.term l ≤ e.term))
    cases a.may <;> cases decide (t ≤ a.term) <;> simp only [Bool.and_assoc, Bool.true_and, Bool.false_and]
theorem follows_take {l : List EN} {t : Int} {i : Nat} (h : follows t (l.take i) = false) : follows t l = false := by
  induction l generalizing t i with
  | nil => simpa using h
  | cons a l ih =>
    cases i with
    | zero => simp [follows] at h
    | succ i =>
      simp only [List.take_succ_cons, follows] at h ⊢
      rcases Bool.and_eq_false_iff.1 h with h1 | h1
      · rw [h1, Bool.false_and]
      · rw [ih h1, Bool.and_false]
theorem EN.may_term {e : EN} (h : e.may = true) : 1 ≤ e.term ∧ e.term ≤ 2147483647 := by
  unfold EN.may at h
  simp only [Bool.and_eq_true, decide_eq_true_eq] at h
  exact h.1
theorem rising_len : ∀ (l : List Int) (t : Int), 0 ≤ t → rising t l = true → (l.length : Int) ≤ 5 - min t 5
  | [], t, h0, _ => by simp; omega
  | a :: l, t, h0, h => by
    simp only [rising, Bool.and_eq_true, decide_eq_true_eq] at h
    have := rising_len l a (by omega) h.2
    simp only [List.length_cons]
    omega
theorem EN.may_list {e : EN} (h : e.may = true) : e.list.length ≤ 5 ∧ ∀ n ∈ e.list, 1 ≤ n ∧ n ≤ 5 := by
  unfold EN.may at h
  simp only [Bool.and_eq_true] at h
  have h := h.2
  have nil : e.list.isEmpty = true → e.list.length ≤ 5 ∧ ∀ n ∈ e.list, 1 ≤ n ∧ n ≤ 5 := fun hn => by
    have := List.isEmpty_iff.1 hn
    rw [this]
    simp
  have mem : ∀ (l : List Int) (t : Int), 0 ≤ t → rising t l = true → ∀ n ∈ l, 1 ≤ n ∧ n ≤ 5 := by
    intro l
    induction l with
    | nil => intro t _ _ n hn; simp at hn
    | cons a l ih =>
      intro t h0 h n hn
      simp only [rising, Bool.and_eq_true, decide_eq_true_eq] at h
      rcases List.mem_cons.1 hn with rfl | hn
      · omega
      · exact ih a (by omega) h.2 n hn
  split at h
  · exact nil (by simp only [Bool.and_eq_true] at h; exact h.2)
  · split at h
    · exact nil (by simp only [Bool.and_eq_true] at h; exact h.2)
    · split at h
      · simp only [Bool.and_eq_true, voters] at h
        have h1 := rising_len e.list 0 (by omega) h.2.1
        refine ⟨by omega, mem e.list 0 (by omega) h.2.1⟩
      · cases h
theorem EN.may_kind {e : EN} (h : e.may = true) : 1 ≤ e.kind ∧ e.kind ≤ 3 := by
  unfold EN.may at h
  simp only [Bool.and_eq_true] at h
  have h := h.2
  split at h
  · omega
  · split at h
    · omega
    · split at h
      · omega
      · cases h
theorem EN.may_data {e : EN} (h : e.may = true) : e.data.size ≤ 256 := by
  unfold EN.may at h
  simp only [Bool.and_eq_true] at h
  have h := h.2
  split at h
  · simp only [Bool.and_eq_true, decide_eq_true_eq] at h; omega
  · split at h
    · simp only [Bool.and_eq_true, decide_eq_true_eq] at h; omega
    · split at h
      · simp only [Bool.and_eq_true, decide_eq_true_eq] at h; omega
      · cases h
theorem follows_all {l : List EN} : ∀ {t : Int}, follows t l = true → ∀ e ∈ l, e.may = true ∧ t ≤ e.term := by
  induction l with
  | nil => intro t _ e he; simp at he
  | cons a l ih =>
    intro t h e he
    simp only [follows, Bool.and_eq_true, decide_eq_true_eq] at h
    rcases List.mem_cons.1 he with rfl | he
    · exact ⟨h.1.1, h.1.2⟩
    · have := ih h.2 e he
      exact ⟨this.1, by omega⟩
theorem parts_le : ∀ (l m : List EN), parts l m ≤ m.length ∧ parts l m ≤ l.length
  | a :: l, b :: m => by
    have := parts_le l m
    unfold parts
    split
    · simp only [List.length_cons]; omega
    · exact ⟨Nat.zero_le _, Nat.zero_le _⟩
  | [], m => by unfold parts; exact ⟨Nat.zero_le _, Nat.zero_le _⟩
  | a :: l, [] => by unfold parts; exact ⟨Nat.zero_le _, Nat.zero_le _⟩
/-- the first place that is not alike is where they part -/
theorem parts_stop : ∀ (l m : List EN) (i : Nat), i ≤ m.length → (∀ j < i, ∃ a b, l[j]? = some a ∧ m[j]? = some b ∧ a.term = b.term) → (i = m.length ∨ ∀ a b, l[i]? = some a → m[i]? = some b → a.term ≠ b.term) → parts l m = i
  | l, m, 0, _, _, h => by
    cases l with
    | nil => cases m <;> rfl
    | cons a l =>
      cases m with
      | nil => rfl
      | cons b m =>
        unfold parts
        rcases h with h | h
        · simp at h
        · rw [if_neg (h a b rfl rfl)]
  | l, m, i + 1, hm, hj, h => by
    cases l with
    | nil => obtain ⟨a, b, h1, -⟩ := hj 0 (by omega); simp at h1
    | cons a l =>
      cases m with
      | nil => simp at hm
      | cons b m =>
        obtain ⟨a', b', h1, h2, h3⟩ := hj 0 (by omega)
        simp only [List.getElem?_cons_zero, Option.some.injEq] at h1 h2
        subst h1 h2
        unfold parts
        rw [if_pos h3, parts_stop l m i (by simpa using hm) (fun j hj' => by have := hj (j + 1) (by omega); simpa using this) (by
          rcases h with h | h
          · exact .inl (by simpa using h)
          · exact .inr fun a b ha hb => h a b (by simpa using ha) (by simpa using hb))]
end Go.Proofs.Ytackfigkhjdidaa
