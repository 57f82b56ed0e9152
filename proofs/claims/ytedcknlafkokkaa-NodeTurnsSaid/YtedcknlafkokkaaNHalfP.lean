/-
  What is cut is joined, the halves may be, and stand where they belong: plainly. No program in sight. No condition.
-/
import Derived.Test.YtedcknlafkokkaaNCutW
import Derived.Test.YtedcknlafkokkaaNAwakeP
import Derived.Test.YtedcknlafkokkaaNFind
namespace Go.Proofs.Ytedcknlafkokkaa
open Go.RowKit

def PN.join (a : PN) (s : ByteArray) (b : PN) : PN :=
  if a.leaf then ⟨true, a.cells ++ b.cells, []⟩ else ⟨false, a.cells ++ ⟨s, ⟨#[]⟩, 0, 0⟩ :: b.cells, a.kids ++ b.kids⟩
theorem may_kids {n : PN} (h : n.may) : n.leaf = true → n.kids = [] := fun hl => by
  have := h.2.2
  rw [hl] at this
  exact List.eq_nil_of_length_eq_zero this
theorem may_cell {n : PN} (h : n.may) {i : Nat} {c : PC} (hc : n.cells[i]? = some c) : c.ok n.leaf := (h.1 i c (List.getElem?_eq_some_iff.1 hc).1 hc).1
/-- a branch's cell is its key -/
theorem branch_cell {c : PC} (h : c.ok false) : (⟨c.key, ⟨#[]⟩, 0, 0⟩ : PC) = c := by
  obtain ⟨key, val, long, size⟩ := c
  obtain ⟨-, h2⟩ := h
  simp only [Bool.false_eq_true, ↓reduceIte] at h2
  obtain ⟨hv, rfl, rfl⟩ := h2
  rw [bytes_empty hv]
theorem split_at {l : List PC} {i : Nat} {c : PC} (h : l[i]? = some c) : l.take i ++ c :: l.drop (i + 1) = l := by
  obtain ⟨hi, rfl⟩ := List.getElem?_eq_some_iff.1 h
  rw [← List.drop_eq_getElem_cons hi, List.take_append_drop]
/-- what is cut is joined -/
theorem join_halves {n : PN} (h : n.may) {i : Nat} {c : PC} (hc : n.cells[i]? = some c) : PN.join (n.first i) c.key (n.second i) = n := by
  have hk := may_kids h
  have hcell := may_cell h hc
  obtain ⟨leaf, cells, kids⟩ := n
  cases leaf with
  | true =>
    have : kids = [] := hk rfl
    subst this
    simp [PN.join, PN.first, PN.second]
  | false =>
    simp only [PN.join, PN.first, PN.second, Bool.false_eq_true, ↓reduceIte]
    rw [branch_cell hcell, split_at hc, List.take_append_drop]
/-- keys stand in order -/
theorem keys_lt {n : PN} (h : n.may) : ∀ {j i : Nat} {c d : PC}, i < j → n.cells[i]? = some c → n.cells[j]? = some d → kLt c.key d.key = true := by
  intro j
  induction j with
  | zero => intro i c d hij; exact absurd hij (by omega)
  | succ j ih =>
    intro i c d hij hc hd
    have hj := (List.getElem?_eq_some_iff.1 hd).1
    have hp := List.getElem?_eq_getElem (l := n.cells) (i := j) (by omega)
    have h1 := (h.1 (j + 1) d hj hd).2 _ (by omega) hp
    by_cases e : i = j
    · subst e
      rw [hc] at hp
      injection hp with hp
      rw [hp]
      exact h1
    · exact less_trans (ih (by omega) hc hp) h1
theorem may_part {leaf : Bool} {l : List PC} {ks : List Int} (h1 : ∀ c ∈ l, c.ok leaf) (h2 : ∀ i c d, l[i]? = some c → l[i + 1]? = some d → kLt c.key d.key = true) (h3 : ∀ k ∈ ks, isCnt k 0 = true)
    (h4 : if leaf then ks.length = 0 else ks.length = l.length + 1) : PN.may ⟨leaf, l, ks⟩ := by
  refine ⟨fun j c hj hc => ⟨h1 c (List.mem_of_getElem? hc), fun p h0 hp => ?_⟩, h3, h4⟩
  obtain ⟨k, rfl⟩ : ∃ k, j = k + 1 := ⟨j - 1, by omega⟩
  exact h2 k p c hp hc
theorem first_may {n : PN} (h : n.may) {i : Nat} (hi : i < n.cells.length) : (n.first i).may := by
  have hlt := @keys_lt n h
  have hok := @may_cell n h
  obtain ⟨leaf, cells, kids⟩ := n
  obtain ⟨-, h2, h3⟩ := h
  dsimp only at hi hlt hok h2 h3
  have a1 : ∀ c ∈ cells.take i, c.ok leaf := fun c hc => by
    obtain ⟨j, hj⟩ := List.getElem?_of_mem (List.mem_of_mem_take hc)
    exact hok hj
  have a2 : ∀ j c d, (cells.take i)[j]? = some c → (cells.take i)[j + 1]? = some d → kLt c.key d.key = true := fun j c d hc hd => by
    rw [List.getElem?_take] at hc hd
    split at hd
    · rw [if_pos (by omega)] at hc
      exact hlt (by omega) hc hd
    · simp at hd
  cases leaf with
  | true => exact may_part a1 a2 (by simp) rfl
  | false =>
    simp only [Bool.false_eq_true, ↓reduceIte] at h3
    refine may_part a1 a2 (fun k hk => h2 k (List.mem_of_mem_take hk)) ?_
    simp only [Bool.false_eq_true, ↓reduceIte, List.length_take]
    omega
theorem second_may {n : PN} (h : n.may) {i : Nat} (hi : i < n.cells.length) : (n.second i).may := by
  have hlt := @keys_lt n h
  have hok := @may_cell n h
  obtain ⟨leaf, cells, kids⟩ := n
  obtain ⟨-, h2, h3⟩ := h
  dsimp only at hi hlt hok h2 h3
  have a1 : ∀ m, ∀ c ∈ cells.drop m, c.ok leaf := fun m c hc => by
    obtain ⟨j, hj⟩ := List.getElem?_of_mem (List.mem_of_mem_drop hc)
    exact hok hj
  have a2 : ∀ m, ∀ j c d, (cells.drop m)[j]? = some c → (cells.drop m)[j + 1]? = some d → kLt c.key d.key = true := fun m j c d hc hd => by
    rw [List.getElem?_drop] at hc hd
    exact hlt (by omega) hc hd
  cases leaf with
  | true => exact may_part (a1 _) (a2 _) (by simp) rfl
  | false =>
    simp only [Bool.false_eq_true, ↓reduceIte] at h3
    refine may_part (a1 _) (a2 _) (fun k hk => h2 k (List.mem_of_mem_drop hk)) ?_
    simp only [Bool.false_eq_true, ↓reduceIte, List.length_drop]
    omega
/-- the first half's keys are below the one between -/
theorem first_below {n : PN} (h : n.may) {i : Nat} {c d : PC} (hc : n.cells[i]? = some c) (hd : d ∈ (n.first i).cells) : kLt d.key c.key = true := by
  have e : (n.first i).cells = n.cells.take i := by unfold PN.first; split <;> rfl
  rw [e] at hd
  obtain ⟨j, hj⟩ := List.getElem?_of_mem hd
  rw [List.getElem?_take] at hj
  split at hj
  · rename_i hji
    exact keys_lt h hji hj hc
  · simp at hj
theorem less_asymm {x y : List UInt8} (h : Op.bytesLess x y = true) : Op.bytesLess y x = false := by
  cases e : Op.bytesLess y x with
  | false => rfl
  | true =>
    have := less_trans h e
    rw [less_irrefl] at this
    exact Bool.noConfusion this
/-- the second half's keys are not -/
theorem second_not {n : PN} (h : n.may) {i : Nat} {c d : PC} (hc : n.cells[i]? = some c) (hd : d ∈ (n.second i).cells) : kLt d.key c.key = false := by
  obtain ⟨m, hm, e⟩ : ∃ m, i ≤ m ∧ (n.second i).cells = n.cells.drop m := by
    unfold PN.second
    split
    · exact ⟨i, by omega, rfl⟩
    · exact ⟨i + 1, by omega, rfl⟩
  rw [e] at hd
  obtain ⟨j, hj⟩ := List.getElem?_of_mem hd
  rw [List.getElem?_drop] at hj
  by_cases hz : m + j = i
  · rw [hz, hc] at hj
    injection hj with hj
    rw [hj]
    exact less_irrefl _
  · exact less_asymm (keys_lt h (by omega) hc hj)
/-- Find finds each key at its place -/
theorem find_key {n : PN} (h : n.may) {i : Nat} {c : PC} (hc : n.cells[i]? = some c) : n.find c.key = (i, true) := by
  have hi := (List.getElem?_eq_some_iff.1 hc).1
  have go : ∀ k j, j + k = i → findAt c.key (n.cells.drop j) j = (i, true) := by
    intro k
    induction k with
    | zero =>
      intro j hj
      have : j = i := by omega
      subst this
      rw [findAt_step hc, if_pos (show kLt c.key c.key = false from less_irrefl _)]
      simp
    | succ k ih =>
      intro j hj
      have hd := List.getElem?_eq_getElem (l := n.cells) (i := j) (by omega)
      rw [findAt_step hd, if_neg (by rw [keys_lt h (by omega) hd hc]; decide)]
      exact ih (j + 1) (by omega)
  exact go i 0 (by omega)
/-! ### A leaf's halves are alike up to its greatest cell -/
theorem leaf_wt {l : List PC} (h : l.length < 128) : PN.wt ⟨true, l, []⟩ = 2 + tot (szC true) l := by
  rw [wt_eq _ (fun _ => rfl)]
  show 1 + (cnt (l.length : Int)).length + tot (szC true) l + tot szK [] = _
  rw [cnt_byte h]
  simp [tot]
theorem leaf_odd {n : PN} (hl : n.leaf = true) (hn : n.cells.length ≤ 100) (i : Nat) :
    n.odd i = max (2 * tot (szC true) (n.cells.take i) - tot (szC true) n.cells) (tot (szC true) n.cells - 2 * tot (szC true) (n.cells.take i)) := by
  have h1 : n.first i = ⟨true, n.cells.take i, []⟩ := by unfold PN.first; rw [hl]; rfl
  have h2 : n.second i = ⟨true, n.cells.drop i, []⟩ := by unfold PN.second; rw [hl]; rfl
  unfold PN.odd
  rw [h1, h2, leaf_wt (by rw [List.length_take]; omega), leaf_wt (by rw [List.length_drop]; omega)]
  have := tot_split (szC true) n.cells i
  omega
theorem place_least {n : PN} (hl : n.leaf = true) {i : Nat} (h1 : 1 ≤ i) (hi : i < n.cells.length) : n.odd n.place ≤ n.odd i := by
  have hf : n.from' = 1 := by unfold PN.from'; rw [hl]; rfl
  obtain ⟨ha, hb⟩ := best_least n.odd ((List.range n.cells.length).drop (n.from' + 1)) n.from'
  unfold PN.place
  by_cases e : i = 1
  · have e' : i = n.from' := by omega
    subst e'
    exact ha
  · refine hb i (List.mem_of_getElem? (i := i - 2) ?_)
    rw [List.getElem?_drop, hf, List.getElem?_range (by omega)]
    congr 1
    omega
theorem leaf_alike {n : PN} (hl : n.leaf = true) (h2 : 2 ≤ n.cells.length) (hn : n.cells.length ≤ 100) {B : Nat} (hB : ∀ c ∈ n.cells, szC true c ≤ B) : n.odd n.place ≤ B := by
  obtain ⟨T, hT⟩ : ∃ T, T = tot (szC true) n.cells := ⟨_, rfl⟩
  refine Classical.byContradiction fun hno => ?_
  have odd : ∀ i, 1 ≤ i → i < n.cells.length → B < 2 * tot (szC true) (n.cells.take i) - T ∨ B < T - 2 * tot (szC true) (n.cells.take i) := fun i h1 hi => by
    have h3 := place_least hl h1 hi
    have h4 := leaf_odd hl hn i
    rw [← hT] at h4
    omega
  have step : ∀ i, i < n.cells.length → tot (szC true) (n.cells.take (i + 1)) ≤ tot (szC true) (n.cells.take i) + B := fun i hi => by
    rw [take_succ_snoc (List.getElem?_eq_getElem hi), tot_snoc]
    have := hB _ (List.getElem_mem hi)
    omega
  have tle : ∀ i, tot (szC true) (n.cells.take i) ≤ T := fun i => by
    have := tot_split (szC true) n.cells i
    omega
  have low : ∀ i, 1 ≤ i → i < n.cells.length → 2 * tot (szC true) (n.cells.take i) + B < T := by
    intro i
    induction i with
    | zero => intro h; exact absurd h (by omega)
    | succ i ih =>
      intro _ hi
      have h3 := step i (by omega)
      have h5 := tle (i + 1)
      by_cases h0 : i = 0
      · subst h0
        have h4 : tot (szC true) (n.cells.take 0) = 0 := rfl
        rcases odd (0 + 1) (by omega) hi with h6 | h6 <;> omega
      · have h4 := ih (by omega) (by omega)
        rcases odd (i + 1) (by omega) hi with h6 | h6 <;> omega
  have h3 := low (n.cells.length - 1) (by omega) (by omega)
  have h4 := step (n.cells.length - 1) (by omega)
  rw [show n.cells.length - 1 + 1 = n.cells.length by omega, List.take_length, ← hT] at h4
  omega
end Go.Proofs.Ytedcknlafkokkaa
