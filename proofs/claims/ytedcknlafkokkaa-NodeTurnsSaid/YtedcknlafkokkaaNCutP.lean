/-
  Where a node is cut, plainly. No program in sight. No condition.
-/
import Derived.Test.YtedcknlafkokkaaNSums
namespace Go.Proofs.Ytedcknlafkokkaa
open Go.RowKit

/-- how many bytes a node has, as if it may be -/
def PN.wt (n : PN) : Nat := n.by.length
/-- by how many bytes the halves differ -/
def PN.odd (n : PN) (i : Nat) : Nat := max ((n.first i).wt - (n.second i).wt) ((n.second i).wt - (n.first i).wt)
/-- the lightest place from one on, below another one; the first of these -/
def best (f : Nat → Nat) (at' : Nat) : List Nat → Nat
  | [] => at'
  | i :: l => best f (if f i < f at' then i else at') l
def PN.from' (n : PN) : Nat := if n.leaf then 1 else 0
def PN.place (n : PN) : Nat := best n.odd n.from' ((List.range n.cells.length).drop (n.from' + 1))
theorem best_le (f : Nat → Nat) (m : Nat) : ∀ (l : List Nat) (a : Nat), a < m → (∀ i ∈ l, i < m) → best f a l < m := by
  intro l
  induction l with
  | nil => intro a ha _; exact ha
  | cons i l ih =>
    intro a ha hl
    unfold best
    split
    · exact ih i (hl i (by simp)) (fun j hj => hl j (by simp [hj]))
    · exact ih a ha (fun j hj => hl j (by simp [hj]))
theorem best_ge (f : Nat → Nat) (m : Nat) : ∀ (l : List Nat) (a : Nat), m ≤ a → (∀ i ∈ l, m ≤ i) → m ≤ best f a l := by
  intro l
  induction l with
  | nil => intro a ha _; exact ha
  | cons i l ih =>
    intro a ha hl
    unfold best
    split
    · exact ih i (hl i (by simp)) (fun j hj => hl j (by simp [hj]))
    · exact ih a ha (fun j hj => hl j (by simp [hj]))
theorem best_least (f : Nat → Nat) : ∀ (l : List Nat) (a : Nat), f (best f a l) ≤ f a ∧ ∀ i ∈ l, f (best f a l) ≤ f i := by
  intro l
  induction l with
  | nil => intro a; exact ⟨Nat.le_refl _, fun i hi => absurd hi (by simp)⟩
  | cons i l ih =>
    intro a
    unfold best
    split
    · rename_i h
      obtain ⟨h1, h2⟩ := ih i
      refine ⟨by omega, fun j hj => ?_⟩
      rcases List.mem_cons.1 hj with rfl | hj
      · exact h1
      · exact h2 j hj
    · rename_i h
      obtain ⟨h1, h2⟩ := ih a
      refine ⟨h1, fun j hj => ?_⟩
      rcases List.mem_cons.1 hj with rfl | hj
      · omega
      · exact h2 j hj
theorem drop_range {n i : Nat} (h : i < n) : (List.range n).drop i = i :: (List.range n).drop (i + 1) := by
  rw [List.drop_eq_getElem_cons (by simpa using h)]
  simp
theorem csBy_tot (leaf : Bool) (l : List PC) : (csBy leaf l).length = tot (szC leaf) l := by
  induction l with
  | nil => rfl
  | cons c l ih =>
    have e : csBy leaf (c :: l) = c.by leaf ++ csBy leaf l := rfl
    rw [e, List.length_append, ih]
    simp [tot, szC]
theorem ksBy_tot (l : List Int) : (ksBy l).length = tot szK l := by
  induction l with
  | nil => rfl
  | cons c l ih =>
    have e : ksBy (c :: l) = cnt c ++ ksBy l := rfl
    rw [e, List.length_append, ih]
    simp [tot, szK]
theorem wt_eq (m : PN) (hm : m.leaf = true → m.kids = []) : m.wt = 1 + (cnt (m.cells.length : Int)).length + tot (szC m.leaf) m.cells + tot szK m.kids := by
  unfold PN.wt PN.by fv
  cases h : m.leaf with
  | true => rw [hm h]; simp [csBy_tot, tot]; omega
  | false => simp [csBy_tot, ksBy_tot]; omega
structure Halved (n a b : PN) : Prop where
  la : a.leaf = n.leaf
  lb : b.leaf = n.leaf
  ka : a.leaf = true → a.kids = []
  kb : b.leaf = true → b.kids = []
  ca : a.cells = n.cells.take a.cells.length
  da : a.cells.length ≤ n.cells.length
  cb : b.cells = n.cells.drop (n.cells.length - b.cells.length)
  db : b.cells.length ≤ n.cells.length
  ha : a.kids = n.kids.take a.kids.length
  ia : a.kids.length ≤ n.kids.length
  hb : b.kids = n.kids.drop (n.kids.length - b.kids.length)
  ib : b.kids.length ≤ n.kids.length
theorem halved (n : PN) {i : Nat} (hi : i < n.cells.length) : Halved n (n.first i) (n.second i) := by
  unfold PN.first PN.second
  cases h : n.leaf with
  | true =>
    refine ⟨h.symm, h.symm, fun _ => rfl, fun _ => rfl, ?_, ?_, ?_, ?_, by simp, by simp, by simp, by simp⟩
    · show n.cells.take i = n.cells.take (n.cells.take i).length
      rw [List.length_take, Nat.min_eq_left (by omega)]
    · show (n.cells.take i).length ≤ _
      rw [List.length_take]; omega
    · show n.cells.drop i = n.cells.drop (n.cells.length - (n.cells.drop i).length)
      rw [List.length_drop]; congr 1; omega
    · show (n.cells.drop i).length ≤ _
      rw [List.length_drop]; omega
  | false =>
    refine ⟨h.symm, h.symm, fun h => Bool.noConfusion h, fun h => Bool.noConfusion h, ?_, ?_, ?_, ?_, ?_, ?_, ?_, ?_⟩
    · show n.cells.take i = n.cells.take (n.cells.take i).length
      rw [List.length_take, Nat.min_eq_left (by omega)]
    · show (n.cells.take i).length ≤ _
      rw [List.length_take]; omega
    · show n.cells.drop (i + 1) = n.cells.drop (n.cells.length - (n.cells.drop (i + 1)).length)
      rw [List.length_drop]; congr 1; omega
    · show (n.cells.drop (i + 1)).length ≤ _
      rw [List.length_drop]; omega
    · show n.kids.take (min (i + 1) n.kids.length) = n.kids.take (n.kids.take (min (i + 1) n.kids.length)).length
      rw [List.length_take]; congr 1; omega
    · show (n.kids.take (min (i + 1) n.kids.length)).length ≤ _
      rw [List.length_take]; omega
    · show n.kids.drop (min (i + 1) n.kids.length) = n.kids.drop (n.kids.length - (n.kids.drop (min (i + 1) n.kids.length)).length)
      rw [List.length_drop]; congr 1; omega
    · show (n.kids.drop (min (i + 1) n.kids.length)).length ≤ _
      rw [List.length_drop]; omega
theorem tot_last {α : Type} (f : α → Nat) (l : List α) {k : Nat} : (tot f l : Int) - (tot f (l.take (l.length - k)) : Int) = ((tot f (l.drop (l.length - k)) : Nat) : Int) := by
  have := tot_split f l (l.length - k)
  omega
theorem szC_le {leaf : Bool} {l : List PC} (h : ∀ c ∈ l, c.small) (hl : l.length ≤ 1000) : tot (szC leaf) l ≤ 21000000 := by
  have := tot_le (f := szC leaf) (m := 21000) (l := l) (fun x hx => PC.by_length leaf (h x hx))
  omega
theorem szK_le {l : List Int} (hl : l.length ≤ 1000) : tot szK l ≤ 10000 := by
  have := tot_le (f := szK) (m := 10) (l := l) (fun x _ => cnt_length x)
  omega
end Go.Proofs.Ytedcknlafkokkaa
