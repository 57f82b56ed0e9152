/-
  Packets under way, plainly. No statement is proved here. No condition.
-/
import Derived.Test.YtclfhidapkoiiaaRecs
namespace Go.Proofs.Ytclfhidapkoiiaa
open Go.RowKit

/-- a packet -/
structure PK where
  frm : Int
  dst : Int
  data : ByteArray
deriving DecidableEq
def PK.agg (p : PK) : Value := .agg #[.int .i64 p.frm, .int .i64 p.dst, .string p.data]
def zK : PK := ⟨0, 0, ⟨#[]⟩⟩
/-- packets in memory, the program's and the document's -/
def pkR : Rec PK where
  vals p := [.int .i64 p.frm, .int .i64 p.dst, .string p.data]
  size := 3
  len _ := rfl
  one p u hu := by simp at hu; rcases hu with rfl | rfl | rfl <;> rfl
/-- a net -/
structure NT where
  most : Nat
  lost : Nat
  row : List PK
def NT.new (most : Nat) : NT := ⟨most, 0, []⟩
def newErr (most : Int) : Int := if most < 0 ∨ 1000 < most then 1 else 0
/-- one more, last: the net behind it, and what is told -/
def NT.add (n : NT) (p : PK) : NT × Int := if n.most ≤ n.row.length then ({ n with lost := n.lost + 1 }, 3) else ({ n with row := n.row ++ [p] }, 0)
def NT.send (n : NT) (p : PK) : NT × Int := if 400 < p.data.size then (n, 40) else n.add p
def NT.at? (n : NT) (i : Int) : Option PK := if 0 ≤ i then n.row[i.toNat]? else none
def NT.take (n : NT) (i : Int) : NT × Option PK := match n.at? i with
  | none => (n, none)
  | some p => ({ n with row := n.row.eraseIdx i.toNat }, some p)
def NT.double (n : NT) (i : Int) : NT × Int := match n.at? i with
  | none => (n, 1)
  | some p => n.add p
/-- a net that may be, behind k steps -/
structure NT.ok (n : NT) (k : Nat) : Prop where
  most : n.most ≤ 1000
  row : n.row.length ≤ n.most
  lost : n.lost ≤ k
theorem NT.new_ok {m : Nat} (h : m ≤ 1000) : (NT.new m).ok 0 := ⟨h, Nat.zero_le _, Nat.le_refl _⟩
theorem NT.ok.mono {n : NT} {k j : Nat} (h : n.ok k) (hj : k ≤ j) : n.ok j := ⟨h.most, h.row, Nat.le_trans h.lost hj⟩
theorem NT.ok.add {n : NT} {k : Nat} (h : n.ok k) (p : PK) : (n.add p).1.ok (k + 1) := by
  unfold NT.add
  split
  · exact ⟨h.most, h.row, Nat.succ_le_succ h.lost⟩
  · rename_i hr
    exact ⟨h.most, by show (n.row ++ [p]).length ≤ n.most; rw [List.length_append]; simp; omega, Nat.le_succ_of_le h.lost⟩
theorem NT.ok.send {n : NT} {k : Nat} (h : n.ok k) (p : PK) : (n.send p).1.ok (k + 1) := by
  unfold NT.send
  split
  · exact h.mono (Nat.le_succ _)
  · exact h.add p
theorem NT.ok.double {n : NT} {k : Nat} (h : n.ok k) (i : Int) : (n.double i).1.ok (k + 1) := by
  unfold NT.double
  split
  · exact h.mono (Nat.le_succ _)
  · exact h.add _
theorem NT.ok.take {n : NT} {k : Nat} (h : n.ok k) (i : Int) : (n.take i).1.ok (k + 1) := by
  unfold NT.take
  split
  · exact h.mono (Nat.le_succ _)
  · exact ⟨h.most, Nat.le_trans (List.length_eraseIdx_le _ _) h.row, Nat.le_succ_of_le h.lost⟩
theorem NT.at_lt {n : NT} {i : Int} {p : PK} (h : n.at? i = some p) : 0 ≤ i ∧ i.toNat < n.row.length ∧ n.row[i.toNat]? = some p := by
  unfold NT.at? at h
  split at h
  · rename_i h0
    exact ⟨h0, (List.getElem?_eq_some_iff.1 h).1, h⟩
  · cases h
theorem NT.at_none {n : NT} {i : Int} : n.at? i = none ↔ i < 0 ∨ (n.row.length : Int) ≤ i := by
  unfold NT.at?
  split
  · rename_i h0
    rw [List.getElem?_eq_none_iff]
    omega
  · rename_i h0
    simp
    omega
/-- a row without its place i, as two halves -/
theorem erase_halves {α : Type} (l : List α) {i : Nat} (h : i < l.length) : l.eraseIdx i = l.take i ++ l.drop (i + 1) := List.eraseIdx_eq_take_drop_succ l i
/-- always the first one -/
theorem NT.take_first (n : NT) : n.take 0 = match n.row with
    | [] => (n, none)
    | p :: l => ({ n with row := l }, some p) := by
  unfold NT.take NT.at?
  cases h : n.row with
  | nil => rfl
  | cons p l => rfl
/-- how many of a packet are under way -/
def cntK (p : PK) (l : List PK) : Nat := (l.filter fun q => decide (q = p)).length
theorem cntK_append (p : PK) (a b : List PK) : cntK p (a ++ b) = cntK p a + cntK p b := by unfold cntK; rw [List.filter_append, List.length_append]
theorem cntK_one (p q : PK) : cntK p [q] = if q = p then 1 else 0 := by
  unfold cntK
  by_cases h : q = p
  · simp [h]
  · simp [h]
theorem cntK_erase (p : PK) {l : List PK} {i : Nat} {q : PK} (h : l[i]? = some q) : cntK p (l.eraseIdx i) + (if q = p then 1 else 0) = cntK p l := by
  obtain ⟨hi, he⟩ := List.getElem?_eq_some_iff.1 h
  have h1 : l = l.take i ++ [q] ++ l.drop (i + 1) := by
    have h2 : l.take (i + 1) = l.take i ++ [q] := by rw [List.take_add_one, h]; rfl
    rw [← h2, List.take_append_drop]
  rw [erase_halves l hi, cntK_append]
  conv => rhs; rw [h1]
  rw [cntK_append, cntK_append, cntK_one]
  omega
/-- what is told of one that is taken: as many as there were, less one -/
theorem NT.take_cnt {n : NT} {i : Int} {q : PK} (h : (n.take i).2 = some q) (p : PK) : cntK p (n.take i).1.row + (if q = p then 1 else 0) = cntK p n.row ∧ (n.take i).1.row.length + 1 = n.row.length := by
  unfold NT.take at h ⊢
  cases ha : n.at? i with
  | none => rw [ha] at h; cases h
  | some x =>
    rw [ha] at h
    have hx : x = q := Option.some.inj h
    subst hx
    obtain ⟨-, hl, hg⟩ := NT.at_lt ha
    exact ⟨cntK_erase p hg, by show (n.row.eraseIdx i.toNat).length + 1 = _; rw [List.length_eraseIdx_of_lt hl]; omega⟩
theorem NT.take_none {n : NT} {i : Int} (h : (n.take i).2 = none) : (n.take i).1 = n := by
  unfold NT.take at h ⊢
  cases ha : n.at? i with
  | none => rfl
  | some x => rw [ha] at h; cases h
theorem NT.add_yes {n : NT} {q : PK} (h : (n.add q).2 = 0) : (n.add q).1 = { n with row := n.row ++ [q] } := by
  unfold NT.add at h ⊢
  split
  · rename_i hr; rw [if_pos hr] at h; exact absurd h (show ¬ (3 : Int) = 0 by decide)
  · rfl
theorem NT.add_no {n : NT} {q : PK} (h : (n.add q).2 ≠ 0) : (n.add q).1.row = n.row := by
  unfold NT.add at h ⊢
  split
  · rfl
  · rename_i hr; rw [if_neg hr] at h; exact absurd rfl h
/-- the first one is always what was sent first, of those that are left -/
theorem first_sent {sent : List PK} {a : Nat} {n : NT} (h : n.row = sent.drop a) : (n.take 0).2 = sent[a]? ∧ (∀ x, sent[a]? = some x → (n.take 0).1.row = sent.drop (a + 1)) := by
  rw [NT.take_first]
  cases hd : sent.drop a with
  | nil =>
    rw [hd] at h
    have hl : sent.length ≤ a := by
      have := congrArg List.length hd
      rw [List.length_drop] at this
      simp at this
      omega
    rw [h, List.getElem?_eq_none_iff.2 hl]
    exact ⟨rfl, fun x hx => by cases hx⟩
  | cons p l =>
    rw [hd] at h
    rw [h]
    have h1 : sent[a]? = some p := by
      have := congrArg (fun l => l[0]?) hd
      rw [List.getElem?_drop] at this
      simpa using this
    have h2 : sent.drop (a + 1) = l := by
      have := congrArg (List.drop 1) hd
      rw [List.drop_drop] at this
      simpa [Nat.add_comm] using this
    exact ⟨h1.symm, fun x _ => h2.symm⟩
end Go.Proofs.Ytclfhidapkoiiaa
