/-
  Steps of the statements of package net, in memory. No statement is proved here. No condition.
-/
import Derived.Test.YtclfhidapkoiiaaKAwake
namespace Go.Proofs.Ytclfhidapkoiiaa
open Go.RowKit

/-- a step -/
structure PS where
  kind : Int
  frm : Int
  dst : Int
  data : ByteArray
  n : Int
  hk : 0 ≤ kind ∧ kind ≤ 255
  hd : data.size ≤ 140737488355328
  hf : (Lit.int .i64 frm).wf = true ∧ (Lit.int .i64 dst).wf = true
def psR : Rec PS where
  vals s := [.int .u8 s.kind, .int .i64 s.frm, .int .i64 s.dst, .string s.data, .int .i64 s.n]
  size := 5
  len _ := rfl
  one s u hu := by simp at hu; rcases hu with rfl | rfl | rfl | rfl | rfl <;> rfl
def PS.pk (s : PS) : PK := ⟨s.frm, s.dst, s.data⟩
theorem ps_cell {w : World} {N : Nat → Prop} {v : Value} {l : List PS} (h : psR.N w N v l) {i : Nat} {s : PS} (hi : l[i]? = some s) :
    ∃ b o n k, v = .slice (some ⟨b, o, none⟩) n k ∧ N b ∧ b < w.heap.size ∧ w.cell? ⟨b, o + i * 5, none⟩ = some (.int .u8 s.kind) ∧ w.cell? ⟨b, o + i * 5 + 1, none⟩ = some (.int .i64 s.frm) ∧ w.cell? ⟨b, o + i * 5 + 2, none⟩ = some (.int .i64 s.dst) ∧ w.cell? ⟨b, o + i * 5 + 3, none⟩ = some (.string s.data) ∧ w.cell? ⟨b, o + i * 5 + 4, none⟩ = some (.int .i64 s.n) := by
  obtain ⟨b, o, n, k, hv, hb, hs, hc⟩ := h.cell hi
  exact ⟨b, o, n, k, hv, hb, hs, hc 0 _ rfl, hc 1 _ rfl, hc 2 _ rfl, hc 3 _ rfl, hc 4 _ rfl⟩
/-- truth values -/
def bR : Rec Bool where
  vals b := [.bool b]
  size := 1
  len _ := rfl
  one b u hu := by simp at hu; subst hu; rfl
theorem bytes_of (bs : ByteArray) : (⟨bs.data.toList.toArray⟩ : ByteArray) = bs := by cases bs; simp
theorem NT.ok.take0 {n : NT} {k : Nat} (h : n.ok k) (i : Int) : (n.take i).1.ok k := by
  unfold NT.take
  split
  · exact h
  · exact ⟨h.most, Nat.le_trans (List.length_eraseIdx_le _ _) h.row, h.lost⟩
/-- what Send tells and does, said shortly -/
theorem NT.send_row (n : NT) (x : PK) : ((n.send x).2 = 0 ∧ (n.send x).1.row = n.row ++ [x]) ∨ ((n.send x).2 ≠ 0 ∧ (n.send x).1.row = n.row) := by
  unfold NT.send
  by_cases h : 400 < x.data.size
  · rw [if_pos h]; exact .inr ⟨show (40 : Int) ≠ 0 by decide, rfl⟩
  · rw [if_neg h]
    by_cases h2 : (n.add x).2 = 0
    · exact .inl ⟨h2, by rw [NT.add_yes h2]⟩
    · exact .inr ⟨h2, NT.add_no h2⟩
end Go.Proofs.Ytclfhidapkoiiaa
