/-
  One cell of an owned row written; a row appended to a new literal. No statement is proved here. No condition.
-/
import Derived.Test.YtblbcoknefgcaaaBDel
namespace Go.Proofs.Ytblbcoknefgcaaa
open Go.RowKit

theorem lt_of_heap {w : World} {p : Nat} {o : Obj} (h : w.heap[p]? = some o) : p < w.heap.size := (Array.getElem?_eq_some_iff.1 h).1
section
variable {α : Type} {R : Rec α}
theorem Rec.row_poke {x y : α} {L : List α} {i j : Nat} {u : Value} (hx : L[i]? = some x) (hy : R.vals y = (R.vals x).set j u) (hj : j < R.size) : R.row (L.set i y) = (R.row L).set (i * R.size + j) u := by
  induction L generalizing i with
  | nil => simp at hx
  | cons a L ih =>
    cases i with
    | zero =>
      rw [List.getElem?_cons_zero] at hx
      have hx := Option.some.inj hx
      subst hx
      rw [List.set_cons_zero, R.row_cons, R.row_cons, hy, Nat.zero_mul, Nat.zero_add, List.set_append_left _ _ (by rw [R.len]; exact hj)]
    | succ i =>
      rw [List.getElem?_cons_succ] at hx
      rw [List.set_cons_succ, R.row_cons, R.row_cons, ih hx, List.set_append_right _ _ (by rw [R.len, Nat.succ_mul]; omega)]
      congr 2
      rw [R.len, Nat.succ_mul]
      omega
/-- one cell of an owned row is written -/
theorem rec_poke {w : World} {B : Nat} {T : TypeId} {v : Value} {L : List α} {x y : α} {i j : Nat} {u : Value} (h : R.Own w B T v L) (hx : L[i]? = some x) (hy : R.vals y = (R.vals x).set j u) (hj : j < R.size) :
    ∃ g c, v = .slice (some ⟨g, 0, none⟩) L.length c ∧ B ≤ g ∧ g < w.heap.size ∧ (∀ q t, (R.vals x)[q]? = some t → w.cell? ⟨g, i * R.size + q, none⟩ = some t) ∧ (∀ q, w.frozen? ⟨g, q, none⟩ = false) ∧ R.Own (w.setCell ⟨g, i * R.size + j, none⟩ u) B T v (L.set i y) := by
  rcases own_opened h with ⟨-, rfl⟩ | ⟨g, cap, rest, rfl, hb, hg, hn, hc, hr⟩
  · simp at hx
  · have hil := (List.getElem?_eq_some_iff.1 hx).1
    have hm := Nat.mul_le_mul_right R.size (show i + 1 ≤ L.length by omega)
    rw [Nat.succ_mul] at hm
    refine ⟨g, cap, rfl, hb, lt_of_heap hg, fun q t ht => ?_, (blk_cells hg).2, ?_⟩
    · rw [(blk_cells hg).1, List.getElem?_toArray, List.getElem?_append_left]
      · exact R.row_get hx ht
      · have hq := (List.getElem?_eq_some_iff.1 ht).1
        rw [R.len] at hq
        rw [R.row_length]
        omega
    · have e : (w.setCell ⟨g, i * R.size + j, none⟩ u).heap[g]? = some (.cells (R.row (L.set i y) ++ rest).toArray T (0, 0)) := by
        rw [Joins.block_setCell hg _, Rec.row_poke hx hy hj]
        have hlen : i * R.size + j < (R.row L).length := by
          rw [R.row_length]
          omega
        congr 2
        rw [List.setIfInBounds_toArray, List.set_append_left _ _ hlen]
      have := Rec.own_closed (R := R) (B := B) (l := L.set i y) (rest := rest) (cap := cap) hb e (by simpa using hn) hc (by simpa using hr)
      simpa using this
end
theorem lit_app {α : Type} {R : Rec α} {w : World} {B : Nat} {T t : TypeId} {i : TypeInfo} {z : Value} {bytes : Nat} (ht : Try.prog.underlying t = some (.slice T)) (hi : Try.prog.info? T = some i) (hz : i.zero = some z) (hsize : i.size = R.size) (hby : i.bytes = bytes) (hzs : z.cells.size = R.size) (hsz : 0 < R.size)
    {x : Value} {l : List α} (hx : R.N w Any x l) (hlen : l.length ≤ maxLen) (hbytes : l.length * bytes ≤ 140737488355328) (hB : B ≤ w.heap.size) :
    ∃ A c w', (Builtin.append_ #[t, t] t #[.slice (some ⟨w.heap.size, 0, none⟩) 0 0, x]).run Try.prog (w.alloc (.cells #[] T)) = .ok (.slice A l.length c) w' ∧ R.Own w' B T (.slice A l.length c) l ∧ Below w.heap.size w w' := by
  have hb1 : Below w.heap.size w (w.alloc (.cells #[] T)) := (Below.refl _ _).alloc (Nat.le_refl _) _
  have hown1 : R.Own (w.alloc (.cells #[] T)) w.heap.size T (.slice (some ⟨w.heap.size, 0, none⟩) 0 0) [] := World.ownsRow_lit w #[] 0 (Nat.le_refl _) (by unfold maxLen; omega) (Nat.zero_mul _).symm
  obtain ⟨v', w', hr, ho, hg, -⟩ := Rec.app (P := Try.prog) (t := t) ht hi hz hsize hby hzs hsz hown1 (hx.grow hb1) (by simpa using hlen) (by simpa using hbytes) hb1.size
  rw [List.nil_append] at ho
  obtain ⟨A, c, rfl⟩ := ho.slice
  exact ⟨A, c, w', hr, own_base ho hB, hb1.grown hg hb1.size fun p hp => by have h1 : w.heap.size = p := Option.some.inj hp; omega⟩
end Go.Proofs.Ytblbcoknefgcaaa
