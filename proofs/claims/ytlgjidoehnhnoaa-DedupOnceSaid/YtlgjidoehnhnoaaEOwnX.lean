/-
  Rows that are owned, whatever stands in them: written over, grown. No statement is proved here. No condition.
-/
import Derived.Test.YtlgjidoehnhnoaaEWorks
namespace Go.Proofs.Ytlgjidoehnhnoaa
open Go.RowKit

theorem set_any {w : World} {p i : Nat} {C : Array Value} {T : TypeId} {v : Value} (h : w.heap[p]? = some (.cells C T (0, 0))) : (w.setCell ⟨p, i, none⟩ v).heap[p]? = some (.cells (C.setIfInBounds i v) T (0, 0)) := Joins.block_setCell h v
def OwnX (w : World) (B : Nat) (T : TypeId) (size : Nat) (v : Value) (n : Nat) : Prop := ∃ xs, w.ownsRow B T size v n xs
theorem OwnX.same {w w' : World} {B : Nat} {T : TypeId} {size : Nat} {v : Value} {n : Nat} (h : OwnX w B T size v n) (hk : ∀ p, v.ownBlock = some p → w'.heap[p]? = w.heap[p]?) : OwnX w' B T size v n := by
  obtain ⟨xs, h⟩ := h
  exact ⟨xs, row_same h hk⟩
theorem OwnX.lt {w : World} {B : Nat} {T : TypeId} {size : Nat} {v : Value} {n : Nat} (h : OwnX w B T size v n) : ∀ p, v.ownBlock = some p → B ≤ p ∧ p < w.heap.size := by
  obtain ⟨xs, h⟩ := h
  exact fun p hp => h.lt p hp
theorem OwnX.poke {w : World} {B : Nat} {T : TypeId} {size : Nat} {A : Option Addr} {c n j : Nat} (h : OwnX w B T size (.slice A n c) n) (hj : j < n * size) :
    ∃ g u, A = some ⟨g, 0, none⟩ ∧ w.heap.size > g ∧ (∃ C, w.heap[g]? = some (.cells C T (0, 0))) ∧ w.cell? ⟨g, j, none⟩ = some u ∧ w.frozen? ⟨g, j, none⟩ = false ∧ ∀ v, OwnX (w.setCell ⟨g, j, none⟩ v) B T size (.slice A n c) n := by
  obtain ⟨xs, h⟩ := h
  rcases h.2 with ⟨hn, h0⟩ | ⟨g, cap, cur, hv, hb, hg, hnc, hcm, hcs, htake⟩
  · subst h0
    omega
  · injection hv with e1 e2 e3
    subst e1 e3
    have hjc : j < cur.size := by
      rw [hcs]
      exact Nat.lt_of_lt_of_le hj (Nat.mul_le_mul_right _ hnc)
    refine ⟨g, cur[j], rfl, (Array.getElem?_eq_some_iff.1 hg).1, ⟨cur, hg⟩, by rw [(blk_cells hg).1 j]; exact Array.getElem?_eq_getElem hjc, (blk_cells hg).2 j, fun v => ⟨_, by
      simp only [List.length_take, Array.length_toList]
      show min (n * size) (cur.setIfInBounds j v).size = n * size
      rw [Array.size_setIfInBounds, hcs]
      exact Nat.min_eq_left (Nat.mul_le_mul_right _ hnc), .inr ⟨g, c, cur.setIfInBounds j v, rfl, hb, set_any hg, hnc, hcm, by rw [Array.size_setIfInBounds]; exact hcs, rfl⟩⟩⟩
theorem OwnX.type {w : World} {B : Nat} {T : TypeId} {size : Nat} {v : Value} {n : Nat} (h : OwnX w B T size v n) {p : Nat} (hp : v.ownBlock = some p) : ∃ C, w.heap[p]? = some (.cells C T (0, 0)) := by
  obtain ⟨xs, h⟩ := h
  exact row_type h hp

theorem Rec.Own.x {α : Type} {R : Rec α} {w : World} {B : Nat} {T : TypeId} {v : Value} {l : List α} (h : R.Own w B T v l) : OwnX w B T R.size v l.length := ⟨_, h⟩
/-- append of one pair that a literal has made -/
theorem OwnX.pair {W : World} {B n : Nat} {v : Value} (q : PP) (h : OwnX W B 24 2 v n) (hn : n + 1 ≤ 4398046511104) (hB : B ≤ W.heap.size) :
    ∃ A c w', (Builtin.append_ #[25, 25] 25 #[v, .slice (some ⟨W.heap.size, 0, none⟩) 1 1]).run Try.prog (W.alloc (.cells #[.string q.key, .string q.val] 24)) = .ok (.slice A (n + 1) c) w' ∧ Below B W w' := by
  obtain ⟨xs, h⟩ := h
  have hb : Below W.heap.size W (W.alloc (.cells #[.string q.key, .string q.val] 24)) := (Below.refl _ _).alloc (Nat.le_refl _) _
  have h1 := row_same h (w' := W.alloc (.cells #[.string q.key, .string q.val] 24)) fun p hp => hb.block p (h.lt p hp).2
  have hB1 := Nat.le_trans hB hb.size
  have hx : pairR.N (W.alloc (.cells #[.string q.key, .string q.val] 24)) Any (.slice (some ⟨W.heap.size, 0, none⟩) 1 1) [q] := Rec.one_row (R := pairR) (a := q) (heap_alloc_new W _) trivial
  obtain ⟨iu, hiu, z0, z1, z2⟩ := info_parts info_PP
  obtain ⟨A, c, w', hr, -, h3, -⟩ := run_appAt (P := Try.prog) (w := W.alloc (.cells #[.string q.key, .string q.val] 24)) B 25 25 24 iu _ 2 32 Try.underlying25 hiu z0 z1 z2 rfl (by decide) _ _ n _ h1 1 _ (RowN.at hx) (pairR.row_one _) (by unfold maxLen; omega) (by omega) hB1
  exact ⟨A, c, w', hr, (Joins.below_le hb hB).trans ((Below.refl B _).grown h3 hB1 fun k hk => (h1.lt k hk).1)⟩
end Go.Proofs.Ytlgjidoehnhnoaa
