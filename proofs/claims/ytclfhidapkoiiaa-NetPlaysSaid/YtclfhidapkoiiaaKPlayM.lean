/-
  NetPlays: the program's net and the document's, side by side. No statement is proved here. No condition.
-/
import Derived.Test.YtclfhidapkoiiaaKStep
namespace Go.Proofs.Ytclfhidapkoiiaa
open Go.RowKit

/-- how it stands: both nets are the same one, plainly -/
structure PI (w wr : World) (p q i : Nat) (N : NT) (v u : Value) : Prop where
  net : PNetM wr w.heap.size p 54 36 v N
  ref : NetM wr w.heap.size q 47 39 u N
  ok : N.ok i
  bel : Below w.heap.size w wr
section
variable {w wr w' : World} {p q i j : Nat} {N N' : NT} {v u v' u' : Value}
theorem PI.grow (h : PI w wr p q i N v u) (hb : Below wr.heap.size wr w') : PI w w' p q i N v u := ⟨h.net.grow hb, h.ref.grow hb, h.ok, h.bel.trans (Joins.below_le hb h.bel.size)⟩
theorem PI.mono (h : PI w wr p q i N v u) (hij : i ≤ j) : PI w wr p q j N v u := ⟨h.net, h.ref, h.ok.mono hij, h.bel⟩
/-- a call of the program leaves the document's net -/
theorem PI.prog (h : PI w wr p q i N v u) (hm : Moved p v wr w') : NetM w' w.heap.size q 47 39 u N := h.ref.beside h.net hm (by decide) (by decide) (by decide) (by decide)
/-- a call of the document leaves the program's net -/
theorem PI.doc (h : PI w wr p q i N v u) (hm : Moved q u wr w') : PNetM w' w.heap.size p 54 36 v N := h.net.beside h.ref hm (by decide) (by decide) (by decide) (by decide)
/-- both have done it, whichever came first -/
theorem PI.made (hn : PNetM w' w.heap.size p 54 36 v' N') (hr : NetM w' w.heap.size q 47 39 u' N') (hok : N'.ok j) (hb : Below w.heap.size w w') : PI w w' p q j N' v' u' := ⟨hn, hr, hok, hb⟩
theorem NetM.beside2 {n m : NT} {v u : Value} {B : Nat} (h : NetM wr B q 47 39 u m) (k : PNetM wr B p 54 36 v n) (hm : Moved p v wr w') : NetM w' B q 47 39 u m := h.beside k hm (by decide) (by decide) (by decide) (by decide)
theorem PNetM.beside2 {n m : NT} {v u : Value} {B : Nat} (h : PNetM wr B p 54 36 v n) (k : NetM wr B q 47 39 u m) (hm : Moved q u wr w') : PNetM w' B p 54 36 v n := h.beside k hm (by decide) (by decide) (by decide) (by decide)
/-- the same net, written over by nothing of what follows: blocks from g0 on alone may have turned -/
theorem PI.high {g0 : Nat} {w1 : World} (h1 : PI w w1 p q i N v u) (hk : ∀ b, b < g0 → w'.heap[b]? = w1.heap[b]?) (hp : p < g0) (hq : q < g0) (hv : ∀ b, v.ownBlock = some b → b < g0) (hu : ∀ b, u.ownBlock = some b → b < g0) (hb : Below w.heap.size w w') : PI w w' p q i N v u :=
  ⟨h1.net.kept fun b _ hb => hk b (hb.elim (fun e => by omega) (hv b)), h1.ref.kept fun b _ hb => hk b (hb.elim (fun e => by omega) (hu b)), h1.ok, hb⟩
end
/-- another net, that a call leaves as it was -/
theorem PNetM.other {w w' : World} {B p q : Nat} {T U : TypeId} {v u : Value} {n m : NT} (h : PNetM w B q T U u m) (k : PNetM w B p T U v n) (hm : Moved p v w w') (hTU : T ≠ U) (hpq : q ≠ p) (huv : ∀ g, u.ownBlock = some g → v.ownBlock ≠ some g) : PNetM w' B q T U u m :=
  h.kept fun b hb hbq => by
    rcases hbq with rfl | hbu
    · exact hm b hb hpq (fun e => h.ty.ne (own_type k.row e) hTU rfl)
    · exact hm b hb (fun e => (own_type h.row hbu).ne k.ty hTU.symm e) (huv b hbu)
theorem set_any {w : World} {p i : Nat} {C : Array Value} {T : TypeId} {fr : Nat × Nat} {v : Value} (h : w.heap[p]? = some (.cells C T fr)) : (w.setCell ⟨p, i, none⟩ v).heap[p]? = some (.cells (C.setIfInBounds i v) T fr) := Joins.block_setCell h v
/-- a row that is owned, whatever stands in it -/
def OwnX (w : World) (B : Nat) (T : TypeId) (size : Nat) (v : Value) (n : Nat) : Prop := ∃ xs, w.ownsRow B T size v n xs
theorem OwnX.same {w w' : World} {B : Nat} {T : TypeId} {size : Nat} {v : Value} {n : Nat} (h : OwnX w B T size v n) (hk : ∀ p, v.ownBlock = some p → w'.heap[p]? = w.heap[p]?) : OwnX w' B T size v n := by
  obtain ⟨xs, h⟩ := h
  exact ⟨xs, row_same h hk⟩
theorem OwnX.lt {w : World} {B : Nat} {T : TypeId} {size : Nat} {v : Value} {n : Nat} (h : OwnX w B T size v n) : ∀ p, v.ownBlock = some p → B ≤ p ∧ p < w.heap.size := by
  obtain ⟨xs, h⟩ := h
  exact fun p hp => h.lt p hp
theorem OwnX.poke {w : World} {B : Nat} {T : TypeId} {size : Nat} {A : Option Addr} {c n j : Nat} (h : OwnX w B T size (.slice A n c) n) (hj : j < n * size) :
    ∃ g u, A = some ⟨g, 0, none⟩ ∧ w.heap.size > g ∧ w.cell? ⟨g, j, none⟩ = some u ∧ w.frozen? ⟨g, j, none⟩ = false ∧ ∀ v, OwnX (w.setCell ⟨g, j, none⟩ v) B T size (.slice A n c) n := by
  obtain ⟨xs, h⟩ := h
  rcases h.2 with ⟨hn, h0⟩ | ⟨g, cap, cur, hv, hb, hg, hnc, hcm, hcs, htake⟩
  · subst h0
    omega
  · injection hv with e1 e2 e3
    subst e1 e3
    have hjc : j < cur.size := by
      rw [hcs]
      exact Nat.lt_of_lt_of_le hj (Nat.mul_le_mul_right _ hnc)
    refine ⟨g, cur[j], rfl, (Array.getElem?_eq_some_iff.1 hg).1, by rw [(blk_cells hg).1 j]; exact Array.getElem?_eq_getElem hjc, (blk_cells hg).2 j, fun v => ⟨_, by
      simp only [List.length_take, Array.length_toList]
      show min (n * size) (cur.setIfInBounds j v).size = n * size
      rw [Array.size_setIfInBounds, hcs]
      exact Nat.min_eq_left (Nat.mul_le_mul_right _ hnc), .inr ⟨g, c, cur.setIfInBounds j v, rfl, hb, set_any hg, hnc, hcm, by rw [Array.size_setIfInBounds]; exact hcs, rfl⟩⟩⟩
theorem Rec.Own.x {α : Type} {R : Rec α} {w : World} {B : Nat} {T : TypeId} {v : Value} {l : List α} (h : R.Own w B T v l) : OwnX w B T R.size v l.length := ⟨_, h⟩
/-- bytes that a conversion has made: written over -/
def BytesX (w : World) (g n : Nat) : Prop := ∃ C a b, w.heap[g]? = some (.cells C 5 (a, b)) ∧ n ≤ a ∧ a ≤ C.size
theorem BytesX.poke {w : World} {g n j : Nat} (h : BytesX w g n) (hj : j < n) : ∃ u, w.cell? ⟨g, j, none⟩ = some u ∧ w.frozen? ⟨g, j, none⟩ = false ∧ ∀ v, BytesX (w.setCell ⟨g, j, none⟩ v) g n := by
  obtain ⟨C, a, b, hg, h1, h2⟩ := h
  have hjc : j < C.size := by omega
  refine ⟨C[j], ?_, ?_, fun v => ⟨_, a, b, set_any hg, h1, by rw [Array.size_setIfInBounds]; exact h2⟩⟩
  · rw [cell_of_row w g j C _ _ hg]; exact Array.getElem?_eq_getElem hjc
  · simp [World.frozen?, hg]
    omega
theorem BytesX.same {w w' : World} {g n : Nat} (h : BytesX w g n) (hk : w'.heap[g]? = w.heap[g]?) : BytesX w' g n := by
  obtain ⟨C, a, b, hg, h1, h2⟩ := h
  exact ⟨C, a, b, hk.trans hg, h1, h2⟩
theorem BytesX.lt {w : World} {g n : Nat} (h : BytesX w g n) : g < w.heap.size := by
  obtain ⟨C, a, b, hg, h1, h2⟩ := h
  exact (Array.getElem?_eq_some_iff.1 hg).1
theorem PI.poke {w wr : World} {p q i g j : Nat} {N : NT} {v u x : Value} (h : PI w wr p q i N v u) (hg : w.heap.size ≤ g) (h1 : p ≠ g) (h2 : q ≠ g) (h3 : v.ownBlock ≠ some g) (h4 : u.ownBlock ≠ some g) : PI w (wr.setCell ⟨g, j, none⟩ x) p q i N v u :=
  ⟨h.net.kept fun b _ hb => heap_setCell_far _ _ _ _ (hb.elim (fun e => by omega) fun e e2 => h3 (by rw [← e2]; exact e)), h.ref.kept fun b _ hb => heap_setCell_far _ _ _ _ (hb.elim (fun e => by omega) fun e e2 => h4 (by rw [← e2]; exact e)), h.ok, h.bel.setCell (p := ⟨g, j, none⟩) hg _⟩
theorem PI.apart {w wr : World} {p q i g : Nat} {N : NT} {v u : Value} (h : PI w wr p q i N v u) (hg : wr.heap.size ≤ g) : p ≠ g ∧ q ≠ g ∧ v.ownBlock ≠ some g ∧ u.ownBlock ≠ some g := by
  have hp := h.net.lt
  have hq := (Array.getElem?_eq_some_iff.1 h.ref.net).1
  exact ⟨by omega, by omega, fun e => by have := (h.net.row.lt g e).2; omega, fun e => by have := (h.ref.row.lt g e).2; omega⟩
theorem wrap_two {j : Nat} (h : j ≤ 1000) : wrap64 ((j : Int) + 2) = (j : Int) + 2 ∧ IntKind.i64.wrap ((j : Int) + 2) = (j : Int) + 2 := ⟨by unfold wrap64; omega, by rw [IntKind.wrap_i64]; omega⟩
/-- records that a literal has made -/
theorem lit_row {α : Type} {R : Rec α} {w : World} {p : Nat} {T : TypeId} {l : List α} {N : Nat → Prop} (h : w.heap[p]? = some (.cells (R.row l).toArray T (0, 0))) (hN : N p) (hl : l.length ≤ maxLen) : R.N w N (.slice (some ⟨p, 0, none⟩) l.length l.length) l :=
  ⟨_, l.length, rfl, R.row_length l, Nat.le_refl _, hl, (fun h => by cases h), fun _ => ⟨p, 0, rfl, hN, (Array.getElem?_eq_some_iff.1 h).1, fun j u hu => by
    rw [Nat.zero_add, (blk_cells h).1 j, List.getElem?_toArray]
    exact hu⟩⟩
/-- '[]byte(s)', that is written over later -/
theorem conv_bytesX (bs : ByteArray) (W : World) (hs : bs.size ≤ 140737488355328) : ∃ c W', (convert 9 32 (.string bs)).run Try.prog W = .ok (.slice (some ⟨W.heap.size, 0, none⟩) bs.size c) W' ∧
    Rd W' W'.heap.size (.slice (some ⟨W.heap.size, 0, none⟩) bs.size c) bs.data.toList ∧ Below W.heap.size W W' ∧ W'.heap.size = W.heap.size + 1 ∧ BytesX W' W.heap.size bs.size ∧ bs.size ≤ c := by
  obtain ⟨A, c, W', hr, h1, h2, h3, rfl⟩ := conv_bytes bs W hs
  refine ⟨c, W', hr, h1, h2, h3, ?_, ?_⟩
  · have hrun := run_bytes_of_string (P := Try.prog) W 9 32 5 bs Try.underlying9 Try.underlying32 Try.underlying5
    rw [hr] at hrun
    injection hrun with _ hW
    rw [hW]
    refine ⟨_, _, _, heap_alloc_new W.drew _, ?_, Nat.le_refl _⟩
    unfold bytesRow
    rw [Array.size_append, Array.size_map]
    exact Nat.le_add_right _ _
  · obtain ⟨A', c', hv, hle, -⟩ := h1
    injection hv with _ e2 e3
    omega
end Go.Proofs.Ytclfhidapkoiiaa
