/-
  The document's ring (butteryref04) in memory. No statement is proved here. No condition.
-/
import Derived.Test.YtlokehekkllbeaaGPlain
namespace Go.Proofs.Ytlokehekkllbeaa
open Go.RowKit

theorem Els.set {w : World} {N : Nat → Prop} {xs : List Value} {Ls : List (List UInt8)} (h : Els w N xs Ls) (i : Nat) {A : Option Addr} {n c : Nat} {l : List UInt8} (hl : RdN w N (.slice A n c) l) : Els w N (xs.set i (.slice A n c)) (Ls.set i l) := by
  refine ⟨by rw [List.length_set, List.length_set]; exact h.1, fun j l' hj => ?_⟩
  by_cases hij : i = j
  · subst hij
    have hlt : i < Ls.length := by
      have := (List.getElem?_eq_some_iff.1 hj).1
      rwa [List.length_set] at this
    rw [List.getElem?_set_self hlt] at hj
    injection hj with hj
    subst hj
    exact ⟨A, n, c, by rw [List.getElem?_set_self (by rw [h.1]; exact hlt)], hl⟩
  · rw [List.getElem?_set_ne hij] at hj
    rw [List.getElem?_set_ne hij]
    exact h.2 j l' hj

structure XAt (w : World) (N : Nat → Prop) (x : Nat) (S : List (List UInt8)) (R : RG) (v : Value) (xs : List Value) : Prop where
  cells : w.heap[x]? = some (.cells #[v, .int .i64 (R.base : Int), .int .i64 (R.last : Int), .int .i64 (R.top : Int)] 46 (0, 0))
  own : w.ownsRow 0 39 1 v S.length xs
  els : Els w (fun b => N b ∧ U8B w b) xs S
  inx : N x
  inv : ∀ b, v.ownBlock = some b → N b
/-- the document's ring lies in block x, its sectors S (its numbers those of R) in blocks of N -/
def XG (w : World) (N : Nat → Prop) (x : Nat) (S : List (List UInt8)) (R : RG) : Prop := ∃ v xs, XAt w N x S R v xs

section
variable {w w' : World} {N N' : Nat → Prop} {x : Nat} {S : List (List UInt8)} {R : RG} {v : Value} {xs : List Value}
theorem XAt.lt (h : XAt w N x S R v xs) : x < w.heap.size := (Array.getElem?_eq_some_iff.1 h.cells).1
theorem XAt.kept (h : XAt w N x S R v xs) (hN : ∀ b, N b → b < w.heap.size → N' b) (hs : w.heap.size ≤ w'.heap.size) (hk : ∀ b, N b → b < w.heap.size → w'.heap[b]? = w.heap[b]?) : XAt w' N' x S R v xs :=
  ⟨(hk x h.inx h.lt).trans h.cells, row_same h.own (fun p hp => hk p (h.inv p hp) (h.own.lt p hp).2), h.els.kept (fun b hb hl => ⟨hN b hb.1 hl, by obtain ⟨C, hC⟩ := hb.2; exact ⟨C, (hk b hb.1 hl).trans hC⟩⟩) hs (fun b hb hl => hk b hb.1 hl), hN x h.inx h.lt, fun b hb => hN b (h.inv b hb) (h.own.lt b hb).2⟩
theorem XG.kept (h : XG w N x S R) (hN : ∀ b, N b → b < w.heap.size → N' b) (hs : w.heap.size ≤ w'.heap.size) (hk : ∀ b, N b → b < w.heap.size → w'.heap[b]? = w.heap[b]?) : XG w' N' x S R := by
  obtain ⟨v, xs, h⟩ := h
  exact ⟨v, xs, h.kept hN hs hk⟩
theorem XG.lt (h : XG w N x S R) : x < w.heap.size := by obtain ⟨v, xs, h⟩ := h; exact h.lt
theorem XG.inx (h : XG w N x S R) : N x := by obtain ⟨v, xs, h⟩ := h; exact h.inx
theorem XG.drew (h : XG w N x S R) (n : Nat) : XG (w.drewN n) N x S R := h.kept (fun _ h _ => h) (Nat.le_refl _) (fun _ _ _ => rfl)
theorem XG.below (h : XG w N x S R) (hb : Below w.heap.size w w') : XG w' N x S R := h.kept (fun _ h _ => h) hb.size (fun b _ hl => hb.block b hl)
theorem XAt.c0 (h : XAt w N x S R v xs) : w.cell? ⟨x, 0, none⟩ = some v := (row7 h.cells).1 0
theorem XAt.c1 (h : XAt w N x S R v xs) : w.cell? ⟨x, 1, none⟩ = some (.int .i64 (R.base : Int)) := (row7 h.cells).1 1
theorem XAt.c2 (h : XAt w N x S R v xs) : w.cell? ⟨x, 2, none⟩ = some (.int .i64 (R.last : Int)) := (row7 h.cells).1 2
theorem XAt.c3 (h : XAt w N x S R v xs) : w.cell? ⟨x, 3, none⟩ = some (.int .i64 (R.top : Int)) := (row7 h.cells).1 3
theorem XAt.fz (h : XAt w N x S R v xs) (i : Nat) : w.frozen? ⟨x, i, none⟩ = false := (row7 h.cells).2 i
theorem XAt.neRow (h : XAt w N x S R v xs) {T : TypeId} {C : Array Value} {b : Nat} (hb : w.heap[b]? = some (.cells C T (0, 0))) (hT : T ≠ 39) : v.ownBlock ≠ some b := fun e => by
  obtain ⟨cur, hcur⟩ := row_type h.own e
  rw [hcur] at hb
  injection hb with hb
  injection hb with _ hb
  exact hT hb.symm
theorem XAt.sectors (h : XAt w N x S R v xs) : LL w v S := (LLN.own (M := fun _ => True) h.own h.els (fun _ _ => trivial)).ll
/-- a sector is laid -/
theorem XAt.put (h : XAt w N x S R v xs) {i : Nat} (_hi : i < S.length) {A : Option Addr} {n c g cap : Nat} (hv : v = .slice (some ⟨g, 0, none⟩) S.length cap) {b : List UInt8} (hb : RdN w (fun b => N b ∧ U8B w b) (.slice A n c) b) : XAt (w.setCell ⟨g, i, none⟩ (.slice A n c)) N x (S.set i b) R v (xs.set i (.slice A n c)) := by
  subst hv
  have hne : x ≠ g := fun e => h.neRow h.cells (by decide) (by rw [e]; rfl)
  have hU : ∀ k, U8B w k → k ≠ g := fun k hk e => by
    obtain ⟨C, hC⟩ := hk
    exact h.neRow hC (by decide) (by rw [e]; rfl)
  have hst := (h.own.stored i (.slice A n c)).1
  refine ⟨(set_other hne).trans h.cells, by rw [List.length_set]; exact hst, ?_, h.inx, h.inv⟩
  exact (h.els.set i hb).kept (fun k hk _ => ⟨hk.1, by obtain ⟨C, hC⟩ := hk.2; exact ⟨C, (set_other (hU k hk.2)).trans hC⟩⟩) (by simp) (fun k hk _ => set_other (hU k hk.2))
/-- a number is noted -/
theorem XAt.note (h : XAt w N x S R v xs) (i : Nat) (z : Value) (R' : RG) (hc : #[v, .int .i64 (R'.base : Int), .int .i64 (R'.last : Int), .int .i64 (R'.top : Int)] = (#[v, .int .i64 (R.base : Int), .int .i64 (R.last : Int), .int .i64 (R.top : Int)] : Array Value).setIfInBounds i z) : XAt (w.setCell ⟨x, i, none⟩ z) N x S R' v xs := by
  have hn := h.neRow h.cells (by decide)
  have hU : ∀ k, U8B w k → k ≠ x := fun k hk e => by
    obtain ⟨C, hC⟩ := hk
    rw [e, h.cells] at hC
    injection hC with hC
    injection hC with _ hC
    exact absurd hC (by decide)
  exact ⟨by rw [hc]; exact Joins.block_setCell h.cells z, row_same h.own (fun p hp => set_other (fun e => hn (by rw [hp, e]))), h.els.kept (fun k hk _ => ⟨hk.1, by obtain ⟨C, hC⟩ := hk.2; exact ⟨C, (set_other (hU k hk.2)).trans hC⟩⟩) (by simp) (fun k hk _ => set_other (hU k hk.2)), h.inx, h.inv⟩
end
end Go.Proofs.Ytlokehekkllbeaa
