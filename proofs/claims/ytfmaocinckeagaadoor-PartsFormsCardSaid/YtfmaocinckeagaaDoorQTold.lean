/-
  A part out of a frame's body, as it is told thing after thing. No statement is proved here. No condition.
-/
import Derived.Test.YtfmaocinckeagaaDoorQPack
namespace Go.Proofs.YtfmaocinckeagaaDoor
open Go.RowKit

theorem told_cases {α : Type} {z a : α} {g : List UInt8 → Option (α × List UInt8)} {st s : Option (List UInt8)} (h : told z g st = (a, s)) : (∃ l t, st = some l ∧ g l = some (a, t) ∧ s = some t) ∨ (a = z ∧ s = none ∧ ∀ l, st = some l → g l = none) := by
  cases st with
  | none =>
    unfold told at h
    injection h with e1 e2
    exact .inr ⟨e1.symm, e2.symm, fun l hl => by cases hl⟩
  | some l =>
    unfold told at h
    cases hg : g l with
    | none =>
      simp only [hg] at h
      injection h with e1 e2
      exact .inr ⟨e1.symm, e2.symm, fun m hm => by injection hm with hm; subst hm; exact hg⟩
    | some p =>
      simp only [hg] at h
      injection h with e1 e2
      exact .inl ⟨l, p.2, rfl, by rw [hg, ← e1], e2.symm⟩
theorem part_told {body D : List UInt8} {N1 N2 N3 : Int} {S1 S2 S3 S4 : Option (List UInt8)} (h1 : told 0 (gCount 2147483647) (some body) = (N1, S1)) (h2 : told 0 (gCount 22) S1 = (N2, S2)) (h3 : told 0 (gCount 22) S2 = (N3, S3)) (h4 : told [] (gStr 380) S3 = (D, S4)) :
    ∃ n p m : Nat, N1 = n ∧ N2 = p ∧ N3 = m ∧ n ≤ 2147483647 ∧ p ≤ 22 ∧ m ≤ 22 ∧ D.length ≤ 380 ∧ partIn body = if S4 = some [] ∧ mayBe p m D.length = true then some ⟨n, p, m, D⟩ else none := by
  rcases told_cases h1 with ⟨l1, t1, e1, g1, rfl⟩ | ⟨rfl, rfl, g1⟩
  · injection e1 with e1
    subst e1
    obtain ⟨n, rfl, hn1, hn2⟩ := gCount_nat g1
    rcases told_cases h2 with ⟨l2, t2, e2, g2, rfl⟩ | ⟨rfl, rfl, g2⟩
    · injection e2 with e2
      subst e2
      obtain ⟨p, rfl, hp1, hp2⟩ := gCount_nat g2
      rcases told_cases h3 with ⟨l3, t3, e3, g3, rfl⟩ | ⟨rfl, rfl, g3⟩
      · injection e3 with e3
        subst e3
        obtain ⟨m, rfl, hm1, hm2⟩ := gCount_nat g3
        rcases told_cases h4 with ⟨l4, t4, e4, g4, rfl⟩ | ⟨rfl, rfl, g4⟩
        · injection e4 with e4
          subst e4
          have hd := gStr_le g4
          refine ⟨n, p, m, rfl, rfl, rfl, by omega, by omega, by omega, by omega, ?_⟩
          unfold partIn
          rw [g1]
          dsimp only
          rw [g2]
          dsimp only
          rw [g3]
          dsimp only
          rw [g4]
          simp
        · refine ⟨n, p, m, rfl, rfl, rfl, by omega, by omega, by omega, by simp, ?_⟩
          unfold partIn
          rw [g1]
          dsimp only
          rw [g2]
          dsimp only
          rw [g3]
          dsimp only
          rw [g4 _ rfl]
          simp
      · rcases told_cases h4 with ⟨l4, t4, e4, g4, rfl⟩ | ⟨rfl, rfl, g4⟩
        · cases e4
        · refine ⟨n, p, 0, rfl, rfl, rfl, by omega, by omega, by omega, by simp, ?_⟩
          unfold partIn
          rw [g1]
          dsimp only
          rw [g2]
          dsimp only
          rw [g3 _ rfl]
          simp
    · rcases told_cases h3 with ⟨l3, t3, e3, g3, rfl⟩ | ⟨rfl, rfl, g3⟩
      · cases e3
      · rcases told_cases h4 with ⟨l4, t4, e4, g4, rfl⟩ | ⟨rfl, rfl, g4⟩
        · cases e4
        · refine ⟨n, 0, 0, rfl, rfl, rfl, by omega, by omega, by omega, by simp, ?_⟩
          unfold partIn
          rw [g1]
          dsimp only
          rw [g2 _ rfl]
          simp
  · rcases told_cases h2 with ⟨l2, t2, e2, g2, rfl⟩ | ⟨rfl, rfl, g2⟩
    · cases e2
    · rcases told_cases h3 with ⟨l3, t3, e3, g3, rfl⟩ | ⟨rfl, rfl, g3⟩
      · cases e3
      · rcases told_cases h4 with ⟨l4, t4, e4, g4, rfl⟩ | ⟨rfl, rfl, g4⟩
        · cases e4
        · refine ⟨0, 0, 0, rfl, rfl, rfl, by omega, by omega, by omega, by simp, ?_⟩
          unfold partIn
          rw [g1 _ rfl]
          simp

/-- a part that is read, or none -/
def partO : Option Part → Value
  | some p => partV p.number p.place p.many p.data
  | none => partV 0 0 0 []
section
variable {w wr w' : World} {A P R : Nat} {T T' : TypeId} {a b c d x y z u : Value} {st st' : Option (List UInt8)}
theorem set4_at (h : w.heap[P]? = some (.cells #[a, b, c, d] T (0, 0))) : ((((w.setCell ⟨P, 0, none⟩ x).setCell ⟨P, 1, none⟩ y).setCell ⟨P, 2, none⟩ z).setCell ⟨P, 3, none⟩ u).heap[P]? = some (.cells #[x, y, z, u] T (0, 0)) := by
  rw [Joins.block_setCell (Joins.block_setCell (Joins.block_setCell (Joins.block_setCell h _) _) _) _]
  simp
theorem set_at0 (h : w.heap[P]? = some (.cells #[a, b, c, d] T (0, 0))) : (w.setCell ⟨P, 0, none⟩ x).heap[P]? = some (.cells #[x, b, c, d] T (0, 0)) := by rw [Joins.block_setCell h _]; simp
theorem set_at1 (h : w.heap[P]? = some (.cells #[a, b, c, d] T (0, 0))) : (w.setCell ⟨P, 1, none⟩ x).heap[P]? = some (.cells #[a, x, c, d] T (0, 0)) := by rw [Joins.block_setCell h _]; simp
theorem set_at2 (h : w.heap[P]? = some (.cells #[a, b, c, d] T (0, 0))) : (w.setCell ⟨P, 2, none⟩ x).heap[P]? = some (.cells #[a, b, x, d] T (0, 0)) := by rw [Joins.block_setCell h _]; simp
theorem set_at3 (h : w.heap[P]? = some (.cells #[a, b, c, d] T (0, 0))) : (w.setCell ⟨P, 3, none⟩ x).heap[P]? = some (.cells #[a, b, c, x] T (0, 0)) := by rw [Joins.block_setCell h _]; simp
theorem set_far {g i : Nat} (h : g ≠ P) : (w.setCell ⟨P, i, none⟩ x).heap[g]? = w.heap[g]? := Below.heap_setCell w ⟨P, i, none⟩ x g h
theorem Rdr.far (h : Rdr T w R st) (hP : R < P) (i : Nat) (x : Value) : Rdr T (w.setCell ⟨P, i, none⟩ x) R st := by
  obtain ⟨v, hh, hr⟩ := h
  exact ⟨v, (set_far (by omega)).trans hh, hr.keep (Nat.le_refl _) fun p hp => World.cell?_of_block (set_far (by omega))⟩
/-- a reading under way -/
structure RSt (T T' : TypeId) (w wr : World) (A P R : Nat) (a b c d : Value) (st : Option (List UInt8)) : Prop where
  bel : Below w.heap.size w wr
  old : w.heap.size ≤ R
  at_ : A < R
  rp : R < P
  zero : wr.heap[A]? = some (.cells #[.int .i64 0, .int .i64 0, .int .i64 0, .string (tx [])] T (0, 0))
  part : wr.heap[P]? = some (.cells #[a, b, c, d] T (0, 0))
  rdr : Rdr T' wr R st
theorem RSt.tell (h : RSt T T' w wr A P R a b c d st) (hg : wr.grownBy w' (some R)) (hr : Rdr T' w' R st') : RSt T T' w w' A P R a b c d st' :=
  ⟨h.bel.grown hg h.bel.size (fun k hk => by injection hk with hk; rw [← hk]; exact h.old), h.old, h.at_, h.rp,
    (hg.block A (Array.getElem?_eq_some_iff.1 h.zero).1 (fun e => by injection e with e; have := h.at_; omega)).trans h.zero,
    (hg.block P (Array.getElem?_eq_some_iff.1 h.part).1 (fun e => by injection e with e; have := h.rp; omega)).trans h.part, hr⟩
theorem RSt.put0 (h : RSt T T' w wr A P R a b c d st) (x : Value) : RSt T T' w (wr.setCell ⟨P, 0, none⟩ x) A P R x b c d st :=
  ⟨h.bel.setCell (p := ⟨P, 0, none⟩) (by have := h.old; have := h.rp; dsimp only; omega) _, h.old, h.at_, h.rp, (set_far (by have := h.at_; have := h.rp; omega)).trans h.zero, set_at0 h.part, h.rdr.far h.rp _ _⟩
theorem RSt.put1 (h : RSt T T' w wr A P R a b c d st) (x : Value) : RSt T T' w (wr.setCell ⟨P, 1, none⟩ x) A P R a x c d st :=
  ⟨h.bel.setCell (p := ⟨P, 1, none⟩) (by have := h.old; have := h.rp; dsimp only; omega) _, h.old, h.at_, h.rp, (set_far (by have := h.at_; have := h.rp; omega)).trans h.zero, set_at1 h.part, h.rdr.far h.rp _ _⟩
theorem RSt.put2 (h : RSt T T' w wr A P R a b c d st) (x : Value) : RSt T T' w (wr.setCell ⟨P, 2, none⟩ x) A P R a b x d st :=
  ⟨h.bel.setCell (p := ⟨P, 2, none⟩) (by have := h.old; have := h.rp; dsimp only; omega) _, h.old, h.at_, h.rp, (set_far (by have := h.at_; have := h.rp; omega)).trans h.zero, set_at2 h.part, h.rdr.far h.rp _ _⟩
theorem RSt.put3 (h : RSt T T' w wr A P R a b c d st) (x : Value) : RSt T T' w (wr.setCell ⟨P, 3, none⟩ x) A P R a b c x st :=
  ⟨h.bel.setCell (p := ⟨P, 3, none⟩) (by have := h.old; have := h.rp; dsimp only; omega) _, h.old, h.at_, h.rp, (set_far (by have := h.at_; have := h.rp; omega)).trans h.zero, set_at3 h.part, h.rdr.far h.rp _ _⟩
/-- the four cells written -/
def World.set4 (w : World) (A : Nat) (x y z u : Value) : World := (((w.setCell ⟨A, 0, none⟩ x).setCell ⟨A, 1, none⟩ y).setCell ⟨A, 2, none⟩ z).setCell ⟨A, 3, none⟩ u
theorem set4_below {B : Nat} {w0 : World} (h : Below B w0 w) (hA : B ≤ A) : Below B w0 (World.set4 w A x y z u) :=
  (((h.setCell (p := ⟨A, 0, none⟩) hA _).setCell (p := ⟨A, 1, none⟩) hA _).setCell (p := ⟨A, 2, none⟩) hA _).setCell (p := ⟨A, 3, none⟩) hA _
end
theorem results_ct {fn : Func} {p s : Tmp} {tp : TypeId} (h : fn.results = #[.cell p tp, .tmp s]) (tmps : Array Value) (P : Program) (w : World) :
    (results fn tmps).run P w = ((asAddr (tmps.getD p undef)).run P w).andThen fun a w₁ => ((loadVar tp a).run P w₁).andThen fun v w₂ => .ok (.tuple #[v, tmps.getD s undef]) w₂ := by
  simp only [results, h]
  simp [Sem.run_bind, Result.andThen]
end Go.Proofs.YtfmaocinckeagaaDoor
