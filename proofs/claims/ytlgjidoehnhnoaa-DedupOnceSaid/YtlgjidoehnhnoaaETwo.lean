/-
  The document's Step (package butteryref09). No statement is proved here. No condition.
-/
import Derived.Test.YtlgjidoehnhnoaaEDo
namespace Go.Proofs.Ytlgjidoehnhnoaa
open Go.RowKit

theorem drew_heap (w : World) : w.drew.heap = w.heap := rfl
theorem stepApp {P : Program} {ops : Array Oper} {o : Oper} {a : Act} {w w' : World} {v' : Value} {K : Act → World → Prop} {Q : Exit → Act → World → Prop} {E : Prop} (hg : o.guard = none) (s x : Operand) (t : TypeId)
    (hop : o.op = Op.call { callee := Callee.builtin Builtin.append, args := #[s, x], argTypes := #[t, t] }) (vs vx : Value) (hs : a.eval s = vs) (hx : a.eval x = vx)
    (hrun : (Builtin.append_ #[t, t] o.type #[vs, vx]).run P w = .ok v' w') (hK : K (a.put o.dst v') w') : if Region.wanted o (yielded ops a.tmps) = true then Oper.wp P o a w K Q else E := by
  have hw : Region.wanted o (yielded ops a.tmps) = true := by simp [Region.wanted, hg]
  rw [if_pos hw]
  unfold Oper.wp execOp
  simp only [hop, resolve, invoke, builtin, Sem.run_bind, Sem.run_pure, Result.andThen_ok, List.map_toArray, List.map_cons, List.map_nil, hs, hx, hrun]
  exact hK
theorem results_ttct {fn : Func} {r q p s : Tmp} {tp : TypeId} (h : fn.results = #[.tmp r, .tmp q, .cell p tp, .tmp s]) (tmps : Array Value) (P : Program) (w : World) :
    (results fn tmps).run P w = ((asAddr (tmps.getD p undef)).run P w).andThen fun a w₁ => ((loadVar tp a).run P w₁).andThen fun v w₂ => .ok (.tuple #[tmps.getD r undef, tmps.getD q undef, v, tmps.getD s undef]) w₂ := by
  simp only [results, h]
  simp [Sem.run_bind, Result.andThen]
/-- an empty row that a literal has made is owned -/
theorem Own.lit {α : Type} (R : Rec α) (W : World) (T : TypeId) {B : Nat} (hB : B ≤ W.heap.size) : R.Own (W.alloc (.cells #[] T)) B T (.slice (some ⟨W.heap.size, 0, none⟩) 0 0) [] := World.ownsRow_lit (base := B) W #[] 0 hB (by unfold maxLen; omega) (by simp)
section
variable {m : List PP} {l : List PL} {x y : Value} {W : World}
theorem two_apps1 (hx : pairR.N W Any x m) (hy : lastR.N W Any y l) (hm : m.length ≤ 4398046511000) (hl : l.length ≤ 3518437208880) :
    ∃ v1 w1 v2 w2, (Builtin.append_ #[25, 25] 25 #[.slice (some ⟨W.heap.size, 0, none⟩) 0 0, x]).run Try.prog (W.alloc (.cells #[] 24)).drew = .ok v1 w1 ∧ (Builtin.append_ #[33, 33] 33 #[.slice (some ⟨w1.heap.size, 0, none⟩) 0 0, y]).run Try.prog (w1.alloc (.cells #[] 46)) = .ok v2 w2 ∧ pairR.Own w2 W.heap.size 24 v1 m ∧ lastR.Own w2 W.heap.size 46 v2 l ∧ Below W.heap.size W w1 ∧ Below W.heap.size W (w1.alloc (.cells #[] 46)) ∧ Below W.heap.size W w2 := by
  have b1 : Below W.heap.size W (W.alloc (.cells #[] 24)).drew := ((Below.refl _ _).alloc (Nat.le_refl _) _).drew
  have o1 : pairR.Own (W.alloc (.cells #[] 24)).drew W.heap.size 24 (.slice (some ⟨W.heap.size, 0, none⟩) 0 0) [] := Own.lit pairR W 24 (Nat.le_refl _)
  obtain ⟨v1, w1, r1, p1, g1, -⟩ := app_pairs o1 (hx.grow b1) (by simp; omega) b1.size
  rw [List.nil_append] at p1
  have bw1 : Below W.heap.size W w1 := b1.trans (Own.grow_below o1 g1 b1.size)
  have b2 : Below w1.heap.size w1 (w1.alloc (.cells #[] 46)) := (Below.refl _ _).alloc (Nat.le_refl _) _
  have bw2 := bw1.trans (Joins.below_le b2 bw1.size)
  have o2 : lastR.Own (w1.alloc (.cells #[] 46)) w1.heap.size 46 (.slice (some ⟨w1.heap.size, 0, none⟩) 0 0) [] := Own.lit lastR w1 46 (Nat.le_refl _)
  obtain ⟨v2, w2, r2, p2, g2, -⟩ := app_lasts o2 (hy.grow bw2) (by simp; omega) b2.size
  rw [List.nil_append] at p2
  have b3 := b2.trans (Own.grow_below o2 g2 b2.size)
  exact ⟨v1, w1, v2, w2, r1, r2, p1.below b3, p2.base bw1.size, bw1, bw2, bw1.trans (Joins.below_le b3 bw1.size)⟩
theorem two_apps2 (hx : pairR.N W Any x m) (hy : lastR.N W Any y l) (hm : m.length ≤ 4398046511000) (hl : l.length ≤ 3518437208880) :
    ∃ v1 w1 v2 w2, (Builtin.append_ #[25, 25] 25 #[.slice (some ⟨W.heap.size, 0, none⟩) 0 0, x]).run Try.prog ((W.alloc (.cells #[] 24)).alloc (.cells #[] 46)).drew = .ok v1 w1 ∧ (Builtin.append_ #[33, 33] 33 #[.slice (some ⟨W.heap.size + 1, 0, none⟩) 0 0, y]).run Try.prog w1 = .ok v2 w2 ∧ pairR.Own w2 W.heap.size 24 v1 m ∧ lastR.Own w2 W.heap.size 46 v2 l ∧ Below W.heap.size W w1 ∧ Below W.heap.size W w2 := by
  have hs : (W.alloc (.cells #[] 24)).heap.size = W.heap.size + 1 := by simp
  have b1 : Below W.heap.size W ((W.alloc (.cells #[] 24)).alloc (.cells #[] 46)).drew := (((Below.refl _ _).alloc (Nat.le_refl _) _).alloc (by simp) _).drew
  have hs2 : ((W.alloc (.cells #[] 24)).alloc (.cells #[] 46)).drew.heap.size = W.heap.size + 2 := by rw [drew_heap]; simp
  have o1 : pairR.Own ((W.alloc (.cells #[] 24)).alloc (.cells #[] 46)).drew W.heap.size 24 (.slice (some ⟨W.heap.size, 0, none⟩) 0 0) [] := Rec.Own.below (Own.lit pairR W 24 (Nat.le_refl _)) (((Below.refl _ _).alloc (Nat.le_refl _) _).drew)
  have o2 : lastR.Own ((W.alloc (.cells #[] 24)).alloc (.cells #[] 46)).drew W.heap.size 46 (.slice (some ⟨W.heap.size + 1, 0, none⟩) 0 0) [] := by
    have h := Own.lit lastR (W.alloc (.cells #[] 24)) 46 (B := W.heap.size) (by simp)
    rw [hs] at h
    exact h
  obtain ⟨v1, w1, r1, p1, g1, q1⟩ := app_pairs o1 (hx.grow b1) (by simp; omega) b1.size
  rw [List.nil_append] at p1
  have bw1 : Below W.heap.size W w1 := b1.trans (Own.grow_below o1 g1 b1.size)
  have o3 : lastR.Own w1 W.heap.size 46 (.slice (some ⟨W.heap.size + 1, 0, none⟩) 0 0) [] := row_same o2 fun p hp => g1.block p (o2.lt p hp).2 (fun e => by have h1 : p = W.heap.size := Option.some.inj e; have h2 : W.heap.size + 1 = p := Option.some.inj hp; omega)
  obtain ⟨v2, w2, r2, p2, g2, -⟩ := app_lasts o3 (hy.grow bw1) (by simp; omega) bw1.size
  rw [List.nil_append] at p2
  have b3 := Own.grow_below o3 g2 bw1.size
  have p3 : pairR.Own w2 W.heap.size 24 v1 m := row_same p1 fun p hp => g2.block p (p1.lt p hp).2 (fun e => by
    have h1 : p = W.heap.size + 1 := Option.some.inj e
    rcases q1 with q1 | q1
    · rw [q1] at hp
      have h2 : W.heap.size = p := Option.some.inj hp
      omega
    · rw [q1, hs2] at hp
      have h2 : W.heap.size + 2 = p := Option.some.inj hp
      omega)
  exact ⟨v1, w1, v2, w2, r1, r2, p3, p2, bw1, bw1.trans b3⟩
theorem two_apps3 (hx : pairR.N W Any x m) (hy : lastR.N W Any y l) (hm : m.length ≤ 4398046511000) (hl : l.length ≤ 3518437208880) :
    ∃ v1 w1 v2 w2, (Builtin.append_ #[25, 25] 25 #[.slice (some ⟨W.heap.size + 1, 0, none⟩) 0 0, x]).run Try.prog ((W.alloc (.cells #[] 46)).alloc (.cells #[] 24)).drew = .ok v1 w1 ∧ (Builtin.append_ #[33, 33] 33 #[.slice (some ⟨W.heap.size, 0, none⟩) 0 0, y]).run Try.prog w1 = .ok v2 w2 ∧ pairR.Own w2 W.heap.size 24 v1 m ∧ lastR.Own w2 W.heap.size 46 v2 l ∧ Below W.heap.size W w1 ∧ Below W.heap.size W w2 := by
  have hs : (W.alloc (.cells #[] 46)).heap.size = W.heap.size + 1 := by simp
  have b1 : Below W.heap.size W ((W.alloc (.cells #[] 46)).alloc (.cells #[] 24)).drew := (((Below.refl _ _).alloc (Nat.le_refl _) _).alloc (by simp) _).drew
  have hs2 : ((W.alloc (.cells #[] 46)).alloc (.cells #[] 24)).drew.heap.size = W.heap.size + 2 := by rw [drew_heap]; simp
  have o2 : lastR.Own ((W.alloc (.cells #[] 46)).alloc (.cells #[] 24)).drew W.heap.size 46 (.slice (some ⟨W.heap.size, 0, none⟩) 0 0) [] := Rec.Own.below (Own.lit lastR W 46 (Nat.le_refl _)) (((Below.refl _ _).alloc (Nat.le_refl _) _).drew)
  have o1 : pairR.Own ((W.alloc (.cells #[] 46)).alloc (.cells #[] 24)).drew W.heap.size 24 (.slice (some ⟨W.heap.size + 1, 0, none⟩) 0 0) [] := by
    have h := Own.lit pairR (W.alloc (.cells #[] 46)) 24 (B := W.heap.size) (by simp)
    rw [hs] at h
    exact h
  obtain ⟨v1, w1, r1, p1, g1, q1⟩ := app_pairs o1 (hx.grow b1) (by simp; omega) b1.size
  rw [List.nil_append] at p1
  have bw1 : Below W.heap.size W w1 := b1.trans (Own.grow_below o1 g1 b1.size)
  have o3 : lastR.Own w1 W.heap.size 46 (.slice (some ⟨W.heap.size, 0, none⟩) 0 0) [] := row_same o2 fun p hp => g1.block p (o2.lt p hp).2 (fun e => by have h1 : p = W.heap.size + 1 := Option.some.inj e; have h2 : W.heap.size = p := Option.some.inj hp; omega)
  obtain ⟨v2, w2, r2, p2, g2, -⟩ := app_lasts o3 (hy.grow bw1) (by simp; omega) bw1.size
  rw [List.nil_append] at p2
  have b3 := Own.grow_below o3 g2 bw1.size
  have p3 : pairR.Own w2 W.heap.size 24 v1 m := row_same p1 fun p hp => g2.block p (p1.lt p hp).2 (fun e => by
    have h1 : p = W.heap.size := Option.some.inj e
    rcases q1 with q1 | q1
    · rw [q1] at hp
      have h2 : W.heap.size + 1 = p := Option.some.inj hp
      omega
    · rw [q1, hs2] at hp
      have h2 : W.heap.size + 2 = p := Option.some.inj hp
      omega)
  exact ⟨v1, w1, v2, w2, r1, r2, p3, p2, bw1, bw1.trans b3⟩
end
end Go.Proofs.Ytlgjidoehnhnoaa
