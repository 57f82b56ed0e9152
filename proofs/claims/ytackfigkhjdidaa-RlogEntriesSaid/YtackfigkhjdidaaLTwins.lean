/-
  Twins of many entries: the program's. No statement is proved here. No condition.
-/
import Derived.Test.YtackfigkhjdidaaLTwin
import Derived.Laws.CopyRow
namespace Go.Proofs.Ytackfigkhjdidaa
open Go.RowKit

theorem ents_made (w : World) (n : Nat) (hn : n ≤ 2513169434916) : ∃ C w', (Instr.makeSlice 31 (.int .i64 (n : Int)) (.int .i64 (n : Int))).run Try.prog w = .ok (.slice (some ⟨w.heap.size, 0, none⟩) n n) w' ∧
    w'.heap[w.heap.size]? = some (.cells C 50 (0, 0)) ∧ C.size = n * 4 ∧ Below w.heap.size w w' ∧ w'.heap.size = w.heap.size + 1 := by
  obtain ⟨i0, hi, hz0, hz1, hz2⟩ := info_parts info_cEntry
  have hr := run_make (P := Try.prog) w 31 50 i0 _ Try.underlying31 hi hz0 .i64 .i64 (n : Int) (n : Int) (by omega) (Int.le_refl _) (by rw [hz2]; omega) (by omega)
  rw [hz1, Int.toNat_natCast] at hr
  exact ⟨_, _, hr, heap_alloc_new w _, size_madeCells _ _, (Below.refl _ _).alloc (Nat.le_refl _) _, by simp⟩
/-- copy, its run known -/
theorem wpList_cp {P : Program} {w : World} {ops : Array Oper} {rest : List Oper} {o : Oper} {a : Act} {Q : Exit → Act → World → Prop} (hgd : o.guard = none) (d s : Operand) (t : TypeId)
    (ho : o.op = .call { callee := .builtin .copy, args := #[d, s], argTypes := #[t, t] }) (v u : Value) (hd : a.eval d = v) (hs : a.eval s = u) {v' : Value} {w' : World}
    (hr : (Builtin.copy_ #[t, t] o.type #[v, u]).run P w = .ok v' w') (h : wpList P ops Q rest (a.put o.dst v') w') : wpList P ops Q (o :: rest) a w := by
  refine wpList_plain hgd fun K hK => ?_
  unfold Oper.wp execOp
  simp only [ho, resolve, invoke, builtin, Sem.run_bind, Sem.run_pure, Result.andThen_ok, List.map_toArray, List.map_cons, List.map_nil, hd, hs, hr]
  exact hK _ _ h
set_option maxRecDepth 100000 in
/-- the copy into room that was made -/
theorem ents_copied (w : World) {g : Nat} {C : Array Value} {rs : List RE} {v : Value} (hg : w.heap[g]? = some (.cells C 50 (0, 0))) (hC : C.size = rs.length * 4) (h : entR.N w Any v rs) (hm : rs.length ≤ maxLen) :
    ∃ u w', (Builtin.copy_ #[31, 31] 3 #[.slice (some ⟨g, 0, none⟩) rs.length rs.length, v]).run Try.prog w = .ok u w' ∧ entR.Own w' g 50 (.slice (some ⟨g, 0, none⟩) rs.length rs.length) rs ∧ Below g w w' ∧ (∀ b, b ≠ g → w'.heap[b]? = w.heap[b]?) ∧ w.heap.size ≤ w'.heap.size := by
  have hsz : (Try.prog.info? 50).map (·.size) = some 4 := by kernel_rfl
  obtain ⟨A, c, rfl, h2, h3⟩ := h.slice
  have hlen : (entR.row rs).length = rs.length * 4 := entR.row_length rs
  cases A with
  | none =>
    have hc : c = 0 := by
      obtain ⟨A', c', hv, -, -, -, h4, -⟩ := h
      injection hv with e1 _ e3
      subst e3
      exact h4 e1.symm
    have hl0 : rs.length = 0 := by omega
    have hln : rs = [] := List.eq_nil_of_length_eq_zero hl0
    subst hln hc
    have hCe : C = #[] := Array.eq_empty_of_size_eq_zero (by rw [hC]; rfl)
    subst hCe
    exact ⟨_, w, run_copy_nil _ w _ _ _ 50 _ _ _ Try.underlying31 (by rw [hsz]; rfl), Rec.own_closed (R := entR) (l := []) (rest := []) (cap := 0) (Nat.le_refl _) (by simpa [Rec.row] using hg) (Nat.le_refl _) (Nat.zero_le _) (by rfl), Below.refl _ _, fun _ _ => rfl, Nat.le_refl _⟩
  | some a =>
    have hsrc : ∀ j u, (entR.row rs)[j]? = some u → w.cell? (a.add j) = some u := by
      intro j u hu
      obtain ⟨A', c', hv, k1, k2, k3, k4, k5⟩ := h
      injection hv with e1 e2 e3
      have h0 : 0 < rs.length := by
        rcases Nat.eq_zero_or_pos rs.length with e | e
        · have := List.eq_nil_of_length_eq_zero e
          subst this
          simp [Rec.row] at hu
        · exact e
      obtain ⟨b, o, hA, -, -, hc⟩ := k5 h0
      subst e1
      injection hA with hA
      subst hA
      rw [plus_zero]
      exact hc j u hu
    have hr := run_copyK (P := Try.prog) (w := w) 31 31 3 50 (g := g) (o := 0) (dLen := rs.length) (dCap := rs.length) (a := a) (sLen := rs.length) (sCap := c) (k := 4) (T := 50) (pre := []) (old := C.toList) (post := []) (cs := entR.row rs) Try.underlying31 hsz (by simpa using hg) rfl (by rw [hlen, Array.length_toList, hC]) (by rw [hlen]; simp) hsrc (entR.row_one rs)
    refine ⟨_, _, hr, ?_, below_setRow (Below.refl _ _) (Nat.le_refl _) _, fun b hb => setRow_other w g b _ hb, by simp⟩
    have e := setRow_heap w g C ([] ++ entR.row rs ++ []).toArray 50 _ hg
    refine Rec.own_closed (R := entR) (l := rs) (rest := []) (cap := rs.length) (Nat.le_refl _) (by simpa using e) (Nat.le_refl _) hm (by simp)
end Go.Proofs.Ytackfigkhjdidaa
