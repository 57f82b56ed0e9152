/-
  Long chains of '&&' and '||': a group of operations at a time, over a frame of which no more is said than is wanted. No statement is proved here. No condition.
-/
import Derived.Test.YtblbcoknefgcaaaMSameE
namespace Go.Proofs.Ytblbcoknefgcaaa
open Go.RowKit

section
variable {P : Program} {ops : Array Oper} {Q : Exit → Act → World → Prop} {rest : List Oper} {o : Oper} {a : Act} {w w' : World} {v : Value}
theorem wl_val (hw : Region.wanted o (yielded ops a.tmps) = true) (hr : (execOp a.eval o).run P w = .ok (.value v) w') (h : wpList P ops Q rest (a.put o.dst v) w') : wpList P ops Q (o :: rest) a w := by
  unfold wpList
  rw [if_pos hw]
  refine .inl ?_
  unfold Oper.wp
  rw [hr]
  exact h
theorem wl_call {f : FuncId} {args : Array Value} {R : Ending → World → Prop} (hw : Region.wanted o (yielded ops a.tmps) = true) (hr : (execOp a.eval o).run P w = .ok (.enter f args) w) (hc : Calls P f args w R) (hR : ∀ e w', R e w' → ∃ v, e = .returned v ∧ wpList P ops Q rest (a.put o.dst v) w') : wpList P ops Q (o :: rest) a w := by
  unfold wpList
  rw [if_pos hw]
  refine .inl ?_
  unfold Oper.wp
  rw [hr]
  refine hc.mono fun e w' he => ?_
  obtain ⟨v, rfl, h⟩ := hR e w' he
  exact h
theorem wanted_g {gi g : Nat} {b pol : Bool} (hg : o.guard = some (gi, pol)) (hd : (ops[gi]?).bind (·.dst) = some g) (ha : a.tmps[g]? = some (.bool b)) : Region.wanted o (yielded ops a.tmps) = (b == pol) := by
  simp only [Region.wanted, hg, yielded, hd, Option.bind_some, ha]
  cases b <;> cases pol <;> rfl
theorem wanted_n (hg : o.guard = none) : Region.wanted o (yielded ops a.tmps) = true := by simp [Region.wanted, hg]
theorem put_size (a : Act) (d : Option Tmp) (v : Value) : (a.put d v).tmps.size = a.tmps.size := by cases d <;> simp [Act.put]
theorem put_defers (a : Act) (d : Option Tmp) (v : Value) : (a.put d v).defers = a.defers := by cases d <;> rfl
theorem put_at {a : Act} {d : Nat} {v : Value} (h : d < a.tmps.size) : (a.put (some d) v).tmps[d]? = some v := by simp [Act.put, h]
theorem put_far {a : Act} {d j : Nat} {v : Value} (h : ¬ (j : Nat) = d) : (a.put (some d) v).tmps[j]? = a.tmps[j]? := by
  simp only [Act.put]
  rw [Array.getElem?_setIfInBounds_ne (fun e => h e.symm)]
theorem eval_tmp {x : Tmp} (h : a.tmps[x]? = some v) : a.eval (.tmp x) = v := by simp [Act.eval, Array.getD_eq_getD_getElem?, h]
/-- what is kept of a frame: the slots below k -/
structure FrB (k : Nat) (a a' : Act) : Prop where
  size : a'.tmps.size = a.tmps.size
  defers : a'.defers = a.defers
  keep : ∀ j, j < k → a'.tmps[j]? = a.tmps[j]?
theorem FrB.refl (k : Nat) (a : Act) : FrB k a a := ⟨rfl, rfl, fun _ _ => rfl⟩
theorem FrB.put {k d : Nat} {a a' : Act} (h : FrB k a a') (hd : k ≤ d) (v : Value) : FrB k a (a'.put (some d) v) :=
  ⟨(put_size _ _ _).trans h.size, (put_defers _ _ _).trans h.defers, fun j hj => (put_far (by omega)).trans (h.keep j hj)⟩
theorem FrB.trans {k l : Nat} {a b c : Act} (h : FrB k a b) (g : FrB l b c) (hl : k ≤ l) : FrB k a c := ⟨g.size.trans h.size, g.defers.trans h.defers, fun j hj => (g.keep j (by omega)).trans (h.keep j hj)⟩
/-- operations by their kinds -/
theorem ex_move {x : Tmp} (e : o.op = .move (.tmp x)) (h : a.tmps[x]? = some v) : (execOp a.eval o).run P w = .ok (.value v) w := by
  unfold execOp
  rw [e]
  simp only [eval_tmp h, Sem.run_pure]
theorem ex_assign {x : Tmp} (e : o.op = .assign (.tmp x)) (h : a.tmps[x]? = some v) : (execOp a.eval o).run P w = .ok (.value v) w := by
  unfold execOp
  rw [e]
  simp only [eval_tmp h, Sem.run_pure]
theorem ex_assignc {u : Value} (e : o.op = .assign (.const u)) : (execOp a.eval o).run P w = .ok (.value u) w := by
  unfold execOp
  rw [e]
  simp only [Act.eval, Sem.run_pure]
theorem ex_fa {s : TypeId} {x : Tmp} {k : Nat} {u : Value} (e : o.op = .fieldAddr s (.tmp x) k) (h : a.tmps[x]? = some v) (hf : (Instr.fieldAt s v k).run P w = .ok u w) : (execOp a.eval o).run P w = .ok (.value u) w := by
  unfold execOp
  rw [e]
  simp only [eval_tmp h, Sem.run_bind, hf, Result.andThen_ok, Sem.run_pure]
theorem ex_load {t : TypeId} {x : Tmp} {u : Value} (e : o.op = .load t (.tmp x)) (h : a.tmps[x]? = some v) (hf : (Instr.loadAt t v).run P w = .ok u w) : (execOp a.eval o).run P w = .ok (.value u) w := by
  unfold execOp
  rw [e]
  simp only [eval_tmp h, Sem.run_bind, hf, Result.andThen_ok, Sem.run_pure]
theorem ex_bin {op : BinOp} {t t' : TypeId} {x y : Tmp} {u r : Value} (e : o.op = .binOp op t (.tmp x) (.tmp y) t') (h : a.tmps[x]? = some v) (k : a.tmps[y]? = some u) (hg : (eqGuard op t (.tmp x) (.tmp y) v u).run P w = .ok () w) (hf : (binOp op t v u).run P w = .ok r w) : (execOp a.eval o).run P w = .ok (.value r) w := by
  unfold execOp
  rw [e]
  simp only [eval_tmp h, eval_tmp k, Sem.run_bind, hg, hf, Result.andThen_ok, Sem.run_pure]
theorem ex_pick {c : Tmp} {x y : Operand} {b : Bool} (e : o.op = .pick (.tmp c) x y) (h : a.tmps[c]? = some (.bool b)) : (execOp a.eval o).run P w = .ok (.value (if b then a.eval x else a.eval y)) w := by
  unfold execOp
  rw [e]
  simp only [eval_tmp h, asBool, Sem.run_bind, Sem.run_pure, Result.andThen_ok]
theorem ex_pickA {g y : Nat} {b : Bool} (e : o.op = .pick (.tmp g) (.tmp y) (.const (.bool false))) (h : a.tmps[g]? = some (.bool b)) : (execOp a.eval o).run P w = .ok (.value (if b then (if true then (a.tmps[y]?).getD undef else .bool true) else (if true then .bool false else (a.tmps[y]?).getD undef))) w := by
  rw [ex_pick e h]
  cases b <;> simp [Act.eval, Array.getD_eq_getD_getElem?]
theorem ex_pickO {g y : Nat} {b : Bool} (e : o.op = .pick (.tmp g) (.const (.bool true)) (.tmp y)) (h : a.tmps[g]? = some (.bool b)) : (execOp a.eval o).run P w = .ok (.value (if b then (if false then (a.tmps[y]?).getD undef else .bool true) else (if false then .bool false else (a.tmps[y]?).getD undef))) w := by
  rw [ex_pick e h]
  cases b <;> simp [Act.eval, Array.getD_eq_getD_getElem?]
theorem run_enter {f : FuncId} {fn : Func} {args : Array Value} (hf : P.funcs[f]? = some fn) (hname : (fn.name == "runtime.NumGoroutine") = false) (hb : fn.body.isNone = false) : (callFunc f args).run P w = .ok (.enter f args) w := by
  have h1 : fn.name ≠ "runtime.NumGoroutine" := by simpa using hname
  cases h : fn.body with
  | none => simp [h] at hb
  | some c => simp [callFunc, hf, h1, h]
theorem ex_call2 {f x y : Nat} {ts : Array TypeId} {v1 v2 : Value} (e : o.op = .call { callee := .value (.func f), args := #[.tmp x, .tmp y], argTypes := ts }) (hcf : (callFunc f #[v1, v2]).run P w = .ok (.enter f #[v1, v2]) w) (h1 : a.tmps[x]? = some v1) (h2 : a.tmps[y]? = some v2) : (execOp a.eval o).run P w = .ok (.enter f #[v1, v2]) w := by
  unfold execOp
  rw [e]
  simp only [resolve, invoke, Sem.run_bind, Sem.run_pure, Result.andThen_ok, List.map_toArray, List.map_cons, List.map_nil, eval_tmp h1, eval_tmp h2]
  go_simp
  try exact hcf
theorem ex_call2f {f k x y : Nat} {ts : Array TypeId} {v1 v2 : Value} (e : o.op = .call { callee := .value (.func f), args := #[.tmp x, .tmp y, .func k], argTypes := ts }) (hcf : (callFunc f #[v1, v2, .func (.func k) #[] #[]]).run P w = .ok (.enter f #[v1, v2, .func (.func k) #[] #[]]) w) (h1 : a.tmps[x]? = some v1) (h2 : a.tmps[y]? = some v2) : (execOp a.eval o).run P w = .ok (.enter f #[v1, v2, .func (.func k) #[] #[]]) w := by
  unfold execOp
  rw [e]
  simp only [resolve, invoke, Sem.run_bind, Sem.run_pure, Result.andThen_ok, List.map_toArray, List.map_cons, List.map_nil, eval_tmp h1, eval_tmp h2]
  go_simp
  try exact hcf
theorem results_t {fn : Func} {s : Nat} {tmps : Array Value} (h : fn.results = #[.tmp s]) (ht : tmps[s]? = some v) : (results fn tmps).run P w = .ok v w := by
  simp only [results, h]
  simp [Array.getD_eq_getD_getElem?, ht]
theorem and_z (b r : Bool) : (if b == true then r else !true) = (b && r) := by cases b <;> simp
theorem or_z (b r : Bool) : (if b == false then r else !false) = (b || r) := by cases b <;> simp
theorem wl_gen {l : List Oper} {n : Nat} {x y : Nat} {pv qv : Value} (hs : a.tmps.size = n) (hd : a.defers = []) (h2 : a.tmps[x]? = some pv) (h3 : a.tmps[y]? = some qv) (h : ∀ a : Act, a.tmps.size = n → a.defers = [] → a.tmps[x]? = some pv → a.tmps[y]? = some qv → wpList P ops Q l a w) : wpList P ops Q l a w := h a hs hd h2 h3
/-- a group: two fields are loaded and held against each other, where the guard lets them; then the pick -/
theorem grp {o1 o2 o3 o4 o5 o6 : Oper} {gi g k x y : Nat} {b r pol : Bool} {pv qv v1 u1 v3 u3 : Value}
    (hgi : (ops[gi]?).bind (·.dst) = some g) (g1 : o1.guard = some (gi, pol)) (g2 : o2.guard = some (gi, pol)) (g3 : o3.guard = some (gi, pol)) (g4 : o4.guard = some (gi, pol)) (g5 : o5.guard = some (gi, pol)) (n6 : o6.guard = none)
    (d1 : o1.dst = some k) (d2 : o2.dst = some (k + 1)) (d3 : o3.dst = some (k + 2)) (d4 : o4.dst = some (k + 3)) (d5 : o5.dst = some (k + 4)) (d6 : o6.dst = some (k + 5))
    (hk : k + 5 < a.tmps.size) (hgk : g < k) (hyk : y < k)
    (hb : a.tmps[g]? = some (.bool b)) (hx : a.tmps[x]? = some pv) (hy : a.tmps[y]? = some qv)
    (R1 : ∀ a : Act, a.tmps[x]? = some pv → (execOp a.eval o1).run P w = .ok (.value v1) w) (R2 : ∀ a : Act, a.tmps[k]? = some v1 → (execOp a.eval o2).run P w = .ok (.value u1) w)
    (R3 : ∀ a : Act, a.tmps[y]? = some qv → (execOp a.eval o3).run P w = .ok (.value v3) w) (R4 : ∀ a : Act, a.tmps[k + 2]? = some v3 → (execOp a.eval o4).run P w = .ok (.value u3) w)
    (R5 : ∀ a : Act, a.tmps[k + 1]? = some u1 → a.tmps[k + 3]? = some u3 → (execOp a.eval o5).run P w = .ok (.value (.bool r)) w)
    (R6 : ∀ (a : Act) (b : Bool), a.tmps[g]? = some (.bool b) → (execOp a.eval o6).run P w = .ok (.value (if b then (if pol then (a.tmps[k + 4]?).getD undef else .bool true) else (if pol then .bool false else (a.tmps[k + 4]?).getD undef))) w)
    (h : ∀ a' : Act, FrB k a a' → a'.tmps[k + 5]? = some (.bool (if b == pol then r else !pol)) → wpList P ops Q rest a' w) : wpList P ops Q (o1 :: o2 :: o3 :: o4 :: o5 :: o6 :: rest) a w := by
  by_cases hbp : b = pol
  · subst hbp
    have hw : ∀ {o : Oper} {a' : Act}, o.guard = some (gi, b) → a'.tmps[g]? = some (.bool b) → Region.wanted o (yielded ops a'.tmps) = true := fun h1 h2 => by rw [wanted_g h1 hgi h2]; simp
    have f1 := (FrB.refl k a).put (Nat.le_refl k) v1
    have f2 := f1.put (d := k + 1) (by omega) u1
    have f3 := f2.put (d := k + 2) (by omega) v3
    have f4 := f3.put (d := k + 3) (by omega) u3
    have f5 := f4.put (d := k + 4) (by omega) (.bool r)
    refine wl_val (hw g1 hb) (R1 a hx) ?_
    rw [d1]
    refine wl_val (hw g2 ((f1.keep g hgk).trans hb)) (R2 _ (put_at (by omega))) ?_
    rw [d2]
    refine wl_val (hw g3 ((f2.keep g hgk).trans hb)) (R3 _ ((f2.keep y hyk).trans hy)) ?_
    rw [d3]
    refine wl_val (hw g4 ((f3.keep g hgk).trans hb)) (R4 _ (put_at (by rw [f2.size]; omega))) ?_
    rw [d4]
    refine wl_val (hw g5 ((f4.keep g hgk).trans hb)) (R5 _ ?_ (put_at (by rw [f3.size]; omega))) ?_
    · rw [put_far (by omega), put_far (by omega)]
      exact put_at (by rw [f1.size]; omega)
    rw [d5]
    refine wl_val (wanted_n n6) (R6 _ b ((f5.keep g hgk).trans hb)) ?_
    rw [d6, put_at (d := k + 4) (by rw [f4.size]; omega)]
    refine h _ (f5.put (by omega) _) ?_
    rw [put_at (by rw [f5.size]; omega)]
    cases b <;> simp
  · have hbn : b = !pol := by cases b <;> cases pol <;> simp_all
    subst hbn
    have hw : ∀ {o : Oper} {a' : Act}, o.guard = some (gi, pol) → a'.tmps[g]? = some (.bool (!pol)) → Region.wanted o (yielded ops a'.tmps) = false := fun h1 h2 => by rw [wanted_g h1 hgi h2]; cases pol <;> rfl
    have f1 := (FrB.refl k a).put (Nat.le_refl k) undef
    have f2 := f1.put (d := k + 1) (by omega) undef
    have f3 := f2.put (d := k + 2) (by omega) undef
    have f4 := f3.put (d := k + 3) (by omega) undef
    have f5 := f4.put (d := k + 4) (by omega) undef
    refine wpList_skip (hw g1 hb) ?_
    rw [d1]
    refine wpList_skip (hw g2 ((f1.keep g hgk).trans hb)) ?_
    rw [d2]
    refine wpList_skip (hw g3 ((f2.keep g hgk).trans hb)) ?_
    rw [d3]
    refine wpList_skip (hw g4 ((f3.keep g hgk).trans hb)) ?_
    rw [d4]
    refine wpList_skip (hw g5 ((f4.keep g hgk).trans hb)) ?_
    rw [d5]
    refine wl_val (wanted_n n6) (R6 _ (!pol) ((f5.keep g hgk).trans hb)) ?_
    rw [d6]
    refine h _ (f5.put (by omega) _) ?_
    rw [put_at (by rw [f5.size]; omega)]
    cases pol <;> simp
/-- .. by a call -/
theorem grpc {o1 o2 o3 o4 o5 o6 : Oper} {gi g k x y : Nat} {b r pol : Bool} {pv qv v1 u1 v3 u3 : Value} {f : FuncId} {args : Array Value}
    (hgi : (ops[gi]?).bind (·.dst) = some g) (g1 : o1.guard = some (gi, pol)) (g2 : o2.guard = some (gi, pol)) (g3 : o3.guard = some (gi, pol)) (g4 : o4.guard = some (gi, pol)) (g5 : o5.guard = some (gi, pol)) (n6 : o6.guard = none)
    (d1 : o1.dst = some k) (d2 : o2.dst = some (k + 1)) (d3 : o3.dst = some (k + 2)) (d4 : o4.dst = some (k + 3)) (d5 : o5.dst = some (k + 4)) (d6 : o6.dst = some (k + 5))
    (hk : k + 5 < a.tmps.size) (hgk : g < k) (hyk : y < k)
    (hb : a.tmps[g]? = some (.bool b)) (hx : a.tmps[x]? = some pv) (hy : a.tmps[y]? = some qv)
    (R1 : ∀ a : Act, a.tmps[x]? = some pv → (execOp a.eval o1).run P w = .ok (.value v1) w) (R2 : ∀ a : Act, a.tmps[k]? = some v1 → (execOp a.eval o2).run P w = .ok (.value u1) w)
    (R3 : ∀ a : Act, a.tmps[y]? = some qv → (execOp a.eval o3).run P w = .ok (.value v3) w) (R4 : ∀ a : Act, a.tmps[k + 2]? = some v3 → (execOp a.eval o4).run P w = .ok (.value u3) w)
    (R5 : ∀ a : Act, a.tmps[k + 1]? = some u1 → a.tmps[k + 3]? = some u3 → (execOp a.eval o5).run P w = .ok (.enter f args) w)
    (hc : Calls P f args w fun e w' => e = .returned (.bool r) ∧ Below w.heap.size w w')
    (R6 : ∀ (a : Act) (b : Bool) (w : World), a.tmps[g]? = some (.bool b) → (execOp a.eval o6).run P w = .ok (.value (if b then (if pol then (a.tmps[k + 4]?).getD undef else .bool true) else (if pol then .bool false else (a.tmps[k + 4]?).getD undef))) w)
    (h : ∀ (a' : Act) (w' : World), FrB k a a' → Below w.heap.size w w' → a'.tmps[k + 5]? = some (.bool (if b == pol then r else !pol)) → wpList P ops Q rest a' w') : wpList P ops Q (o1 :: o2 :: o3 :: o4 :: o5 :: o6 :: rest) a w := by
  by_cases hbp : b = pol
  · subst hbp
    have hw : ∀ {o : Oper} {a' : Act}, o.guard = some (gi, b) → a'.tmps[g]? = some (.bool b) → Region.wanted o (yielded ops a'.tmps) = true := fun h1 h2 => by rw [wanted_g h1 hgi h2]; simp
    have f1 := (FrB.refl k a).put (Nat.le_refl k) v1
    have f2 := f1.put (d := k + 1) (by omega) u1
    have f3 := f2.put (d := k + 2) (by omega) v3
    have f4 := f3.put (d := k + 3) (by omega) u3
    have f5 := f4.put (d := k + 4) (by omega) (.bool r)
    refine wl_val (hw g1 hb) (R1 a hx) ?_
    rw [d1]
    refine wl_val (hw g2 ((f1.keep g hgk).trans hb)) (R2 _ (put_at (by omega))) ?_
    rw [d2]
    refine wl_val (hw g3 ((f2.keep g hgk).trans hb)) (R3 _ ((f2.keep y hyk).trans hy)) ?_
    rw [d3]
    refine wl_val (hw g4 ((f3.keep g hgk).trans hb)) (R4 _ (put_at (by rw [f2.size]; omega))) ?_
    rw [d4]
    refine wl_call (hw g5 ((f4.keep g hgk).trans hb)) (R5 _ ?_ (put_at (by rw [f3.size]; omega))) hc ?_
    · rw [put_far (by omega), put_far (by omega)]
      exact put_at (by rw [f1.size]; omega)
    rintro e w2 ⟨rfl, hb2⟩
    refine ⟨_, rfl, ?_⟩
    rw [d5]
    refine wl_val (wanted_n n6) (R6 _ b w2 ((f5.keep g hgk).trans hb)) ?_
    rw [d6, put_at (d := k + 4) (by rw [f4.size]; omega)]
    refine h _ w2 (f5.put (by omega) _) hb2 ?_
    rw [put_at (by rw [f5.size]; omega)]
    cases b <;> simp
  · have hbn : b = !pol := by cases b <;> cases pol <;> simp_all
    subst hbn
    have hw : ∀ {o : Oper} {a' : Act}, o.guard = some (gi, pol) → a'.tmps[g]? = some (.bool (!pol)) → Region.wanted o (yielded ops a'.tmps) = false := fun h1 h2 => by rw [wanted_g h1 hgi h2]; cases pol <;> rfl
    have f1 := (FrB.refl k a).put (Nat.le_refl k) undef
    have f2 := f1.put (d := k + 1) (by omega) undef
    have f3 := f2.put (d := k + 2) (by omega) undef
    have f4 := f3.put (d := k + 3) (by omega) undef
    have f5 := f4.put (d := k + 4) (by omega) undef
    refine wpList_skip (hw g1 hb) ?_
    rw [d1]
    refine wpList_skip (hw g2 ((f1.keep g hgk).trans hb)) ?_
    rw [d2]
    refine wpList_skip (hw g3 ((f2.keep g hgk).trans hb)) ?_
    rw [d3]
    refine wpList_skip (hw g4 ((f3.keep g hgk).trans hb)) ?_
    rw [d4]
    refine wpList_skip (hw g5 ((f4.keep g hgk).trans hb)) ?_
    rw [d5]
    refine wl_val (wanted_n n6) (R6 _ (!pol) w ((f5.keep g hgk).trans hb)) ?_
    rw [d6]
    refine h _ w (f5.put (by omega) _) (Below.refl _ _) ?_
    rw [put_at (by rw [f5.size]; omega)]
    cases pol <;> simp
/-- a move -/
theorem mv {k : Nat} (n : o.guard = none) (d : o.dst = some k) (hk : k < a.tmps.size) (R : (execOp a.eval o).run P w = .ok (.value v) w) (h : ∀ a' : Act, FrB k a a' → a'.tmps[k]? = some v → wpList P ops Q rest a' w) : wpList P ops Q (o :: rest) a w := by
  refine wl_val (wanted_n n) R ?_
  rw [d]
  exact h _ ((FrB.refl k a).put (Nat.le_refl k) v) (put_at hk)
end
end Go.Proofs.Ytblbcoknefgcaaa
