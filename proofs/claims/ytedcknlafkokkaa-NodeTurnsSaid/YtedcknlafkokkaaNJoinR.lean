/-
  Two nodes and what stands between made one, by the document's words: its Join; with the law of a statement 'x, y := f(a), f(b)' whose operations come up in whatever order. No statement is proved here. No condition.
-/
import Derived.Test.YtedcknlafkokkaaNGivN
import Derived.Test.YtedcknlafkokkaaNCutR
import Derived.Test.YtedcknlafkokkaaNJoin
namespace Go.Proofs.Ytedcknlafkokkaa
open Go.RowKit

theorem below_al {w W : World} {o : Obj} (h : Below w.heap.size w W) : Below w.heap.size w (W.alloc o) := h.alloc h.size _

/-- the operations -/
def pairOps (T U f s t d0 d1 d2 d3 p q : Nat) (pos : String) : Array Oper :=
  #[{ dst := some d0, op := Op.load T (Operand.tmp s), type := T, pos := pos, after := #[], guard := none },
    { dst := some d1, op := Op.call { callee := Callee.value (Operand.func f), args := #[Operand.tmp d0], argTypes := #[T] }, type := U, pos := pos, after := #[{ on := 0, ground := Ground.data }], guard := none },
    { dst := some d2, op := Op.load T (Operand.tmp t), type := T, pos := pos, after := #[], guard := none },
    { dst := some d3, op := Op.call { callee := Callee.value (Operand.func f), args := #[Operand.tmp d2], argTypes := #[T] }, type := U, pos := pos, after := #[{ on := 2, ground := Ground.data }, { on := 1, ground := Ground.chain }], guard := none },
    { dst := some p, op := Op.alloc U, type := 0, pos := pos, after := #[], guard := none },
    { dst := some q, op := Op.alloc U, type := 0, pos := pos, after := #[], guard := none },
    { dst := none, op := Op.store U (Operand.tmp p) (Operand.tmp d1), type := 0, pos := pos, after := #[{ on := 4, ground := Ground.data }, { on := 1, ground := Ground.data }, { on := 3, ground := Ground.chain }, { on := 0, ground := Ground.phase }, { on := 1, ground := Ground.phase }, { on := 2, ground := Ground.textOnly Departure.lateStores }, { on := 3, ground := Ground.textOnly Departure.lateStoresUnsure }, { on := 4, ground := Ground.phase }, { on := 5, ground := Ground.phase }], guard := none },
    { dst := none, op := Op.store U (Operand.tmp q) (Operand.tmp d3), type := 0, pos := pos, after := #[{ on := 5, ground := Ground.data }, { on := 3, ground := Ground.data }, { on := 6, ground := Ground.chain }, { on := 0, ground := Ground.phase }, { on := 1, ground := Ground.phase }, { on := 2, ground := Ground.phase }, { on := 3, ground := Ground.phase }, { on := 4, ground := Ground.phase }, { on := 5, ground := Ground.phase }, { on := 6, ground := Ground.phase }], guard := none }]

section
variable {P : Program} {ops : Array Oper} {Q : Exit → Act → World → Prop}

theorem count_set {l : List Bool} {i : Nat} (h : l[i]? = some false) : (l.set i true).count false + 1 = l.count false := by
  induction l generalizing i with
  | nil => simp at h
  | cons b l ih =>
    cases i with
    | zero =>
      have hb : b = false := by simpa using h
      subst hb
      simp
    | succ i =>
      have h1 : l[i]? = some false := by simpa using h
      have := ih h1
      simp only [List.set_cons_succ, List.count_cons]
      omega

/-- An invariant of what has come up, of the temporaries and of the world serves a region whatever its order. -/
theorem wpAny_inv (Inv : Array Bool → Act → World → Prop) (hdone : ∀ l a w, Inv l a w → Region.ready .any ops l = [] → Q .normal a w)
    (hstep : ∀ l a w, Inv l a w → ∀ i ∈ Region.ready .any ops l, wpOp P ops Q i (fun a' w' => Inv (l.setIfInBounds i true) a' w') a w) :
    ∀ (fuel : Nat) (l : Array Bool) (a : Act) (w : World), Inv l a w → l.toList.count false ≤ fuel → wpAny P .any ops Q fuel l a w := by
  intro fuel
  induction fuel with
  | zero =>
    intro l a w h hc
    have hr : Region.ready .any ops l = [] := by
      cases hr : Region.ready .any ops l with
      | nil => rfl
      | cons i rs =>
        have hi : i ∈ Region.ready .any ops l := by rw [hr]; exact List.mem_cons_self
        have h1 := (mem_ready.1 hi).1
        have h2 : l.toList[i]? = some false := by
          rcases Nat.lt_or_ge i l.size with h' | h'
          · simp [h'] at h1; simp [h', h1]
          · simp [h'] at h1
        have := count_set h2
        omega
    exact ⟨hr, hdone l a w h hr⟩
  | succ fuel ih =>
    intro l a w h hc
    refine ⟨fun hr => hdone l a w h hr, fun i hi => wpOp_mono (fun a' w' h' => ih _ a' w' h' ?_) (hstep l a w h i hi)⟩
    have h1 := (mem_ready.1 hi).1
    have h2 : l.toList[i]? = some false := by
      rcases Nat.lt_or_ge i l.size with h' | h'
      · simp [h'] at h1; simp [h', h1]
      · simp [h'] at h1
    have h3 := count_set h2
    have h4 : (l.setIfInBounds i true).toList = l.toList.set i true := by simp
    rw [h4]
    omega

/-- put, where it has come up -/
def pw (b : Bool) (d : Tmp) (v : Value) (a : Act) : Act := if b then a.put (some d) v else a
theorem pw_put {b : Bool} {d e : Tmp} {v u : Value} {a : Act} (h : d ≠ e) : (pw b d v a).put (some e) u = pw b d v (a.put (some e) u) := by
  cases b
  · rfl
  · exact Act.put_comm a v u (fun x hx => by have h1 : d = x := Option.some.inj hx; intro h2; exact h (h1.trans (Option.some.inj h2).symm))
theorem pw_self {d : Tmp} {v u : Value} {a : Act} : (pw false d v a).put (some d) u = pw true d u a := rfl
theorem pw_eval {b : Bool} {d e : Tmp} {v : Value} {a : Act} (h : d ≠ e) : (pw b d v a).eval (.tmp e) = a.eval (.tmp e) := by
  cases b
  · rfl
  · show (a.tmps.setIfInBounds d v).getD e undef = a.tmps.getD e undef
    simp only [Array.getD_eq_getD_getElem?, Array.getElem?_setIfInBounds]
    rw [if_neg h]
theorem pw_size {b : Bool} {d : Tmp} {v : Value} {a : Act} : (pw b d v a).tmps.size = a.tmps.size := by
  cases b
  · rfl
  · show (a.tmps.setIfInBounds d v).size = _
    simp
theorem pw_at {d : Tmp} {v : Value} {a : Act} (h : d < a.tmps.size) : (pw true d v a).eval (.tmp d) = v := by
  show (a.tmps.setIfInBounds d v).getD d undef = v
  simp [h]
theorem wpOp_val {i : Nat} {o : Oper} {K : Act → World → Prop} {a : Act} {w w' : World} {v : Value} {dst : Option Tmp} (ho : ops[i]? = some o) (hd : o.dst = dst) (hg : o.guard = none) (hr : (execOp a.eval o).run P w = .ok (.value v) w') (h : K (a.put dst v) w') : wpOp P ops Q i K a w :=
  wpOp_step ho fun K' hK => by
    subst hd
    rw [if_pos (by unfold Region.wanted; rw [hg])]
    unfold Oper.wp
    rw [hr]
    exact hK _ _ h
theorem wpOp_skp {i : Nat} {o : Oper} {K : Act → World → Prop} {a : Act} {w w' : World} {dst : Option Tmp} (ho : ops[i]? = some o) (hd : o.dst = dst) (hg : o.guard = none) (hr : (execOp a.eval o).run P w = .ok .skip w') (h : K (a.put dst undef) w') : wpOp P ops Q i K a w :=
  wpOp_step ho fun K' hK => by
    subst hd
    rw [if_pos (by unfold Region.wanted; rw [hg])]
    unfold Oper.wp
    rw [hr]
    exact hK _ _ h
theorem wpOp_ent {i : Nat} {o : Oper} {K : Act → World → Prop} {a : Act} {w w' : World} {f : FuncId} {args : Array Value} {X : Value → World → Prop} {dst : Option Tmp} (ho : ops[i]? = some o) (hd : o.dst = dst) (hg : o.guard = none) (hr : (execOp a.eval o).run P w = .ok (.enter f args) w')
    (hc : Calls P f args w' fun e w'' => ∃ v, e = .returned v ∧ X v w'') (h : ∀ v w'', X v w'' → K (a.put dst v) w'') : wpOp P ops Q i K a w :=
  wpOp_step ho fun K' hK => by
    subst hd
    rw [if_pos (by unfold Region.wanted; rw [hg])]
    unfold Oper.wp
    rw [hr, Oper.upon_enter]
    refine hc.mono ?_
    rintro e w'' ⟨v, rfl, hx⟩
    exact hK _ _ (h v w'' hx)
theorem exec_call {a : Act} {w : World} {o : Oper} {f d T : Nat} {v : Value} (hcf : ∀ args W, (callFunc f args).run P W = .ok (.enter f args) W) (ho : o.op = Op.call { callee := Callee.value (Operand.func f), args := #[Operand.tmp d], argTypes := #[T] }) (hv : a.eval (.tmp d) = v) : (execOp a.eval o).run P w = .ok (.enter f #[v]) w := by
  simp only [execOp, ho, resolve, List.map_toArray, List.map_cons, List.map_nil, hv, Sem.run_bind, show a.eval (Operand.func f) = .func (.func f) #[] #[] from rfl, Deferred.ofValue, Sem.run_pure, Result.andThen_ok, invoke, List.append_toArray, List.nil_append, Array.append_empty, hcf]

theorem exec_load {a : Act} {w : World} {o : Oper} {T x : Nat} {v : Value} (ho : o.op = Op.load T (Operand.tmp x)) (h : (Instr.loadAt T (a.eval (.tmp x))).run P w = .ok v w) : (execOp a.eval o).run P w = .ok (.value v) w := by
  simp only [execOp, ho, Sem.run_bind, h, Result.andThen_ok, Sem.run_pure]
theorem exec_alloc {a : Act} {w w' : World} {o : Oper} {T : Nat} {v : Value} (ho : o.op = Op.alloc T) (h : (Instr.alloc T true (.tuple #[])).run P w = .ok v w') : (execOp a.eval o).run P w = .ok (.value v) w' := by
  simp only [execOp, ho, Sem.run_bind, h, Result.andThen_ok, Sem.run_pure]
theorem exec_store {a : Act} {w w' : World} {o : Oper} {T x y : Nat} {v u : Value} (ho : o.op = Op.store T (Operand.tmp x) (Operand.tmp y)) (hv : a.eval (.tmp x) = v) (hu : a.eval (.tmp y) = u) (h : (Instr.storeAt T v u).run P w = .ok () w') : (execOp a.eval o).run P w = .ok .skip w' := by
  simp only [execOp, ho, hv, hu, Sem.run_bind, h, Result.andThen_ok, Sem.run_pure]

theorem ready_after {l : Array Bool} {i : Nat} {af : Array Edge} (hi : i ∈ Region.ready .any ops l) (haf : ops[i]?.map (fun o => o.after) = some af) : l.getD i true = false ∧ ∀ e ∈ af, Region.binds .any e = true → l.getD e.on false = true := by
  obtain ⟨h0, o, ho, hall⟩ := mem_ready.1 hi
  rw [ho] at haf
  have e : o.after = af := Option.some.inj haf
  exact ⟨h0, fun e' he' => hall e' (by rw [e]; exact he')⟩

/-- what stands, where the stores have not come up -/
def PairI (U : TypeId) (zs : Array Value) (a : Act) (w : World) (va vb : Value) (X Y : Nat → World → Value → Prop) (d0 d1 d2 d3 p q : Nat) (b0 b1 b2 b3 b4 b5 : Bool) (a' : Act) (W : World) : Prop :=
  Below w.heap.size w W ∧ ∃ vx vy A B, a' = pw b4 p (.pointer (some ⟨A, 0, none⟩)) (pw b5 q (.pointer (some ⟨B, 0, none⟩)) (pw b0 d0 va (pw b1 d1 vx (pw b2 d2 vb (pw b3 d3 vy a))))) ∧
    (b1 = true → ∃ bx Wx, w.heap.size ≤ bx ∧ X bx Wx vx ∧ Below Wx.heap.size Wx W ∧ (b3 = true → ∃ c Wy, Wx.heap.size ≤ c ∧ Y c Wy vy ∧ Below Wy.heap.size Wy W)) ∧
    (b4 = true → w.heap.size ≤ A ∧ W.heap[A]? = some (.cells zs U (0, 0))) ∧ (b5 = true → w.heap.size ≤ B ∧ W.heap[B]? = some (.cells zs U (0, 0))) ∧ (b4 = true → b5 = true → A ≠ B) ∧ (b3 = true → b1 = true ∧ b2 = true)

theorem heap_grow {W W' : World} {A : Nat} {o : Obj} (hb : Below W.heap.size W W') (h : W.heap[A]? = some o) : W'.heap[A]? = some o := (hb.block A (Array.getElem?_eq_some_iff.1 h).1).trans h

set_option maxHeartbeats 4000000 in
/-- Whatever the order. -/
theorem pair_region {T U f s t d0 d1 d2 d3 p q id : Nat} {pos : String} {a : Act} {w : World} (hm : P.follows .mixedOrders = true) (zs : Array Value) (va vb : Value) (X Y : Nat → World → Value → Prop)
    (hn : [d0, d1, d2, d3, p, q, s].Nodup ∧ [d0, d1, d2, d3, p, q, t].Nodup) (hlt : ∀ d ∈ [d0, d1, d2, d3, p, q], d < a.tmps.size)
    (hla : ∀ W, Below w.heap.size w W → (Instr.loadAt T (a.eval (.tmp s))).run P W = .ok va W) (hlb : ∀ W, Below w.heap.size w W → (Instr.loadAt T (a.eval (.tmp t))).run P W = .ok vb W)
    (hca : ∀ W, Below w.heap.size w W → Calls P f #[va] W fun e W' => ∃ v, e = .returned v ∧ X W.heap.size W' v ∧ Below W.heap.size W W')
    (hcb : ∀ W, Below w.heap.size w W → Calls P f #[vb] W fun e W' => ∃ v, e = .returned v ∧ Y W.heap.size W' v ∧ Below W.heap.size W W')
    (hcf : ∀ args W, (callFunc f args).run P W = .ok (.enter f args) W) (hal : ∀ W, (Instr.alloc U true (.tuple #[])).run P W = .ok (.pointer (some ⟨W.heap.size, 0, none⟩)) (W.alloc (.cells zs U)))
    (hfin : ∀ W bx Wx vx c Wy vy A B, Below w.heap.size w W → w.heap.size ≤ bx → X bx Wx vx → Below Wx.heap.size Wx W → Wx.heap.size ≤ c → Y c Wy vy → Below Wy.heap.size Wy W → w.heap.size ≤ A → w.heap.size ≤ B → A ≠ B → W.heap[A]? = some (.cells zs U (0, 0)) → W.heap[B]? = some (.cells zs U (0, 0)) →
      ∃ W2 W3, (Instr.storeAt U (.pointer (some ⟨A, 0, none⟩)) vx).run P W = .ok () W2 ∧ (Instr.storeAt U (.pointer (some ⟨B, 0, none⟩)) vy).run P W2 = .ok () W3 ∧
        Q .normal (((((((a.put (some d3) vy).put (some d2) vb).put (some d1) vx).put (some d0) va).put (some q) (.pointer (some ⟨B, 0, none⟩))).put (some p) (.pointer (some ⟨A, 0, none⟩)))) W3) :
    (Code.region id (pairOps T U f s t d0 d1 d2 d3 p q pos) true).wp P Q a w := by
  simp only [List.nodup_cons, List.mem_cons, List.not_mem_nil, or_false, not_or, List.nodup_nil, and_true, not_false_eq_true] at hn
  obtain ⟨⟨⟨n01, n02, n03, n0p, n0q, n0s⟩, ⟨n12, n13, n1p, n1q, n1s⟩, ⟨n23, n2p, n2q, n2s⟩, ⟨n3p, n3q, n3s⟩, ⟨npq, nps⟩, nqs⟩, ⟨-, -, -, -, -, n0t⟩, ⟨-, -, -, -, n1t⟩, ⟨-, -, -, n2t⟩, ⟨-, -, n3t⟩, ⟨-, npt⟩, nqt⟩ := hn
  have l0 : d0 < a.tmps.size := hlt d0 (by simp)
  have l1 : d1 < a.tmps.size := hlt d1 (by simp)
  have l2 : d2 < a.tmps.size := hlt d2 (by simp)
  have l3 : d3 < a.tmps.size := hlt d3 (by simp)
  have lp : p < a.tmps.size := hlt p (by simp)
  have lq : q < a.tmps.size := hlt q (by simp)
  refine wp_region_any hm ?_
  refine wpAny_inv (fun l a' W => (∃ b0 b1 b2 b3 b4 b5, l = #[b0, b1, b2, b3, b4, b5, false, false] ∧ PairI U zs a w va vb X Y d0 d1 d2 d3 p q b0 b1 b2 b3 b4 b5 a' W) ∨
    (l = #[true, true, true, true, true, true, true, false] ∧ ∃ B vy W3, a'.eval (.tmp q) = .pointer (some ⟨B, 0, none⟩) ∧ a'.eval (.tmp d3) = vy ∧ (Instr.storeAt U (.pointer (some ⟨B, 0, none⟩)) vy).run P W = .ok () W3 ∧ Q .normal a' W3) ∨
    (l = #[true, true, true, true, true, true, true, true] ∧ Q .normal a' W)) ?_ ?_ _ _ _ _ (.inl ⟨false, false, false, false, false, false, rfl, (Below.refl _ _).drew, .nilIface, .nilIface, 0, 0, rfl, by simp, by simp, by simp, by simp, by simp⟩) (by simp)
  · rintro l a' W (⟨b0, b1, b2, b3, b4, b5, rfl, -⟩ | ⟨rfl, -⟩ | ⟨rfl, h⟩) hr
    · exfalso
      have key : ∀ i, i ∈ Region.ready .any (pairOps T U f s t d0 d1 d2 d3 p q pos) #[b0, b1, b2, b3, b4, b5, false, false] → False := fun i hi => by rw [hr] at hi; cases hi
      cases b0 with
      | false => exact key 0 (mem_ready.2 ⟨rfl, _, rfl, by simp [pairOps, Region.binds]⟩)
      | true =>
        cases b2 with
        | false => exact key 2 (mem_ready.2 ⟨rfl, _, rfl, by simp [pairOps, Region.binds]⟩)
        | true =>
          cases b4 with
          | false => exact key 4 (mem_ready.2 ⟨rfl, _, rfl, by simp [pairOps, Region.binds]⟩)
          | true =>
            cases b5 with
            | false => exact key 5 (mem_ready.2 ⟨rfl, _, rfl, by simp [pairOps, Region.binds]⟩)
            | true =>
              cases b1 with
              | false => exact key 1 (mem_ready.2 ⟨rfl, _, rfl, by simp [pairOps, Region.binds]⟩)
              | true =>
                cases b3 with
                | false => exact key 3 (mem_ready.2 ⟨rfl, _, rfl, by simp [pairOps, Region.binds]⟩)
                | true => exact key 6 (mem_ready.2 ⟨rfl, _, rfl, by simp [pairOps, Region.binds]⟩)
    · exfalso
      have h7 : 7 ∈ Region.ready .any (pairOps T U f s t d0 d1 d2 d3 p q pos) #[true, true, true, true, true, true, true, false] := mem_ready.2 ⟨rfl, _, rfl, by simp [pairOps, Region.binds]⟩
      rw [hr] at h7
      cases h7
    · exact h
  · rintro l a' W (⟨b0, b1, b2, b3, b4, b5, rfl, hb, vx, vy, A, B, rfl, hx, hA, hB, hAB, h31⟩ | ⟨rfl, B, vy, W3, e1, e2, hr3, hQ⟩ | ⟨rfl, h⟩) i hi
    · match i, hi with
      | 0, hi =>
        have hun := (mem_ready.1 hi).1
        have h0 : b0 = false := hun
        subst h0
        refine wpOp_val (dst := some d0) (v := va) (w' := W) rfl rfl rfl ?_ ?_
        · refine exec_load rfl ?_
          have he : (pw b4 p (.pointer (some ⟨A, 0, none⟩)) (pw b5 q (.pointer (some ⟨B, 0, none⟩)) (pw false d0 va (pw b1 d1 vx (pw b2 d2 vb (pw b3 d3 vy a)))))).eval (.tmp s) = a.eval (.tmp s) := by
            rw [pw_eval nps, pw_eval nqs, pw_eval n0s, pw_eval n1s, pw_eval n2s, pw_eval n3s]
          have := hla W hb
          rw [← he] at this
          exact this
        · refine .inl ⟨true, b1, b2, b3, b4, b5, rfl, hb, vx, vy, A, B, ?_, hx, hA, hB, hAB, h31⟩
          rw [pw_put (Ne.symm n0p), pw_put (Ne.symm n0q), pw_self]
      | 2, hi =>
        have hun := (mem_ready.1 hi).1
        have h0 : b2 = false := hun
        subst h0
        refine wpOp_val (dst := some d2) (v := vb) (w' := W) rfl rfl rfl ?_ ?_
        · refine exec_load rfl ?_
          have he : (pw b4 p (.pointer (some ⟨A, 0, none⟩)) (pw b5 q (.pointer (some ⟨B, 0, none⟩)) (pw b0 d0 va (pw b1 d1 vx (pw false d2 vb (pw b3 d3 vy a)))))).eval (.tmp t) = a.eval (.tmp t) := by
            rw [pw_eval npt, pw_eval nqt, pw_eval n0t, pw_eval n1t, pw_eval n2t, pw_eval n3t]
          have := hlb W hb
          rw [← he] at this
          exact this
        · refine .inl ⟨b0, b1, true, b3, b4, b5, rfl, hb, vx, vy, A, B, ?_, hx, hA, hB, hAB, fun h => ⟨(h31 h).1, rfl⟩⟩
          rw [pw_put (Ne.symm n2p), pw_put (Ne.symm n2q), pw_put n02, pw_put n12, pw_self]
      | 1, hi =>
        obtain ⟨hun, hall⟩ := ready_after hi (af := #[⟨0, .data⟩]) rfl
        have h0 : b1 = false := hun
        have g0 : b0 = true := hall ⟨0, .data⟩ (by simp) rfl
        subst h0 g0
        have h3 : b3 = false := by cases b3 with | false => rfl | true => exact absurd (h31 rfl).1 (by decide)
        subst h3
        refine wpOp_ent (dst := some d1) rfl rfl rfl (exec_call hcf rfl (v := va) ?_) (hca W hb) ?_
        · rw [pw_eval (Ne.symm n0p), pw_eval (Ne.symm n0q), pw_at (by simp only [pw_size]; exact l0)]
        · rintro v W' ⟨hX, hb'⟩
          refine .inl ⟨true, true, b2, false, b4, b5, rfl, hb.trans (Joins.below_le hb' hb.size), v, vy, A, B, ?_, fun _ => ⟨W.heap.size, W', hb.size, hX, Below.refl _ _, fun h => by cases h⟩, fun h => ⟨(hA h).1, heap_grow hb' (hA h).2⟩, fun h => ⟨(hB h).1, heap_grow hb' (hB h).2⟩, hAB, fun h => by cases h⟩
          rw [pw_put (Ne.symm n1p), pw_put (Ne.symm n1q), pw_put n01, pw_self]
      | 3, hi =>
        obtain ⟨hun, hall⟩ := ready_after hi (af := #[⟨2, .data⟩, ⟨1, .chain⟩]) rfl
        have h0 : b3 = false := hun
        have g0 : b2 = true := hall ⟨2, .data⟩ (by simp) rfl
        have g1 : b1 = true := hall ⟨1, .chain⟩ (by simp) rfl
        subst h0 g0 g1
        obtain ⟨bx, Wx, k1, k2, k3, -⟩ := hx rfl
        refine wpOp_ent (dst := some d3) rfl rfl rfl (exec_call hcf rfl (v := vb) ?_) (hcb W hb) ?_
        · rw [pw_eval (Ne.symm n2p), pw_eval (Ne.symm n2q), pw_eval n02, pw_eval n12, pw_at (by simp only [pw_size]; exact l2)]
        · rintro v W' ⟨hY, hb'⟩
          refine .inl ⟨b0, true, true, true, b4, b5, rfl, hb.trans (Joins.below_le hb' hb.size), vx, v, A, B, ?_, fun _ => ⟨bx, Wx, k1, k2, k3.trans (Joins.below_le hb' k3.size), fun _ => ⟨W.heap.size, W', k3.size, hY, Below.refl _ _⟩⟩, fun h => ⟨(hA h).1, heap_grow hb' (hA h).2⟩, fun h => ⟨(hB h).1, heap_grow hb' (hB h).2⟩, hAB, fun _ => ⟨rfl, rfl⟩⟩
          rw [pw_put (Ne.symm n3p), pw_put (Ne.symm n3q), pw_put n03, pw_put n13, pw_put n23, pw_self]
      | 4, hi =>
        have hun := (mem_ready.1 hi).1
        have h0 : b4 = false := hun
        subst h0
        have hb' : Below W.heap.size W (W.alloc (.cells zs U)) := below_al (Below.refl _ _)
        refine wpOp_val (dst := some p) (v := .pointer (some ⟨W.heap.size, 0, none⟩)) (w' := W.alloc (.cells zs U)) rfl rfl rfl ?_ ?_
        · exact exec_alloc rfl (hal W)
        · refine .inl ⟨b0, b1, b2, b3, true, b5, rfl, (below_al hb), vx, vy, W.heap.size, B, rfl, fun h => ?_, fun _ => ⟨hb.size, heap_alloc_new W _⟩, fun h => ⟨(hB h).1, heap_grow hb' (hB h).2⟩, fun _ h e => ?_, h31⟩
          · obtain ⟨bx, Wx, k1, k2, k3, k4⟩ := hx h
            refine ⟨bx, Wx, k1, k2, (below_al k3), fun h3 => ?_⟩
            obtain ⟨c, Wy, m1, m2, m3⟩ := k4 h3
            exact ⟨c, Wy, m1, m2, (below_al m3)⟩
          · have := (Array.getElem?_eq_some_iff.1 (hB h).2).1
            omega
      | 5, hi =>
        have hun := (mem_ready.1 hi).1
        have h0 : b5 = false := hun
        subst h0
        have hb' : Below W.heap.size W (W.alloc (.cells zs U)) := below_al (Below.refl _ _)
        refine wpOp_val (dst := some q) (v := .pointer (some ⟨W.heap.size, 0, none⟩)) (w' := W.alloc (.cells zs U)) rfl rfl rfl ?_ ?_
        · exact exec_alloc rfl (hal W)
        · refine .inl ⟨b0, b1, b2, b3, b4, true, rfl, (below_al hb), vx, vy, A, W.heap.size, ?_, fun h => ?_, fun h => ⟨(hA h).1, heap_grow hb' (hA h).2⟩, fun _ => ⟨hb.size, heap_alloc_new W _⟩, fun h _ e => ?_, h31⟩
          · rw [pw_put npq, pw_self]
          · obtain ⟨bx, Wx, k1, k2, k3, k4⟩ := hx h
            refine ⟨bx, Wx, k1, k2, (below_al k3), fun h3 => ?_⟩
            obtain ⟨c, Wy, m1, m2, m3⟩ := k4 h3
            exact ⟨c, Wy, m1, m2, (below_al m3)⟩
          · have := (Array.getElem?_eq_some_iff.1 (hA h).2).1
            omega
      | 6, hi =>
        obtain ⟨hun, hall⟩ := ready_after hi (af := #[⟨4, .data⟩, ⟨1, .data⟩, ⟨3, .chain⟩, ⟨0, .phase⟩, ⟨1, .phase⟩, ⟨2, .textOnly Departure.lateStores⟩, ⟨3, .textOnly Departure.lateStoresUnsure⟩, ⟨4, .phase⟩, ⟨5, .phase⟩]) rfl
        have g0 : b0 = true := hall ⟨0, .phase⟩ (by simp) rfl
        have g1 : b1 = true := hall ⟨1, .data⟩ (by simp) rfl
        have g3 : b3 = true := hall ⟨3, .chain⟩ (by simp) rfl
        have g4 : b4 = true := hall ⟨4, .data⟩ (by simp) rfl
        have g5 : b5 = true := hall ⟨5, .phase⟩ (by simp) rfl
        have g2 : b2 = true := by
          cases b2 with
          | true => rfl
          | false => exact (h31 g3).2
        subst g0 g1 g2 g3 g4 g5
        obtain ⟨bx, Wx, k1, k2, k3, k4⟩ := hx rfl
        obtain ⟨c, Wy, m1, m2, m3⟩ := k4 rfl
        obtain ⟨W2, W3, r2, r3, hQ⟩ := hfin W bx Wx vx c Wy vy A B hb k1 k2 k3 m1 m2 m3 (hA rfl).1 (hB rfl).1 (hAB rfl rfl) (hA rfl).2 (hB rfl).2
        refine wpOp_skp (dst := none) rfl rfl rfl (exec_store rfl (v := .pointer (some ⟨A, 0, none⟩)) (u := vx) ?_ ?_ r2) ?_
        · rw [pw_at (by simp only [pw_size]; exact lp)]
        · rw [pw_eval (Ne.symm n1p), pw_eval (Ne.symm n1q), pw_eval n01, pw_at (by simp only [pw_size]; exact l1)]
        · refine .inr (.inl ⟨rfl, B, vy, W3, ?_, ?_, r3, hQ⟩)
          · show Act.eval (pw true p _ (pw true q _ (pw true d0 va (pw true d1 vx (pw true d2 vb (pw true d3 vy a)))))) (.tmp q) = _
            rw [pw_eval npq, pw_at (by simp only [pw_size]; exact lq)]
          · show Act.eval (pw true p _ (pw true q _ (pw true d0 va (pw true d1 vx (pw true d2 vb (pw true d3 vy a)))))) (.tmp d3) = _
            rw [pw_eval (Ne.symm n3p), pw_eval (Ne.symm n3q), pw_eval n03, pw_eval n13, pw_eval n23, pw_at l3]
      | 7, hi =>
        obtain ⟨hun, hall⟩ := ready_after hi (af := #[⟨5, .data⟩, ⟨3, .data⟩, ⟨6, .chain⟩, ⟨0, .phase⟩, ⟨1, .phase⟩, ⟨2, .phase⟩, ⟨3, .phase⟩, ⟨4, .phase⟩, ⟨5, .phase⟩, ⟨6, .phase⟩]) rfl
        have g0 : false = true := hall ⟨6, .phase⟩ (by simp) rfl
        cases g0
      | i + 8, hi => obtain ⟨-, o, ho, -⟩ := mem_ready.1 hi; exact absurd ho (by simp [pairOps])
    · match i, hi with
      | 0, hi => cases (mem_ready.1 hi).1
      | 1, hi => cases (mem_ready.1 hi).1
      | 2, hi => cases (mem_ready.1 hi).1
      | 3, hi => cases (mem_ready.1 hi).1
      | 4, hi => cases (mem_ready.1 hi).1
      | 5, hi => cases (mem_ready.1 hi).1
      | 6, hi => cases (mem_ready.1 hi).1
      | 7, hi => exact wpOp_skp (dst := none) rfl rfl rfl (exec_store rfl e1 e2 hr3) (.inr (.inr ⟨rfl, hQ⟩))
      | i + 8, hi => obtain ⟨-, o, ho, -⟩ := mem_ready.1 hi; exact absurd ho (by simp [pairOps])
    · match i, hi with
      | 0, hi => cases (mem_ready.1 hi).1
      | 1, hi => cases (mem_ready.1 hi).1
      | 2, hi => cases (mem_ready.1 hi).1
      | 3, hi => cases (mem_ready.1 hi).1
      | 4, hi => cases (mem_ready.1 hi).1
      | 5, hi => cases (mem_ready.1 hi).1
      | 6, hi => cases (mem_ready.1 hi).1
      | 7, hi => cases (mem_ready.1 hi).1
      | i + 8, hi => obtain ⟨-, o, ho, -⟩ := mem_ready.1 hi; exact absurd ho (by simp [pairOps])
end

theorem load3R {W : World} {A : Nat} {x : Bool} {A1 A2 : Option Addr} {n1 c1 n2 c2 : Nat} (h : W.heap[A]? = some (.cells #[.bool x, .slice A1 n1 c1, .slice A2 n2 c2] 25 (0, 0))) : (Instr.loadAt 25 (.pointer (some ⟨A, 0, none⟩))).run Try.prog W = .ok (.agg #[.bool x, .slice A1 n1 c1, .slice A2 n2 c2]) W := by
  have h0 := (row_cells h).1 0
  have h1 := (row_cells h).1 1
  have h2 := (row_cells h).1 2
  clear h
  go_simp
theorem store3R {W : World} {A : Nat} {x x' : Bool} {A1 A2 A3 A4 : Option Addr} {n1 c1 n2 c2 n3 c3 n4 c4 : Nat} (h : W.heap[A]? = some (.cells #[.bool x, .slice A1 n1 c1, .slice A2 n2 c2] 25 (0, 0))) : (Instr.storeAt 25 (.pointer (some ⟨A, 0, none⟩)) (.agg #[.bool x', .slice A3 n3 c3, .slice A4 n4 c4])).run Try.prog W = .ok () (((W.setCell ⟨A, 0, none⟩ (.bool x')).setCell ⟨A, 1, none⟩ (.slice A3 n3 c3)).setCell ⟨A, 2, none⟩ (.slice A4 n4 c4)) := by
  have h0 := (row_cells h).1 0
  have h1 := (row_cells h).1 1
  have h2 := (row_cells h).1 2
  have h3 := (row_cells h).2 0
  have h4 := (row_cells h).2 1
  have h5 := (row_cells h).2 2
  clear h
  go_simp
theorem alloc3R (W : World) : (Instr.alloc 25 true (.tuple #[])).run Try.prog W = .ok (.pointer (some ⟨W.heap.size, 0, none⟩)) (W.alloc (.cells #[.bool false, .slice none 0 0, .slice none 0 0] 25)) := by
  have hz := zero_nodeR W
  go_simp
theorem load3N {W : World} {A : Nat} {x : Bool} {A1 A2 : Option Addr} {n1 c1 n2 c2 : Nat} (h : W.heap[A]? = some (.cells #[.bool x, .slice A1 n1 c1, .slice A2 n2 c2] 31 (0, 0))) : (Instr.loadAt 31 (.pointer (some ⟨A, 0, none⟩))).run Try.prog W = .ok (.agg #[.bool x, .slice A1 n1 c1, .slice A2 n2 c2]) W := by
  have h0 := (row_cells h).1 0
  have h1 := (row_cells h).1 1
  have h2 := (row_cells h).1 2
  clear h
  go_simp
theorem store3N {W : World} {A : Nat} {x x' : Bool} {A1 A2 A3 A4 : Option Addr} {n1 c1 n2 c2 n3 c3 n4 c4 : Nat} (h : W.heap[A]? = some (.cells #[.bool x, .slice A1 n1 c1, .slice A2 n2 c2] 31 (0, 0))) : (Instr.storeAt 31 (.pointer (some ⟨A, 0, none⟩)) (.agg #[.bool x', .slice A3 n3 c3, .slice A4 n4 c4])).run Try.prog W = .ok () (((W.setCell ⟨A, 0, none⟩ (.bool x')).setCell ⟨A, 1, none⟩ (.slice A3 n3 c3)).setCell ⟨A, 2, none⟩ (.slice A4 n4 c4)) := by
  have h0 := (row_cells h).1 0
  have h1 := (row_cells h).1 1
  have h2 := (row_cells h).1 2
  have h3 := (row_cells h).2 0
  have h4 := (row_cells h).2 1
  have h5 := (row_cells h).2 2
  clear h
  go_simp
theorem alloc3N (W : World) : (Instr.alloc 31 true (.tuple #[])).run Try.prog W = .ok (.pointer (some ⟨W.heap.size, 0, none⟩)) (W.alloc (.cells #[.bool false, .slice none 0 0, .slice none 0 0] 31)) := by
  have hz := zero_node W
  go_simp
theorem call57 (args : Array Value) (W : World) : (callFunc 57 args).run Try.prog W = .ok (.enter 57 args) W := by kernel_rfl
theorem call10 (args : Array Value) (W : World) : (callFunc 10 args).run Try.prog W = .ok (.enter 10 args) W := by kernel_rfl

theorem own_type {w : World} {B : Nat} {T : TypeId} {size : Nat} {v : Value} {n : Nat} {xs : List Value} (h : w.ownsRow B T size v n xs) {p : Nat} (hp : v.ownBlock = some p) : ∃ C, w.heap[p]? = some (.cells C T (0, 0)) := by
  rcases h.2 with ⟨h0, -⟩ | ⟨g, cap, cur, h1, -, h2, -⟩
  · rw [h0] at hp; cases hp
  · rw [h1] at hp
    have e : g = p := Option.some.inj hp
    subst e
    exact ⟨_, h2⟩
theorem own_ne {w : World} {B : Nat} {T U : TypeId} {size : Nat} {v : Value} {n : Nat} {xs : List Value} {C : Array Value} {A : Nat} (h : w.ownsRow B T size v n xs) (hA : w.heap[A]? = some (.cells C U (0, 0))) (hT : T ≠ U) : ∀ p, v.ownBlock = some p → p ≠ A := fun p hp e => by
  obtain ⟨C', hC⟩ := own_type h hp
  rw [e, hA] at hC
  injection hC with hC
  injection hC with _ h1
  exact hT h1.symm
theorem app_rcs (W : World) (base : Nat) {A : Option Addr} {c : Nat} {l : List PC} (hown : W.ownsRow base 62 4 (.slice A l.length c) l.length (CsV l)) {v : Value} {m : List PC} (h : CsN W Any v m) (hl : l.length + m.length ≤ 1000000) (hbase : base ≤ W.heap.size) :
    ∃ A7 c7 w7, (Builtin.append_ #[22, 22] 22 #[.slice A l.length c, v]).run Try.prog W = .ok (.slice A7 (l ++ m).length c7) w7 ∧ w7.ownsRow base 62 4 (.slice A7 (l ++ m).length c7) (l ++ m).length (CsV (l ++ m)) ∧ W.grownBy w7 (Value.slice A l.length c).ownBlock := by
  obtain ⟨iu, hiu, z0, z1, z2⟩ := info_parts info_RC
  obtain ⟨A7, c7, w7, hr, h2, h3, -⟩ := run_appAt (P := Try.prog) (w := W) base 22 22 62 iu _ 4 48 Try.underlying22 hiu z0 z1 z2 rfl (by decide) _ _ l.length _ hown m.length _ (RowN.at h) (CsV_one _) (by unfold maxLen; omega) (by omega) hbase
  rw [← List.length_append] at hr h2
  rw [← CsV_append] at h2
  exact ⟨A7, c7, w7, hr, h2, h3⟩
theorem app_ints (W : World) (base : Nat) {A : Option Addr} {c : Nat} {l : List Int} (hown : W.ownsRow base 3 1 (.slice A l.length c) l.length (KsV l)) {v : Value} {m : List Int} (h : KsN W Any v m) (hl : l.length + m.length ≤ 1000000) (hbase : base ≤ W.heap.size) :
    ∃ A7 c7 w7, (Builtin.append_ #[23, 23] 23 #[.slice A l.length c, v]).run Try.prog W = .ok (.slice A7 (l ++ m).length c7) w7 ∧ w7.ownsRow base 3 1 (.slice A7 (l ++ m).length c7) (l ++ m).length (KsV (l ++ m)) ∧ W.grownBy w7 (Value.slice A l.length c).ownBlock := by
  obtain ⟨iu, hiu, z0, z1, z2⟩ := info_parts info_I
  obtain ⟨A7, c7, w7, hr, h2, h3, -⟩ := run_appAt (P := Try.prog) (w := W) base 23 23 3 iu _ 1 8 Try.underlying23 hiu z0 z1 z2 rfl (by decide) _ _ l.length _ hown m.length _ (RowN.at h) (KsV_one _) (by unfold maxLen; omega) (by omega) hbase
  rw [← List.length_append] at hr h2
  rw [← KsV_append] at h2
  exact ⟨A7, c7, w7, hr, h2, h3⟩

theorem set1_at {W : World} {p : Nat} {T : TypeId} {a b c y : Value} (h : W.heap[p]? = some (.cells #[a, b, c] T (0, 0))) : (W.setCell ⟨p, 1, none⟩ y).heap[p]? = some (.cells #[a, y, c] T (0, 0)) := by
  rw [Joins.block_setCell h _]
  simp
theorem set2_at {W : World} {p : Nat} {T : TypeId} {a b c y : Value} (h : W.heap[p]? = some (.cells #[a, b, c] T (0, 0))) : (W.setCell ⟨p, 2, none⟩ y).heap[p]? = some (.cells #[a, b, y] T (0, 0)) := by
  rw [Joins.block_setCell h _]
  simp
set_option maxHeartbeats 8000000 in
set_option maxRecDepth 1000000 in
theorem refjoin_any (a b : PN) (s : ByteArray) (v v' : Value) (w : World) (h : NodeN w Any v a) (h' : NodeN w Any v' b) (hs : a.small) (hs' : b.small) :
    Calls Try.prog 27 #[v, .string s, v'] w fun e w' => ∃ vj, e = .returned vj ∧ NodeN w' (fun b => w.heap.size ≤ b) vj (PN.join a s b) ∧ Below w.heap.size w w' := by
  obtain ⟨vc, vk, rfl, hc, hk⟩ := id h
  obtain ⟨Ac, cc, rfl, -, -⟩ := hc.slice
  obtain ⟨Ak, ck, rfl, -, -⟩ := hk.slice
  obtain ⟨vc', vk', rfl, hc', hk'⟩ := id h'
  obtain ⟨Bc, dc, rfl, -, -⟩ := hc'.slice
  obtain ⟨Bk, dk, rfl, -, -⟩ := hk'.slice
  have hlc := hs.cells
  have hlk := hs.kids
  have hlc' := hs'.cells
  have hlk' := hs'.kids
  obtain ⟨w1, hw1⟩ : ∃ w1, w1 = w.alloc (.cells #[.bool a.leaf, .slice Ac a.cells.length cc, .slice Ak a.kids.length ck] 25) := ⟨_, rfl⟩
  have hb1 : Below w.heap.size w w1 := by rw [hw1]; exact (Below.refl _ _).alloc (Nat.le_refl _) _
  have hs1 : w1.heap.size = w.heap.size + 1 := by rw [hw1]; simp
  have hx1 : w1.heap[w.heap.size]? = some (.cells #[.bool a.leaf, .slice Ac a.cells.length cc, .slice Ak a.kids.length ck] 25 (0, 0)) := by rw [hw1]; exact heap_alloc_new w _
  obtain ⟨w2, hw2⟩ : ∃ w2, w2 = w1.alloc (.cells #[.bool b.leaf, .slice Bc b.cells.length dc, .slice Bk b.kids.length dk] 25) := ⟨_, rfl⟩
  have hb2 : Below w1.heap.size w1 w2 := by rw [hw2]; exact (Below.refl _ _).alloc (Nat.le_refl _) _
  have hs2 : w2.heap.size = w.heap.size + 2 := by rw [hw2]; simp [hs1]
  have hy2 : w2.heap[w.heap.size + 1]? = some (.cells #[.bool b.leaf, .slice Bc b.cells.length dc, .slice Bk b.kids.length dk] 25 (0, 0)) := by rw [hw2, ← hs1]; exact heap_alloc_new w1 _
  have hx2 := (hb2.block w.heap.size (by omega)).trans hx1
  obtain ⟨w3, hw3⟩ : ∃ w3, w3 = w2.alloc (.cells #[.bool false, .slice none 0 0, .slice none 0 0] 25) := ⟨_, rfl⟩
  have hb3 : Below w2.heap.size w2 w3 := by rw [hw3]; exact (Below.refl _ _).alloc (Nat.le_refl _) _
  have hs3 : w3.heap.size = w.heap.size + 3 := by rw [hw3]; simp [hs2]
  have hz3 : w3.heap[w.heap.size + 2]? = some (.cells #[.bool false, .slice none 0 0, .slice none 0 0] 25 (0, 0)) := by rw [hw3, ← hs2]; exact heap_alloc_new w2 _
  have hx3 := (hb3.block w.heap.size (by omega)).trans hx2
  have hy3 := (hb3.block (w.heap.size + 1) (by omega)).trans hy2
  have hbw : Below w.heap.size w w3 := (hb1.trans (Joins.below_le hb2 hb1.size)).trans (Joins.below_le hb3 (by omega))
  have hnN : ∀ W, Below w3.heap.size w3 W → NodeN W Any (.agg #[.bool a.leaf, .slice Ac a.cells.length cc, .slice Ak a.kids.length ck]) a ∧ NodeN W Any (.agg #[.bool b.leaf, .slice Bc b.cells.length dc, .slice Bk b.kids.length dk]) b := fun W hW => ⟨h.grow (hbw.trans (Joins.below_le hW hbw.size)), h'.grow (hbw.trans (Joins.below_le hW hbw.size))⟩
  have HNN := Lib.hid hnN
  have HW1 := Lib.hid hw1
  have HW2 := Lib.hid hw2
  have HW3 := Lib.hid hw3
  have HX3 := Lib.hid hx3
  have HY3 := Lib.hid hy3
  have HZ3 := Lib.hid hz3
  have HS3 := Lib.hid hs3
  have HBW := Lib.hid hbw
  clear hnN hw1 hw2 hw3 hb1 hb2 hb3 hs1 hs2 hx1 hx2 hy2 hx3 hy3 hz3 hbw hc hk hc' hk' h h' hs3
  go_enter Try.func27, Try.ntmps27
  go_upto_region 1 with fail
  rw [← HW1.out, ← HW2.out]
  rw [← HW3.out]
  rw [show w.heap.size + 1 + 1 = w.heap.size + 2 from rfl]
  refine pair_region (T := 25) (U := 25) (f := 57) (s := 3) (t := 5) (d0 := 10) (d1 := 11) (d2 := 12) (d3 := 13) (p := 7) (q := 8) (pos := "ref.go:178") (by kernel_rfl) #[.bool false, .slice none 0 0, .slice none 0 0] (.agg #[.bool a.leaf, .slice Ac a.cells.length cc, .slice Ak a.kids.length ck]) (.agg #[.bool b.leaf, .slice Bc b.cells.length dc, .slice Bk b.kids.length dk])
    (fun B W v => OwnT 62 W B v a) (fun B W v => OwnT 62 W B v b) (by decide) (fun d hd => ?_) (fun W hW => load3R ((hW.block _ ?_).trans HX3.out)) (fun W hW => load3R ((hW.block _ ?_).trans HY3.out))
    (fun W hW => (twin_any a _ W (HNN.out W hW).1 (by omega) (by omega)).mono fun e w' he => he) (fun W hW => (twin_any b _ W (HNN.out W hW).2 (by omega) (by omega)).mono fun e w' he => he) call57 alloc3R ?_
  · have hd' : ∀ d ∈ [10, 11, 12, 13, 7, 8], d < 42 := by decide
    exact hd' d hd
  · have := HS3.out
    omega
  · have := HS3.out
    omega
  · rintro W bx Wx vx cb Wy vy A B hbW hbx ⟨A1, c1, A2, c2, rfl, ox, kx⟩ hWx hcb ⟨B1, e1, B2, e2, rfl, oy, ky⟩ hWy hA hB hAB hcA hcB
    have hs3 := HS3.out
    obtain ⟨W2, hW2⟩ : ∃ W2, W2 = (((W.setCell ⟨A, 0, none⟩ (.bool a.leaf)).setCell ⟨A, 1, none⟩ (.slice A1 a.cells.length c1)).setCell ⟨A, 2, none⟩ (.slice A2 a.kids.length c2)) := ⟨_, rfl⟩
    have hr2 := store3R (x' := a.leaf) (A3 := A1) (n3 := a.cells.length) (c3 := c1) (A4 := A2) (n4 := a.kids.length) (c4 := c2) hcA
    rw [← hW2] at hr2
    have hB2 : W2.heap[B]? = some (.cells #[.bool false, .slice none 0 0, .slice none 0 0] 25 (0, 0)) := by rw [hW2]; exact (set3_far (Ne.symm hAB)).trans hcB
    have hA2 : W2.heap[A]? = some (.cells #[.bool a.leaf, .slice A1 a.cells.length c1, .slice A2 a.kids.length c2] 25 (0, 0)) := by rw [hW2]; exact set3_at hcA
    obtain ⟨u, hu⟩ : ∃ u, u = (((W2.setCell ⟨B, 0, none⟩ (.bool b.leaf)).setCell ⟨B, 1, none⟩ (.slice B1 b.cells.length e1)).setCell ⟨B, 2, none⟩ (.slice B2 b.kids.length e2)) := ⟨_, rfl⟩
    have hr3 := store3R (x' := b.leaf) (A3 := B1) (n3 := b.cells.length) (c3 := e1) (A4 := B2) (n4 := b.kids.length) (c4 := e2) hB2
    rw [← hu] at hr3
    have far : ∀ p, p ≠ A → p ≠ B → u.heap[p]? = W.heap[p]? := fun p h1 h2 => by rw [hu, set3_far h2, hW2, set3_far h1]
    have uA : u.heap[A]? = some (.cells #[.bool a.leaf, .slice A1 a.cells.length c1, .slice A2 a.kids.length c2] 25 (0, 0)) := by rw [hu, set3_far hAB]; exact hA2
    have uB : u.heap[B]? = some (.cells #[.bool b.leaf, .slice B1 b.cells.length e1, .slice B2 b.kids.length e2] 25 (0, 0)) := by rw [hu]; exact set3_at hB2
    have hus : u.heap.size = W.heap.size := by rw [hu, set3_size, hW2, set3_size]
    have hbu3 : Below w3.heap.size w3 u := by
      rw [hu, hW2]
      exact (((((hbW.setCell hA _).setCell hA _).setCell hA _).setCell hB _).setCell hB _).setCell hB _
    have hbu := HBW.out.trans (Joins.below_le hbu3 HBW.out.size)
    have hsW := hbW.size
    have ox1 := row_same ox (w' := W) fun p hp => hWx.block p (ox.lt p hp).2
    have kx1 := row_same kx (w' := W) fun p hp => hWx.block p (kx.lt p hp).2
    have oy1 := row_same oy (w' := W) fun p hp => hWy.block p (oy.lt p hp).2
    have ky1 := row_same ky (w' := W) fun p hp => hWy.block p (ky.lt p hp).2
    have ox2 := own_base (row_same ox1 (w' := u) fun p hp => far p (own_ne ox1 hcA (by decide) p hp) (own_ne ox1 hcB (by decide) p hp)) (show w.heap.size ≤ bx by omega)
    have kx2 := own_base (row_same kx1 (w' := u) fun p hp => far p (own_ne kx1 hcA (by decide) p hp) (own_ne kx1 hcB (by decide) p hp)) (show w.heap.size ≤ bx by omega)
    have oy2 := row_same oy1 (w' := u) fun p hp => far p (own_ne oy1 hcA (by decide) p hp) (own_ne oy1 hcB (by decide) p hp)
    have ky2 := row_same ky1 (w' := u) fun p hp => far p (own_ne ky1 hcA (by decide) p hp) (own_ne ky1 hcB (by decide) p hp)
    have sepx : ∀ p, (Value.slice A1 a.cells.length c1).ownBlock = some p → p < cb := fun p hp => Nat.lt_of_lt_of_le (ox.lt p hp).2 hcb
    have sepk : ∀ p, (Value.slice A2 a.kids.length c2).ownBlock = some p → p < cb := fun p hp => Nat.lt_of_lt_of_le (kx.lt p hp).2 hcb
    have uR : u.heap[w.heap.size + 2]? = some (.cells #[.bool false, .slice none 0 0, .slice none 0 0] 25 (0, 0)) := (hbu3.block _ (by omega)).trans HZ3.out
    have ua : u.heap[w.heap.size]? = some (.cells #[.bool a.leaf, .slice Ac a.cells.length cc, .slice Ak a.kids.length ck] 25 (0, 0)) := (hbu3.block _ (by omega)).trans HX3.out
    have hRA : w.heap.size + 2 ≠ A := by omega
    have hRB : w.heap.size + 2 ≠ B := by omega
    have husz : w.heap.size ≤ u.heap.size := hbu.size
    refine ⟨W2, u, hr2, hr3, ?_⟩
    clear hr2 hr3 hB2 hA2 hu hW2 far ox kx oy ky hWx hWy hcA hcB ox1 kx1 oy1 ky1 hbW hbu3
    simp only [Act.put, List.setIfInBounds_toArray, List.set_cons_zero, List.set_cons_succ]
    have fa : u.cell? ⟨w.heap.size, 0, none⟩ = some (.bool a.leaf) := (row_cells ua).1 0
    have fA0 : u.cell? ⟨A, 0, none⟩ = some (.bool a.leaf) := (row_cells uA).1 0
    have fA1 : u.cell? ⟨A, 1, none⟩ = some (.slice A1 a.cells.length c1) := (row_cells uA).1 1
    have fA2 : u.cell? ⟨A, 2, none⟩ = some (.slice A2 a.kids.length c2) := (row_cells uA).1 2
    have fB1 : u.cell? ⟨B, 1, none⟩ = some (.slice B1 b.cells.length e1) := (row_cells uB).1 1
    have fB2 : u.cell? ⟨B, 2, none⟩ = some (.slice B2 b.kids.length e2) := (row_cells uB).1 2
    cases hlf : a.leaf with
    | true =>
      rw [hlf] at fa fA0
      obtain ⟨A7, c7, w7, hr, ho7, hg7⟩ := app_rcs u w.heap.size ox2 (RowN.of_own oy2 fun _ _ => trivial) (by omega) husz
      obtain ⟨n7, hn7⟩ : ∃ n7, n7 = (a.cells ++ b.cells).length := ⟨_, rfl⟩
      rw [← hn7] at hr ho7
      have hb7 : Below w.heap.size w w7 := hbu.grown hg7 husz (fun p hp => (ox2.lt p hp.symm.symm).1)
      have w7R : w7.heap[w.heap.size + 2]? = some (.cells #[.bool false, .slice none 0 0, .slice none 0 0] 25 (0, 0)) := (hg7.block _ (Array.getElem?_eq_some_iff.1 uR).1 (fun e => own_ne ox2 uR (by decide) _ e.symm rfl)).trans uR
      obtain ⟨g0, g1, g2⟩ : w7.cell? ⟨w.heap.size + 2, 0, none⟩ = some (.bool false) ∧ w7.cell? ⟨w.heap.size + 2, 1, none⟩ = some (.slice none 0 0) ∧ w7.cell? ⟨w.heap.size + 2, 2, none⟩ = some (.slice none 0 0) := ⟨(row_cells w7R).1 0, (row_cells w7R).1 1, (row_cells w7R).1 2⟩
      obtain ⟨g3, g4, g5⟩ : w7.frozen? ⟨w.heap.size + 2, 0, none⟩ = false ∧ w7.frozen? ⟨w.heap.size + 2, 1, none⟩ = false ∧ w7.frozen? ⟨w.heap.size + 2, 2, none⟩ = false := ⟨(row_cells w7R).2 0, (row_cells w7R).2 1, (row_cells w7R).2 2⟩
      obtain ⟨wf, hwf⟩ : ∃ wf, wf = (((w7.setCell ⟨w.heap.size + 2, 0, none⟩ (.bool true)).setCell ⟨w.heap.size + 2, 1, none⟩ (.slice A7 n7 c7)).setCell ⟨w.heap.size + 2, 2, none⟩ (.slice none 0 0)) := ⟨_, rfl⟩
      have efR := set3_at (x := .bool true) (y := .slice A7 n7 c7) (z := .slice none 0 0) w7R
      rw [← hwf] at efR
      have ow : wf.ownsRow w.heap.size 62 4 (.slice A7 n7 c7) n7 (CsV (a.cells ++ b.cells)) := by
        rw [hwf]
        exact row_same ho7 fun p hp => set3_far (own_ne ho7 w7R (by decide) p hp)
      have hbf : Below w.heap.size w wf := by
        rw [hwf]
        exact ((hb7.setCell (p := ⟨w.heap.size + 2, 0, none⟩) (show w.heap.size ≤ w.heap.size + 2 by omega) _).setCell (p := ⟨w.heap.size + 2, 1, none⟩) (show w.heap.size ≤ w.heap.size + 2 by omega) _).setCell (p := ⟨w.heap.size + 2, 2, none⟩) (show w.heap.size ≤ w.heap.size + 2 by omega) _
      have i0 : wf.cell? ⟨w.heap.size + 2, 0, none⟩ = some (.bool true) := (row_cells efR).1 0
      have i1 : wf.cell? ⟨w.heap.size + 2, 1, none⟩ = some (.slice A7 n7 c7) := (row_cells efR).1 1
      have i2 : wf.cell? ⟨w.heap.size + 2, 2, none⟩ = some (.slice none 0 0) := (row_cells efR).1 2
      have HR := Lib.hid hr
      have HN7 := Lib.hid hn7
      have HWF := Lib.hid hwf
      have HOW := Lib.hid ow
      have HBF := Lib.hid hbf
      have HLF := Lib.hid hlf
      clear hn7 hr hwf ow hbf efR w7R hg7 ho7 hb7 ox2 kx2 oy2 ky2 sepx sepk uA uB uR ua hbu hlf hus hsW hAB hRA hRB hA hB hbx hcb husz fA0 fA2 fB2
      go_wp2_with (at_builtin; go_must (refine Lib.wpList_append_run _ rfl (.tmp 17) (.tmp 19) 22 22 rfl _ _ rfl rfl _ _ HR.out ?_))
      rw [← HWF.out]
      refine bodyPost_ret (v := .agg #[.bool true, .slice A7 n7 c7, .slice none 0 0]) (by rw [results_c rfl]; go_simp; try rfl) rfl ?_
      have hj : PN.join a s b = ⟨true, a.cells ++ b.cells, []⟩ := by unfold PN.join; rw [if_pos HLF.out]
      rw [hj]
      have how := HOW.out
      rw [HN7.out] at how ⊢
      exact ⟨_, rfl, ⟨_, _, rfl, RowN.of_own how fun p hp => (how.lt p hp).1, KsN.nil _ _⟩, HBF.out⟩
    | false =>
      rw [hlf] at fa fA0
      obtain ⟨u1, hu1⟩ : ∃ u1, u1 = u.alloc (.cells #[.string s, .string ⟨#[]⟩, .int .i64 0, .int .i64 0] 62) := ⟨_, rfl⟩
      have hb1 : Below u.heap.size u u1 := by rw [hu1]; exact (Below.refl _ _).alloc (Nat.le_refl _) _
      have p1 : u1.heap[u.heap.size]? = some (.cells #[.string s, .string ⟨#[]⟩, .int .i64 0, .int .i64 0] 62 (0, 0)) := by rw [hu1]; exact heap_alloc_new u _
      have hs1 : u1.heap.size = u.heap.size + 1 := by rw [hu1]; simp
      have hbu1 := hbu.trans (Joins.below_le hb1 hbu.size)
      have ox3 := row_same ox2 (w' := u1) fun p hp => hb1.block p (ox2.lt p hp).2
      obtain ⟨A7, c7, w7, hr, ho7, hg7⟩ := app_rcs u1 w.heap.size ox3 (one_cell p1) (by simp; omega) hbu1.size
      have hb7 : Below w.heap.size w w7 := hbu1.grown hg7 hbu1.size (fun p hp => (ox3.lt p hp.symm.symm).1)
      obtain ⟨n7, hn7⟩ : ∃ n7, n7 = (a.cells ++ [(⟨s, ⟨#[]⟩, 0, 0⟩ : PC)]).length := ⟨_, rfl⟩
      rw [← hn7] at hr ho7
      -- what the append has left as it was
      have far7 : ∀ p, p < u.heap.size → (Value.slice A1 a.cells.length c1).ownBlock ≠ some p → w7.heap[p]? = u.heap[p]? := fun p hp hne => (hg7.block p (by omega) (fun e => hne e.symm)).trans (hb1.block p hp)
      have hs7 : u.heap.size ≤ w7.heap.size := by have := hg7.size; omega
      have u7A := (far7 A (Array.getElem?_eq_some_iff.1 uA).1 (fun e => own_ne ox2 uA (by decide) _ e rfl)).trans uA
      have u7B := (far7 B (Array.getElem?_eq_some_iff.1 uB).1 (fun e => own_ne ox2 uB (by decide) _ e rfl)).trans uB
      have u7R := (far7 _ (Array.getElem?_eq_some_iff.1 uR).1 (fun e => own_ne ox2 uR (by decide) _ e rfl)).trans uR
      have oy7 := row_same oy2 (w' := w7) fun p hp => far7 p (oy2.lt p hp).2 (fun e => by have h1 := sepx p e; have h2 := (oy2.lt p hp).1; omega)
      have ky7 := row_same ky2 (w' := w7) fun p hp => far7 p (ky2.lt p hp).2 (fun e => by have h1 := sepx p e; have h2 := (ky2.lt p hp).1; omega)
      have kx7 := row_same kx2 (w' := w7) fun p hp => far7 p (kx2.lt p hp).2 (fun e => rows_apart ox2 kx2 (by decide) e hp rfl)
      -- the new node
      obtain ⟨w9, hw9⟩ : ∃ w9, w9 = w7.alloc (.cells #[.bool false, .slice A7 n7 c7, .slice none 0 0] 25) := ⟨_, rfl⟩
      have n9 : w9.heap[w7.heap.size]? = some (.cells #[.bool false, .slice A7 n7 c7, .slice none 0 0] 25 (0, 0)) := by rw [hw9]; exact heap_alloc_new w7 _
      have hb9 : Below w7.heap.size w7 w9 := by rw [hw9]; exact (Below.refl _ _).alloc (Nat.le_refl _) _
      have o9 := row_same ho7 (w' := w9) fun p hp => hb9.block p (ho7.lt p hp).2
      have oy9 := row_same oy7 (w' := w9) fun p hp => hb9.block p (oy7.lt p hp).2
      have ky9 := row_same ky7 (w' := w9) fun p hp => hb9.block p (ky7.lt p hp).2
      have kx9 := row_same kx7 (w' := w9) fun p hp => hb9.block p (kx7.lt p hp).2
      have hbw9 := hb7.trans (Joins.below_le hb9 hb7.size)
      obtain ⟨A10, c10, w10, hr10, ho10, hg10⟩ := app_rcs w9 w.heap.size (l := a.cells ++ [(⟨s, ⟨#[]⟩, 0, 0⟩ : PC)]) (A := A7) (c := c7) (by rw [← hn7]; exact o9) (RowN.of_own oy9 fun _ _ => trivial) (by simp; omega) hbw9.size
      rw [← hn7] at hr10 hg10
      obtain ⟨n10, hn10⟩ : ∃ n10, n10 = (a.cells ++ [(⟨s, ⟨#[]⟩, 0, 0⟩ : PC)] ++ b.cells).length := ⟨_, rfl⟩
      rw [← hn10] at hr10 ho10
      have far10 : ∀ p, p < w9.heap.size → (Value.slice A7 n7 c7).ownBlock ≠ some p → w10.heap[p]? = w9.heap[p]? := fun p hp hne => hg10.block p hp (fun e => hne e.symm)
      have m9 : w7.heap.size < w9.heap.size := (Array.getElem?_eq_some_iff.1 n9).1
      have n10' := (far10 _ m9 (fun e => own_ne o9 n9 (by decide) _ e rfl)).trans n9
      have u9A := (hb9.block _ (Array.getElem?_eq_some_iff.1 u7A).1).trans u7A
      have u9B := (hb9.block _ (Array.getElem?_eq_some_iff.1 u7B).1).trans u7B
      have u9R := (hb9.block _ (Array.getElem?_eq_some_iff.1 u7R).1).trans u7R
      have u10A := (far10 _ (Array.getElem?_eq_some_iff.1 u9A).1 (fun e => own_ne o9 u9A (by decide) _ e rfl)).trans u9A
      have u10B := (far10 _ (Array.getElem?_eq_some_iff.1 u9B).1 (fun e => own_ne o9 u9B (by decide) _ e rfl)).trans u9B
      have u10R := (far10 _ (Array.getElem?_eq_some_iff.1 u9R).1 (fun e => own_ne o9 u9R (by decide) _ e rfl)).trans u9R
      have kx10 := row_same kx9 (w' := w10) fun p hp => far10 p (kx9.lt p hp).2 (fun e => rows_apart o9 kx9 (by decide) e hp rfl)
      have ky10 := row_same ky9 (w' := w10) fun p hp => far10 p (ky9.lt p hp).2 (fun e => rows_apart o9 ky9 (by decide) e hp rfl)
      have hb10 : Below w.heap.size w w10 := hbw9.grown hg10 hbw9.size (fun p hp => (o9.lt p hp.symm.symm).1)
      have hAn : A ≠ w7.heap.size := Nat.ne_of_lt (Array.getElem?_eq_some_iff.1 u7A).1
      have hBn : B ≠ w7.heap.size := Nat.ne_of_lt (Array.getElem?_eq_some_iff.1 u7B).1
      have hRn : w.heap.size + 2 ≠ w7.heap.size := Nat.ne_of_lt (Array.getElem?_eq_some_iff.1 u7R).1
      have hwN : w.heap.size ≤ w7.heap.size := by omega
      obtain ⟨w11, hw11⟩ : ∃ w11, w11 = w10.setCell ⟨w7.heap.size, 1, none⟩ (.slice A10 n10 c10) := ⟨_, rfl⟩
      have n11 := set1_at (y := .slice A10 n10 c10) n10'
      rw [← hw11] at n11
      have far11 : ∀ p, p ≠ w7.heap.size → w11.heap[p]? = w10.heap[p]? := fun p hp => by rw [hw11]; exact set_far hp
      have kx11 := row_same kx10 (w' := w11) fun p hp => far11 p (own_ne kx10 n10' (by decide) p hp)
      have ky11 := row_same ky10 (w' := w11) fun p hp => far11 p (own_ne ky10 n10' (by decide) p hp)
      have o11 := row_same ho10 (w' := w11) fun p hp => far11 p (own_ne ho10 n10' (by decide) p hp)
      have u11A := (far11 A hAn).trans u10A
      have u11B := (far11 B hBn).trans u10B
      have u11R := (far11 _ hRn).trans u10R
      have hb11 : Below w.heap.size w w11 := by rw [hw11]; exact hb10.setCell (p := ⟨w7.heap.size, 1, none⟩) hwN _
      obtain ⟨A12, c12, w12, hr12, ho12, hg12⟩ := app_ints w11 w.heap.size kx11 (RowN.of_own ky11 fun _ _ => trivial) (by omega) hb11.size
      obtain ⟨n12, hn12⟩ : ∃ n12, n12 = (a.kids ++ b.kids).length := ⟨_, rfl⟩
      rw [← hn12] at hr12 ho12
      have far12 : ∀ p, p < w11.heap.size → (Value.slice A2 a.kids.length c2).ownBlock ≠ some p → w12.heap[p]? = w11.heap[p]? := fun p hp hne => hg12.block p hp (fun e => hne e.symm)
      have n12' := (far12 _ (Array.getElem?_eq_some_iff.1 n11).1 (fun e => own_ne kx11 n11 (by decide) _ e rfl)).trans n11
      have u12R := (far12 _ (Array.getElem?_eq_some_iff.1 u11R).1 (fun e => own_ne kx11 u11R (by decide) _ e rfl)).trans u11R
      have o12 := row_same o11 (w' := w12) fun p hp => far12 p (o11.lt p hp).2 (fun e => rows_apart o11 kx11 (by decide) hp e rfl)
      have hb12 : Below w.heap.size w w12 := hb11.grown hg12 hb11.size (fun p hp => (kx11.lt p hp.symm.symm).1)
      obtain ⟨w13, hw13⟩ : ∃ w13, w13 = w12.setCell ⟨w7.heap.size, 2, none⟩ (.slice A12 n12 c12) := ⟨_, rfl⟩
      have n13 := set2_at (y := .slice A12 n12 c12) n12'
      rw [← hw13] at n13
      have far13 : ∀ p, p ≠ w7.heap.size → w13.heap[p]? = w12.heap[p]? := fun p hp => by rw [hw13]; exact set_far hp
      have o13 := row_same o12 (w' := w13) fun p hp => far13 p (own_ne o12 n12' (by decide) p hp)
      have k13 := row_same ho12 (w' := w13) fun p hp => far13 p (own_ne ho12 n12' (by decide) p hp)
      have u13R := (far13 _ hRn).trans u12R
      have hb13 : Below w.heap.size w w13 := by rw [hw13]; exact hb12.setCell (p := ⟨w7.heap.size, 2, none⟩) hwN _
      obtain ⟨wf, hwf⟩ : ∃ wf, wf = (((w13.setCell ⟨w.heap.size + 2, 0, none⟩ (.bool false)).setCell ⟨w.heap.size + 2, 1, none⟩ (.slice A10 n10 c10)).setCell ⟨w.heap.size + 2, 2, none⟩ (.slice A12 n12 c12)) := ⟨_, rfl⟩
      have efR := set3_at (x := .bool false) (y := .slice A10 n10 c10) (z := .slice A12 n12 c12) u13R
      rw [← hwf] at efR
      have of : wf.ownsRow w.heap.size 62 4 (.slice A10 n10 c10) n10 (CsV (a.cells ++ [(⟨s, ⟨#[]⟩, 0, 0⟩ : PC)] ++ b.cells)) := by
        rw [hwf]
        exact row_same o13 fun p hp => set3_far (own_ne o13 u13R (by decide) p hp)
      have kf : wf.ownsRow w.heap.size 3 1 (.slice A12 n12 c12) n12 (KsV (a.kids ++ b.kids)) := by
        rw [hwf]
        exact row_same k13 fun p hp => set3_far (own_ne k13 u13R (by decide) p hp)
      have hbf : Below w.heap.size w wf := by
        rw [hwf]
        exact ((hb13.setCell (p := ⟨w.heap.size + 2, 0, none⟩) (show w.heap.size ≤ w.heap.size + 2 by omega) _).setCell (p := ⟨w.heap.size + 2, 1, none⟩) (show w.heap.size ≤ w.heap.size + 2 by omega) _).setCell (p := ⟨w.heap.size + 2, 2, none⟩) (show w.heap.size ≤ w.heap.size + 2 by omega) _
      have HR := Lib.hid hr
      have HR10 := Lib.hid hr10
      have HR12 := Lib.hid hr12
      have HU1 := Lib.hid hu1
      have HW9 := Lib.hid hw9
      have HW11 := Lib.hid hw11
      have HW13 := Lib.hid hw13
      have HWF := Lib.hid hwf
      have HOF := Lib.hid of
      have HKF := Lib.hid kf
      have HBF := Lib.hid hbf
      have HLF := Lib.hid hlf
      have HN10 := Lib.hid hn10
      have HN12 := Lib.hid hn12
      have C9 := Lib.hid (row_cells n9)
      have C9B := Lib.hid (row_cells u9B)
      have C10 := Lib.hid (row_cells n10')
      have C11A := Lib.hid (row_cells u11A)
      have C11B := Lib.hid (row_cells u11B)
      have C12 := Lib.hid (row_cells n12')
      have C13 := Lib.hid (row_cells n13)
      have CR := Lib.hid (row_cells u13R)
      have CF := Lib.hid (row_cells efR)
      clear hr hr10 hr12 hu1 hw9 hw11 hw13 hwf of kf hbf hlf hn7 hn10 hn12 n9 u9B n10' u11A u11B n12' n13 u13R efR
      clear far13 o13 k13 hb13 far12 u12R o12 hb12 hg12 ho12 far11 kx11 ky11 o11 u11R hb11 n11 hRn hBn hAn hwN hb10 ky10 kx10 u10R u10B u10A u9R u9A m9 far10 hg10 ho10 hbw9 kx9 ky9 oy9 o9 hb9 kx7 ky7 oy7 u7R u7B u7A hs7 far7 hb7 hg7 ho7 ox3 hbu1 hs1 p1 hb1
      clear ox2 kx2 oy2 ky2 sepx sepk uA uB uR ua hbu hus hsW hAB hRA hRB hA hB hbx hcb husz
      rw [HU1.out] at HR
      go_upto_region 5 with (at_builtin; go_must (refine Lib.wpList_append_run _ rfl (.tmp 23) (.tmp 26) 22 22 rfl _ _ rfl rfl _ _ HR.out ?_))
      rw [← HW9.out]
      clear fa fA0 fA1 fA2 fB1 fB2
      have f1 : w9.cell? ⟨w7.heap.size, 1, none⟩ = some (.slice A7 n7 c7) := C9.out.1 1
      have f2 : w9.cell? ⟨B, 1, none⟩ = some (.slice B1 b.cells.length e1) := C9B.out.1 1
      have f3 : w10.cell? ⟨w7.heap.size, 1, none⟩ = some (.slice A7 n7 c7) := C10.out.1 1
      have f4 : w10.frozen? ⟨w7.heap.size, 1, none⟩ = false := C10.out.2 1
      go_upto_region 6 with (at_builtin; go_must (refine Lib.wpList_append_run _ rfl (.tmp 30) (.tmp 32) 22 22 rfl _ _ rfl rfl _ _ HR10.out ?_))
      rw [← HW11.out]
      clear f1 f2 f3 f4
      have f1 : w11.cell? ⟨A, 2, none⟩ = some (.slice A2 a.kids.length c2) := C11A.out.1 2
      have f2 : w11.cell? ⟨B, 2, none⟩ = some (.slice B2 b.kids.length e2) := C11B.out.1 2
      have f3 : w12.cell? ⟨w7.heap.size, 2, none⟩ = some (.slice none 0 0) := C12.out.1 2
      have f4 : w12.frozen? ⟨w7.heap.size, 2, none⟩ = false := C12.out.2 2
      go_upto_region 7 with (at_builtin; go_must (refine Lib.wpList_append_run _ rfl (.tmp 36) (.tmp 38) 23 23 rfl _ _ rfl rfl _ _ HR12.out ?_))
      rw [← HW13.out]
      clear f1 f2 f3 f4
      have f1 : w13.cell? ⟨w7.heap.size, 0, none⟩ = some (.bool false) := C13.out.1 0
      have f2 : w13.cell? ⟨w7.heap.size, 1, none⟩ = some (.slice A10 n10 c10) := C13.out.1 1
      have f3 : w13.cell? ⟨w7.heap.size, 2, none⟩ = some (.slice A12 n12 c12) := C13.out.1 2
      have g0 : w13.cell? ⟨w.heap.size + 2, 0, none⟩ = some (.bool false) := CR.out.1 0
      have g1 : w13.cell? ⟨w.heap.size + 2, 1, none⟩ = some (.slice none 0 0) := CR.out.1 1
      have g2 : w13.cell? ⟨w.heap.size + 2, 2, none⟩ = some (.slice none 0 0) := CR.out.1 2
      have g3 : w13.frozen? ⟨w.heap.size + 2, 0, none⟩ = false := CR.out.2 0
      have g4 : w13.frozen? ⟨w.heap.size + 2, 1, none⟩ = false := CR.out.2 1
      have g5 : w13.frozen? ⟨w.heap.size + 2, 2, none⟩ = false := CR.out.2 2
      have i0 : wf.cell? ⟨w.heap.size + 2, 0, none⟩ = some (.bool false) := CF.out.1 0
      have i1 : wf.cell? ⟨w.heap.size + 2, 1, none⟩ = some (.slice A10 n10 c10) := CF.out.1 1
      have i2 : wf.cell? ⟨w.heap.size + 2, 2, none⟩ = some (.slice A12 n12 c12) := CF.out.1 2
      go_wp2_with fail
      rw [← HWF.out]
      refine bodyPost_ret (v := .agg #[.bool false, .slice A10 n10 c10, .slice A12 n12 c12]) (by rw [results_c rfl]; go_simp; try rfl) rfl ?_
      have hj : PN.join a s b = ⟨false, a.cells ++ [(⟨s, ⟨#[]⟩, 0, 0⟩ : PC)] ++ b.cells, a.kids ++ b.kids⟩ := by unfold PN.join; rw [if_neg (by rw [HLF.out]; decide)]; simp
      rw [hj]
      have hof := HOF.out
      have hkf := HKF.out
      rw [HN10.out] at hof ⊢
      rw [HN12.out] at hkf ⊢
      exact ⟨_, rfl, ⟨_, _, rfl, RowN.of_own hof fun p hp => (hof.lt p hp).1, RowN.of_own hkf fun p hp => (hkf.lt p hp).1⟩, HBF.out⟩

end Go.Proofs.Ytedcknlafkokkaa
