/-
  Sums of sizes: the program's sumsOf, first, last. No statement is proved here. No condition.
-/
import Derived.Test.YtedcknlafkokkaaNHalf
namespace Go.Proofs.Ytedcknlafkokkaa
open Go.RowKit

theorem stepApp {P : Program} {ops : Array Oper} {o : Oper} {a : Act} {w w' : World} {v' : Value} {K : Act → World → Prop} {Q : Exit → Act → World → Prop} {E : Prop} (hg : o.guard = none) (s x : Operand) (t : TypeId)
    (hop : o.op = Op.call { callee := Callee.builtin Builtin.append, args := #[s, x], argTypes := #[t, t] }) (vs vx : Value) (hs : a.eval s = vs) (hx : a.eval x = vx)
    (hrun : (Builtin.append_ #[t, t] o.type #[vs, vx]).run P w = .ok v' w') (hK : K (a.put o.dst v') w') : if Region.wanted o (yielded ops a.tmps) = true then Oper.wp P o a w K Q else E := by
  have hw : Region.wanted o (yielded ops a.tmps) = true := by simp [Region.wanted, hg]
  rw [if_pos hw]
  unfold Oper.wp execOp
  simp only [hop, resolve, invoke, builtin, Sem.run_bind, Sem.run_pure, Result.andThen_ok, List.map_toArray, List.map_cons, List.map_nil, hs, hx, hrun]
  exact hK
section
variable {α : Type}
def tot (f : α → Nat) (l : List α) : Nat := (l.map f).sum
def pre (f : α → Nat) (l : List α) : List Int := (List.range (l.length + 1)).map fun i => (tot f (l.take i) : Int)
theorem pre_length (f : α → Nat) (l : List α) : (pre f l).length = l.length + 1 := by simp [pre]
theorem tot_snoc (f : α → Nat) (l : List α) (x : α) : tot f (l ++ [x]) = tot f l + f x := by simp [tot]
theorem pre_snoc (f : α → Nat) (l : List α) (x : α) : pre f (l ++ [x]) = pre f l ++ [((tot f l + f x : Nat) : Int)] := by
  unfold pre
  rw [List.length_append, show l.length + [x].length + 1 = (l.length + 1) + 1 from rfl, List.range_succ, List.map_append]
  congr 1
  · apply List.map_congr_left
    intro i hi
    have := List.mem_range.1 hi
    rw [List.take_append_of_le_length (by omega)]
  · simp only [List.map_cons, List.map_nil]
    rw [List.take_of_length_le (by simp), tot_snoc]
theorem pre_get (f : α → Nat) (l : List α) {i : Nat} (hi : i ≤ l.length) : (pre f l)[i]? = some ((tot f (l.take i) : Nat) : Int) := by
  unfold pre
  rw [List.getElem?_map, List.getElem?_range (by omega)]
  rfl
theorem tot_le {f : α → Nat} {l : List α} {m : Nat} (h : ∀ x ∈ l, f x ≤ m) : tot f l ≤ l.length * m := by
  induction l with
  | nil => simp [tot]
  | cons a l ih =>
    have h1 := h a (by simp)
    have h2 := ih (fun x hx => h x (by simp [hx]))
    have e : tot f (a :: l) = f a + tot f l := by simp [tot]
    rw [e, List.length_cons, Nat.add_mul]
    omega
theorem tot_split (f : α → Nat) (l : List α) (i : Nat) : tot f (l.take i) + tot f (l.drop i) = tot f l := by
  unfold tot
  rw [← List.sum_append, ← List.map_append, List.take_append_drop]
theorem take_succ_snoc {l : List α} {i : Nat} {x : α} (h : l[i]? = some x) : l.take (i + 1) = l.take i ++ [x] := by rw [List.take_add_one, h]; rfl
end
def szC (leaf : Bool) (c : PC) : Nat := (c.by leaf).length
def szK (k : Int) : Nat := (cnt k).length
theorem under_S : Try.prog.underlying 105 = some (.slice 3) := Try.underlying105
set_option maxRecDepth 100000 in
theorem closeC_any (c : PC) (leaf : Bool) (p : Nat) (w : World) (hs : c.small) (hp : w.cell? ⟨p, 0, none⟩ = some (.bool leaf)) (hpl : p < w.heap.size) :
    Calls Try.prog 77 #[c.agg, .pointer (some ⟨p, 0, none⟩)] w fun e w' => e = .returned (.int .i64 (szC leaf c : Int)) ∧ Below w.heap.size w w' := by
  have cZ := fun W => cellsize_any c leaf W hs
  unfold PC.agg at *
  have hb : Below w.heap.size w (w.alloc (.cells #[.string c.key, .string c.val, .int .i64 c.long, .int .i64 c.size] 59)) := (Below.refl _ _).alloc (Nat.le_refl _) _
  go_enter Try.func77, Try.ntmps77
  go_wp2_with fail
  refine (cZ _).mono ?_
  rintro e w2 ⟨rfl, hb2⟩
  have hbf := hb.trans (Joins.below_le hb2 hb.size)
  go_wp2_with fail
  go_ret
  exact ⟨rfl, hbf⟩
set_option maxRecDepth 100000 in
theorem sumsfirst_any (S : List Int) (v : Value) (i : Nat) (z : Int) (w : World) (h : KsN w Any v S) (hi : S[i]? = some z) (_hl : S.length ≤ 1000000) :
    Calls Try.prog 80 #[v, .int .i64 (i : Int)] w fun e w' => e = .returned (.int .i64 z) ∧ w = w' := by
  obtain ⟨b, o, n, k, rfl, -, hb, hc⟩ := h.cell hi
  obtain ⟨A, c, hv, -, -⟩ := h.slice
  injection hv with e1 e2 e3
  subst e1 e2 e3
  have hil := (List.getElem?_eq_some_iff.1 hi).1
  have a0 : (0 : Int) ≤ (i : Int) := by omega
  have a1 : (i : Int) < (S.length : Int) := by omega
  clear h hi
  go_enter Try.func80, Try.ntmps80
  go_wp2_with fail
  go_ret
  exact ⟨rfl, rfl⟩
set_option maxRecDepth 100000 in
theorem sumslast_any (S : List Int) (v : Value) (i : Nat) (z y : Int) (w : World) (h : KsN w Any v S) (hi : i < S.length) (hz : S[S.length - 1 - i]? = some z) (hy : S[S.length - 1]? = some y) (hl : S.length ≤ 1000000) (hyz : 0 ≤ y - z) (hyb : y - z < 9223372036854775808) :
    Calls Try.prog 81 #[v, .int .i64 (i : Int)] w fun e w' => e = .returned (.int .i64 (y - z)) ∧ ∃ m, w' = w.drewN m := by
  obtain ⟨b, o, n, k, rfl, -, hb, hc⟩ := h.cell hz
  obtain ⟨b', o', n', k', hv', -, hb', hc'⟩ := h.cell hy
  injection hv' with e1 e2 e3
  injection e1 with e1
  injection e1 with e1 e4 e5
  subst e1 e4 e2 e3
  obtain ⟨A, c, hv, -, -⟩ := h.slice
  injection hv with e1 e2 e3
  subst e1 e2 e3
  obtain ⟨L, hL⟩ : ∃ L, L = S.length - 1 := ⟨_, rfl⟩
  have hLL : S.length = L + 1 := by omega
  rw [← hL] at hc hc'
  obtain ⟨q, hq⟩ : ∃ q, q = L - i := ⟨_, rfl⟩
  rw [← hq] at hc
  have g1 : wrap64 ((S.length : Int) - 1) = (L : Int) := by unfold wrap64; omega
  have g2 : wrap64 ((L : Int) - (i : Int)) = (q : Int) := by unfold wrap64; omega
  have g3 : IntKind.i64.wrap (y - z) = y - z := wrapS _ hyz hyb
  have g4 : IntKind.i64.wrap ((S.length : Int) - 1) = (L : Int) := by rw [IntKind.wrap_i64]; omega
  have g5 : IntKind.i64.wrap ((L : Int) - (i : Int)) = (q : Int) := by rw [IntKind.wrap_i64]; omega
  have b1 : (L : Int) < (S.length : Int) := by omega
  have b2 : (q : Int) < (S.length : Int) := by omega
  have b3 : (0 : Int) ≤ (L : Int) := by omega
  have b4 : (0 : Int) ≤ (q : Int) := by omega
  obtain ⟨T, hT⟩ : ∃ T, T = S.length := ⟨_, rfl⟩
  rw [← hT] at g1 g4 b1 b2 ⊢
  clear h hz hy hi hLL hL hq hT hyz hyb
  go_enter Try.func81, Try.ntmps81
  go_upto_region 1 with fail
  go_quiet (fail)
  go_wp2_with fail
  go_ret
  exact ⟨rfl, _, rfl⟩
end Go.Proofs.Ytedcknlafkokkaa
