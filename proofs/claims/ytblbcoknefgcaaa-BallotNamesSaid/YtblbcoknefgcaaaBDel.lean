/-
  slices.Delete of one number. No statement is proved here. No condition.
-/
import Derived.Test.YtblbcoknefgcaaaBIns
import Derived.ArgAppend
namespace Go.Proofs.Ytblbcoknefgcaaa
open Go.RowKit

def atFrom (A : Option Addr) (c k s : Nat) : Option Addr := if c = k then A else A.map (·.add (k * s))
theorem wpList_clr {P : Program} {w : World} {ops : Array Oper} {rest : List Oper} {o : Oper} {a : Act} {Q : Exit → Act → World → Prop} (hgd : o.guard = none) (d : Operand) (t : TypeId)
    (ho : o.op = .call { callee := .builtin .clear, args := #[d], argTypes := #[t] }) (v : Value) (hd : a.eval d = v) {v' : Value} {w' : World}
    (hr : (Builtin.clear_ #[t] o.type #[v]).run P w = .ok v' w') (h : wpList P ops Q rest (a.put o.dst v') w') : wpList P ops Q (o :: rest) a w := by
  refine wpList_plain hgd fun K hK => ?_
  unfold Oper.wp execOp
  simp only [ho, resolve, invoke, builtin, Sem.run_bind, Sem.run_pure, Result.andThen_ok, List.map_toArray, List.map_cons, List.map_nil, hd, hr]
  exact hK _ _ h
theorem step_app {P : Program} {ops : Array Oper} {o : Oper} {a : Act} {w w' : World} {v' : Value} {K : Act → World → Prop} {Q : Exit → Act → World → Prop} {E : Prop} (hg : o.guard = none) (s x : Operand) (t : TypeId)
    (hop : o.op = Op.call { callee := Callee.builtin Builtin.append, args := #[s, x], argTypes := #[t, t] }) (vs vx : Value) (hs : a.eval s = vs) (hx : a.eval x = vx)
    (hrun : (Builtin.append_ #[t, t] o.type #[vs, vx]).run P w = .ok v' w') (hK : K (a.put o.dst v') w') : if Region.wanted o (yielded ops a.tmps) = true then Oper.wp P o a w K Q else E := by
  have hw : Region.wanted o (yielded ops a.tmps) = true := by simp [Region.wanted, hg]
  rw [if_pos hw]
  unfold Oper.wp execOp
  simp only [hop, resolve, invoke, builtin, Sem.run_bind, Sem.run_pure, Result.andThen_ok, List.map_toArray, List.map_cons, List.map_nil, hs, hx, hrun]
  exact hK
theorem elem_I : Try.prog.underlying 32 = some (.slice (Try.prog.elem 32)) := by kernel_rfl
theorem size_I (W : World) : (sizeOf (Try.prog.elem 32)).run Try.prog W = .ok 1 W := by kernel_rfl
theorem tillI (W : World) (a : Option Addr) (len c k : Nat) (hc : k ≤ c) : (Instr.slice 32 (.slice a len c) none (some (.int .i64 (k : Int))) none).run Try.prog W = .ok (.slice a k c) W := by
  rw [run_slice_h _ _ _ _ _ elem_I .i64 (k : Int) (by omega) (by omega), size_I]
  simp only [Result.andThen, sliced, Int.toNat_natCast, Nat.sub_zero, Nat.zero_mul]
  split
  · rfl
  · cases a <;> simp [Addr.add]
theorem fromI (W : World) (A : Option Addr) (len c k : Nat) (hl : k ≤ len) : (Instr.slice 32 (.slice A len c) (some (.int .i64 (k : Int))) none none).run Try.prog W = .ok (.slice (atFrom A c k 1) (len - k) (c - k)) W := by
  rw [run_slice_l _ _ _ _ _ elem_I .i64 (k : Int) (by omega) (by omega), size_I]
  simp only [Result.andThen, sliced, Int.toNat_natCast]
  unfold atFrom
  rfl
theorem lohiI (W : World) (A : Option Addr) (len c k m : Nat) (hkm : k ≤ m) (hm : m ≤ c) : (Instr.slice 32 (.slice A len c) (some (.int .i64 (k : Int))) (some (.int .i64 (m : Int))) none).run Try.prog W = .ok (.slice (atFrom A c k 1) (m - k) (c - k)) W := by
  rw [run_slice_lh _ _ _ _ _ elem_I .i64 .i64 (k : Int) (m : Int) (by omega) (by omega) (by omega), size_I]
  simp only [Result.andThen, sliced, Int.toNat_natCast]
  unfold atFrom
  rfl
theorem lohimI (W : World) (A : Option Addr) (len c m n : Nat) (hm : m ≤ n) (hn : n ≤ c) : ∃ v, (Instr.slice 32 (.slice A len c) (some (.int .i64 0)) (some (.int .i64 (m : Int))) (some (.int .i64 (n : Int)))).run Try.prog W = .ok v W := by
  rw [run_slice_lhm _ _ _ _ _ elem_I .i64 .i64 .i64 0 (m : Int) (n : Int) (by omega) (by omega) (by omega) (by omega), size_I]
  exact ⟨_, rfl⟩
set_option maxHeartbeats 4000000 in
set_option maxRecDepth 100000 in
theorem delInt_any (w : World) (B g cap i : Nat) (l : List Int) (h : inR.Own w B 3 (.slice (some ⟨g, 0, none⟩) l.length cap) l) (hi : i < l.length) (hmax : l.length ≤ 100000) (hBw : B ≤ w.heap.size) :
    Calls Try.prog 70 #[.slice (some ⟨g, 0, none⟩) l.length cap, .int .i64 (i : Int), .int .i64 ((i : Int) + 1)] w fun e w' => e = .returned (.slice (some ⟨g, 0, none⟩) (l.length - 1) cap) ∧ inR.Own w' B 3 (.slice (some ⟨g, 0, none⟩) (l.length - 1) cap) (l.take i ++ l.drop (i + 1)) ∧ Below B w w' := by
  rcases own_opened h with ⟨hv, -⟩ | ⟨g', cap', rest, hv, hb, hg, hn, hc, hr⟩
  · cases hv
  injection hv with v1 v2 v3
  injection v1 with v1
  injection v1 with v1
  subst v1 v3
  have h1 : inR.size = 1 := rfl
  rw [h1, Nat.mul_one, Nat.mul_one] at hr
  obtain ⟨iu, hiu, z0, z1, z2⟩ := info_parts info_cint
  have hrow : ∀ m : List Int, (inR.row m).length = m.length := fun m => by rw [inR.row_length]; exact Nat.mul_one _
  obtain ⟨vx, hvx⟩ := lohimI w (some ⟨g, 0, none⟩) l.length cap (i + 1) l.length (by omega) hn
  have hsl3 : ∃ vy, ∀ W, (Instr.slice 32 (.slice (some ⟨g, 0, none⟩) l.length cap) (some (.int .i64 (i : Int))) (some (.int .i64 ((i : Int) + 1))) (some (.int .i64 (l.length : Int)))).run Try.prog W = .ok vy W := ⟨_, fun W => by
    rw [show ((i : Int) + 1) = ((i + 1 : Nat) : Int) by push_cast; rfl, run_slice_lhm _ _ _ _ _ elem_I .i64 .i64 .i64 (i : Int) ((i + 1 : Nat) : Int) (l.length : Int) (by omega) (by omega) (by omega) (by omega), size_I]
    rfl⟩
  obtain ⟨vy, hsl3⟩ := hsl3
  -- the append in its place
  have hg2 : w.drew.heap[g]? = some (.cells (inR.row (l.take i) ++ inR.row ((l.drop i).take (l.length - i - 1)) ++ (inR.row ((l.drop i).drop (l.length - i - 1)) ++ rest)).toArray 3 (0, 0)) := by
    show w.heap[g]? = _
    rw [hg, ← List.append_assoc, List.append_assoc (inR.row (l.take i)), ← inR.row_append, List.take_append_drop, ← inR.row_append, List.take_append_drop]
  have hnews : ∀ A', A' = atFrom (some ⟨g, 0, none⟩) cap (i + 1) 1 → ∃ a, A' = some a ∧ ∀ t u, (inR.row (l.drop (i + 1)))[t]? = some u → w.drew.cell? (a.add t) = some u := fun A' hA => by
    unfold atFrom at hA
    by_cases hcj : cap = i + 1
    · rw [if_pos hcj] at hA
      refine ⟨_, hA, fun t u hu => ?_⟩
      have := (List.getElem?_eq_some_iff.1 hu).1
      rw [hrow, List.length_drop] at this
      omega
    · rw [if_neg hcj] at hA
      have hA : A' = some ((⟨g, 0, none⟩ : Addr).add ((i + 1) * 1)) := hA
      rw [plus_zero, Nat.zero_add, Nat.mul_one] at hA
      refine ⟨_, hA, fun t u hu => ?_⟩
      have e : w.drew.heap[g]? = some (.cells (inR.row l ++ rest).toArray 3 (0, 0)) := hg
      have hlt : (inR.row (l.take (i + 1))).length = i + 1 := by rw [hrow, List.length_take, Nat.min_eq_left (by omega)]
      rw [plus_zero, (blk_cells e).1, List.getElem?_toArray, inR.row_take_drop l (i + 1), List.append_assoc, List.getElem?_append_right (by rw [hlt]; exact Nat.le_add_right _ _), hlt, Nat.add_sub_cancel_left, List.getElem?_append_left (List.getElem?_eq_some_iff.1 hu).1]
      exact hu
  obtain ⟨a, hA, hsrc⟩ := hnews _ rfl
  have hdl : (inR.row (l.drop (i + 1))).length = l.length - (i + 1) := by rw [hrow, List.length_drop]
  have htl : (inR.row (l.take i)).length = i := by rw [hrow, List.length_take, Nat.min_eq_left (by omega)]
  have hold : (inR.row ((l.drop i).take (l.length - i - 1))).length = l.length - (i + 1) := by rw [hrow, List.length_take, List.length_drop]; omega
  have hrun := run_append_room_cells (P := Try.prog) (w := w.drew) (ty := 32) 32 3 iu Try.underlying32 hiu g 0 i cap a (l.length - (i + 1)) (cap - (i + 1)) (inR.row (l.drop (i + 1))) (by rw [hdl, z1, Nat.mul_one]) hsrc (inR.row_one _) (by omega)
    (fun t ht => by
      rw [hdl] at ht
      rw [(blk_cells hg2).1, List.getElem?_toArray, z1, Nat.mul_one, Nat.zero_add, List.getElem?_eq_getElem]
      · rfl
      · simp only [List.length_append, htl, hold]
        omega)
    (fun t _ => (blk_cells hg2).2 _)
  rw [z1, Nat.mul_one, Nat.zero_add] at hrun
  have heq : w.drew.setCells g i (inR.row (l.drop (i + 1))) = _ := setCells_setRow (w := w.drew) (vs := inR.row (l.drop (i + 1))) hg2 htl (by rw [hold, hdl]) (inR.row_one _)
  rw [heq] at hrun
  obtain ⟨w1, hw1⟩ : ∃ w1, w1 = w.drew.setRow g (inR.row (l.take i) ++ inR.row (l.drop (i + 1)) ++ (inR.row ((l.drop i).drop (l.length - i - 1)) ++ rest)).toArray := ⟨_, rfl⟩
  rw [← hw1] at hrun
  have hB1 : Below B w w1 := by rw [hw1]; exact below_setRow ((Below.refl _ _).drew) hb _
  obtain ⟨r, hrd⟩ : ∃ r, r = l.take i ++ l.drop (i + 1) := ⟨_, rfl⟩
  have hrl : r.length = l.length - 1 := by rw [hrd, List.length_append, List.length_take, List.length_drop]; omega
  have hg1 : w1.heap[g]? = some (.cells (inR.row r ++ inR.row ((l.drop i).drop (l.length - i - 1)) ++ rest).toArray 3 (0, 0)) := by
    rw [hw1, setRow_heap w.drew g _ _ _ _ hg2, hrd, inR.row_append, List.append_assoc _ _ rest]
  have hcl := run_clearK (P := Try.prog) 32 0 3 (g := g) (o := l.length - 1) (m := 1) (c := cap - (l.length - 1)) (T := 3) (pre := inR.row r) (old := inR.row ((l.drop i).drop (l.length - i - 1))) (post := rest) Try.underlying32 hiu z0 (by omega) hg1 (by rw [hrow, hrl]) (by rw [hrow, List.length_drop, List.length_drop]; show _ = 1 * 1; omega) (by simp [Value.cells, Value.oneCell'])
  have hz : ((Builtin.zeroCells (Value.int IntKind.i64 0).cells 1).toList).length = 1 * 1 := size_zeroCells _ _
  obtain ⟨w2, hw2⟩ : ∃ w2, w2 = w1.setRow g (inR.row r ++ (Builtin.zeroCells (Value.int IntKind.i64 0).cells 1).toList ++ rest).toArray := ⟨_, rfl⟩
  rw [← hw2] at hcl
  have e2 : w2.heap[g]? = some (.cells (inR.row r ++ ((Builtin.zeroCells (Value.int IntKind.i64 0).cells 1).toList ++ rest)).toArray 3 (0, 0)) := by
    rw [hw2, setRow_heap w1 g _ _ _ _ hg1, List.append_assoc]
  have ho2 := Rec.own_closed (R := inR) (B := B) (l := r) (cap := cap) hb e2 (by omega) hc (by rw [List.length_append, hz, hrl, h1]; omega)
  rw [hrl] at ho2
  have hB2 : Below B w w2 := by rw [hw2]; exact below_setRow hB1 hb _
  have HFIN := Lib.hid (And.intro ho2 hB2)
  have HRUN := Lib.hid hrun
  have s1 := fun W => tillI W (some ⟨g, 0, none⟩) l.length cap i (by omega)
  have s2 := fun W => fromI W (some ⟨g, 0, none⟩) l.length cap (i + 1) (by omega)
  have hn1 : i + (l.length - (i + 1)) = l.length - 1 := by omega
  obtain ⟨n1, hn1d⟩ : ∃ n1, n1 = l.length - 1 := ⟨_, rfl⟩
  rw [hn1] at HRUN
  rw [← hn1d] at HRUN HFIN hcl ⊢
  have s3 := fun W => lohiI W (some ⟨g, 0, none⟩) n1 cap n1 l.length (by omega) (by omega)
  have hat : atFrom (some ⟨g, 0, none⟩) cap n1 1 = some ⟨g, n1, none⟩ := by
    unfold atFrom
    rw [if_neg (by omega)]
    show some ((⟨g, 0, none⟩ : Addr).add (n1 * 1)) = _
    rw [plus_zero, Nat.zero_add, Nat.mul_one]
  rw [hat, show l.length - n1 = 1 by omega] at s3
  rw [hA, show ((i + 1 : Nat) : Int) = (i : Int) + 1 by push_cast; rfl] at s2
  have hjn : ((i : Int) == (i : Int) + 1) = false := by rw [beq_eq_false_iff_ne]; omega
  rw [← hrd]
  clear h hg hn hc hr hrow hg2 hnews hA hsrc hdl htl hold hrun heq hw1 hB1 hrl hg1 hz hw2 e2 ho2 hB2 hn1 hn1d hat hvx hiu z0 z1 z2 h1 hb hBw v2 hrd
  go_enter Try.func70, Try.ntmps70
  go_upto_region 5 with fail
  go_region_law (refine step_app rfl (.tmp 22) (.tmp 25) 32 rfl (.slice (some ⟨g, 0, none⟩) i cap) (.slice (some a) (l.length - (i + 1)) (cap - (i + 1))) rfl rfl (by with_reducible exact HRUN.out) ?_)
  all_goals
    go_wp2_with (at_builtin; go_must (refine wpList_clr rfl (.tmp 31) 32 rfl _ rfl hcl ?_))
    go_ret
    exact ⟨rfl, HFIN.out⟩
end Go.Proofs.Ytblbcoknefgcaaa
