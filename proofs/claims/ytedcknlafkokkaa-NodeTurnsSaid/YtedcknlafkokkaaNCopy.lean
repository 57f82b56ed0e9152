/-
  A node copied: the program's copied. No statement is proved here. No condition.
-/
import Derived.Test.YtedcknlafkokkaaNClone
import Derived.Test.YtedcknlafkokkaaNEnc
namespace Go.Proofs.Ytedcknlafkokkaa
open Go.RowKit

theorem results_c {fn : Func} {p : Tmp} {tp : TypeId} (h : fn.results = #[.cell p tp]) (tmps : Array Value) (P : Program) (w : World) :
    (results fn tmps).run P w = ((asAddr (tmps.getD p undef)).run P w).andThen fun a w₁ => (loadVar tp a).run P w₁ := by
  simp only [results, h]
  simp [Sem.run_bind, Result.andThen]
theorem results_cc {fn : Func} {p q : Tmp} {tp tq : TypeId} (h : fn.results = #[.cell p tp, .cell q tq]) (tmps : Array Value) (P : Program) (w : World) :
    (results fn tmps).run P w = ((asAddr (tmps.getD p undef)).run P w).andThen fun a w₁ => ((loadVar tp a).run P w₁).andThen fun v w₂ => ((asAddr (tmps.getD q undef)).run P w₂).andThen fun b w₃ => ((loadVar tq b).run P w₃).andThen fun u w₄ => .ok (.tuple #[v, u]) w₄ := by
  simp only [results, h]
  simp [Sem.run_bind, Result.andThen]
theorem results_ctc {fn : Func} {p s q : Tmp} {tp tq : TypeId} (h : fn.results = #[.cell p tp, .tmp s, .cell q tq]) (tmps : Array Value) (P : Program) (w : World) :
    (results fn tmps).run P w = ((asAddr (tmps.getD p undef)).run P w).andThen fun a w₁ => ((loadVar tp a).run P w₁).andThen fun v w₂ => ((asAddr (tmps.getD q undef)).run P w₂).andThen fun b w₃ => ((loadVar tq b).run P w₃).andThen fun u w₄ => .ok (.tuple #[v, tmps.getD s undef, u]) w₄ := by
  simp only [results, h]
  simp [Sem.run_bind, Result.andThen]
theorem set_far {w : World} {p i : Nat} {u : Value} {b : Nat} (h : b ≠ p) : (w.setCell ⟨p, i, none⟩ u).heap[b]? = w.heap[b]? := Below.heap_setCell w ⟨p, i, none⟩ u b h
/-- a node that is owned -/
def OwnN (w : World) (B : Nat) (v : Value) (n : PN) : Prop := ∃ Ac cc Ak ck, v = .agg #[.bool n.leaf, .slice Ac n.cells.length cc, .slice Ak n.kids.length ck] ∧ w.ownsRow B 59 4 (.slice Ac n.cells.length cc) n.cells.length (CsV n.cells) ∧ w.ownsRow B 3 1 (.slice Ak n.kids.length ck) n.kids.length (KsV n.kids)
theorem OwnN.below {w w' : World} {B : Nat} {v : Value} {n : PN} (h : OwnN w B v n) (hb : Below w.heap.size w w') : OwnN w' B v n := by
  obtain ⟨Ac, cc, Ak, ck, rfl, h1, h2⟩ := h
  exact ⟨Ac, cc, Ak, ck, rfl, row_same h1 fun p hp => hb.block p (h1.lt p hp).2, row_same h2 fun p hp => hb.block p (h2.lt p hp).2⟩
theorem OwnN.node {w : World} {B : Nat} {v : Value} {n : PN} (h : OwnN w B v n) : NodeN w (fun b => B ≤ b) v n := by
  obtain ⟨Ac, cc, Ak, ck, rfl, h1, h2⟩ := h
  exact ⟨_, _, rfl, RowN.of_own h1 fun b hb => (h1.lt b hb).1, RowN.of_own h2 fun b hb => (h2.lt b hb).1⟩
theorem OwnN.base {w : World} {B B' : Nat} {v : Value} {n : PN} (h : OwnN w B v n) (hB : B' ≤ B) : OwnN w B' v n := by
  obtain ⟨Ac, cc, Ak, ck, rfl, h1, h2⟩ := h
  exact ⟨Ac, cc, Ak, ck, rfl, own_base h1 hB, own_base h2 hB⟩
theorem NodeN.any {w : World} {N : Nat → Prop} {v : Value} {n : PN} (h : NodeN w N v n) : NodeN w Any v n := h.mono fun _ _ _ => trivial
theorem zero_node (W : World) : (zeroValue 31).run Try.prog W = .ok (.agg #[.bool false, .slice none 0 0, .slice none 0 0]) W := by kernel_rfl
set_option maxRecDepth 100000 in
theorem copiedN_any (n : PN) (v : Value) (w : World) (h : NodeN w Any v n) (hl : n.cells.length ≤ 1000000) (hkl : n.kids.length ≤ 1000000) :
    Calls Try.prog 53 #[v] w fun e w' => ∃ v', e = .returned v' ∧ OwnN w' w.heap.size v' n ∧ Below w.heap.size w w' := by
  obtain ⟨vc, vk, rfl, hc, hk⟩ := h
  obtain ⟨Ac, cc, rfl, -, -⟩ := hc.slice
  obtain ⟨Ak, ck, rfl, -, -⟩ := hk.slice
  obtain ⟨w1, hw1⟩ : ∃ w1, w1 = w.alloc (.cells #[.bool n.leaf, .slice Ac n.cells.length cc, .slice Ak n.kids.length ck] 31) := ⟨_, rfl⟩
  have hb1 : Below w.heap.size w w1 := by rw [hw1]; exact (Below.refl _ _).alloc (Nat.le_refl _) _
  have hs1 : w1.heap.size = w.heap.size + 1 := by rw [hw1]; simp
  have hx1 : w1.heap[w.heap.size]? = some (.cells #[.bool n.leaf, .slice Ac n.cells.length cc, .slice Ak n.kids.length ck] 31 (0, 0)) := by rw [hw1]; exact heap_alloc_new w _
  obtain ⟨w2, hw2⟩ : ∃ w2, w2 = w1.alloc (.cells #[.bool false, .slice none 0 0, .slice none 0 0] 31) := ⟨_, rfl⟩
  have hb2 : Below w1.heap.size w1 w2 := by rw [hw2]; exact (Below.refl _ _).alloc (Nat.le_refl _) _
  have hs2 : w2.heap.size = w.heap.size + 2 := by rw [hw2]; simp [hs1]
  have hy2 : w2.heap[w.heap.size + 1]? = some (.cells #[.bool false, .slice none 0 0, .slice none 0 0] 31 (0, 0)) := by rw [hw2, ← hs1]; exact heap_alloc_new w1 _
  have hx2 := (hb2.block w.heap.size (by omega)).trans hx1
  have hbw : Below w.heap.size w w2 := hb1.trans (Joins.below_le hb2 hb1.size)
  have cA := fun W hW => clone_cells n.cells (.slice Ac n.cells.length cc) W hW hl
  have cB := fun W hW => clone_ints n.kids (.slice Ak n.kids.length ck) W hW hkl
  have hkeep : ∀ W, Below w2.heap.size w2 W → (W.cell? ⟨w.heap.size, 0, none⟩ = some (.bool n.leaf) ∧ W.cell? ⟨w.heap.size, 1, none⟩ = some (.slice Ac n.cells.length cc) ∧ W.cell? ⟨w.heap.size, 2, none⟩ = some (.slice Ak n.kids.length ck)) ∧ (W.cell? ⟨w.heap.size + 1, 0, none⟩ = some (.bool false) ∧ W.cell? ⟨w.heap.size + 1, 1, none⟩ = some (.slice none 0 0) ∧ W.cell? ⟨w.heap.size + 1, 2, none⟩ = some (.slice none 0 0)) ∧ (W.frozen? ⟨w.heap.size + 1, 0, none⟩ = false ∧ W.frozen? ⟨w.heap.size + 1, 1, none⟩ = false ∧ W.frozen? ⟨w.heap.size + 1, 2, none⟩ = false) := fun W hW => by
    have e1 := (hW.block w.heap.size (by omega)).trans hx2
    have e2 := (hW.block (w.heap.size + 1) (by omega)).trans hy2
    exact ⟨⟨(row_cells e1).1 0, (row_cells e1).1 1, (row_cells e1).1 2⟩, ⟨(row_cells e2).1 0, (row_cells e2).1 1, (row_cells e2).1 2⟩, (row_cells e2).2 0, (row_cells e2).2 1, (row_cells e2).2 2⟩
  have hput : ∀ W x y z, Below w2.heap.size w2 W → (((W.setCell ⟨w.heap.size + 1, 0, none⟩ x).setCell ⟨w.heap.size + 1, 1, none⟩ y).setCell ⟨w.heap.size + 1, 2, none⟩ z).cell? ⟨w.heap.size, 0, none⟩ = some (.bool n.leaf) ∧ (((W.setCell ⟨w.heap.size + 1, 0, none⟩ x).setCell ⟨w.heap.size + 1, 1, none⟩ y).setCell ⟨w.heap.size + 1, 2, none⟩ z).cell? ⟨w.heap.size, 1, none⟩ = some (.slice Ac n.cells.length cc) ∧ (((W.setCell ⟨w.heap.size + 1, 0, none⟩ x).setCell ⟨w.heap.size + 1, 1, none⟩ y).setCell ⟨w.heap.size + 1, 2, none⟩ z).cell? ⟨w.heap.size, 2, none⟩ = some (.slice Ak n.kids.length ck) := fun W x y z hW => by
    have e1 : (((W.setCell ⟨w.heap.size + 1, 0, none⟩ x).setCell ⟨w.heap.size + 1, 1, none⟩ y).setCell ⟨w.heap.size + 1, 2, none⟩ z).heap[w.heap.size]? = _ := ((set_far (by omega)).trans ((set_far (by omega)).trans ((set_far (by omega)).trans (hW.block w.heap.size (by omega))))).trans hx2
    exact ⟨(row_cells e1).1 0, (row_cells e1).1 1, (row_cells e1).1 2⟩
  have hCA : ∀ W, Below w2.heap.size w2 W → CsN W Any (.slice Ac n.cells.length cc) n.cells := fun W hW => hc.grow (hbw.trans (Joins.below_le hW hbw.size))
  have hKA : ∀ W, Below w2.heap.size w2 W → KsN W Any (.slice Ak n.kids.length ck) n.kids := fun W hW => hk.grow (hbw.trans (Joins.below_le hW hbw.size))
  have HKEEP := Lib.hid hkeep
  have HPUT := Lib.hid hput
  have HCA := Lib.hid hCA
  have HKA := Lib.hid hKA
  have HBW := Lib.hid hbw
  have HW2 := Lib.hid hw2
  have HW1 := Lib.hid hw1
  have HS2 := Lib.hid hs2
  have HY2 : Hid ((w1.alloc (.cells #[.bool false, .slice none 0 0, .slice none 0 0] 31)).heap[w.heap.size + 1]? = some (.cells #[.bool false, .slice none 0 0, .slice none 0 0] 31 (0, 0))) := Lib.hid (by rw [← hw2]; exact hy2)
  have hzn := zero_node
  clear hkeep hput hCA hKA hbw hx2 hy2 hb2 hx1 hb1 hw1 hw2 hs2 hs1 hc hk
  go_enter Try.func53, Try.ntmps53
  go_upto_region 1 with fail
  rw [← HW1.out]
  have hww : (w1.alloc (.cells #[.bool false, .slice none 0 0, .slice none 0 0] 31)) = w2 := HW2.out.symm
  rw [hww]
  have hbe : Below w2.heap.size w2 w2.drew := (Below.refl _ _).drew
  obtain ⟨hst, ⟨f0, f1, f2⟩, y0, y1, y2⟩ := HKEEP.out _ hbe
  clear hww
  go_region_held3 (fun w' => w'.cell? ⟨w.heap.size, 0, none⟩ = some (.bool n.leaf) ∧ w'.cell? ⟨w.heap.size, 1, none⟩ = some (.slice Ac n.cells.length cc) ∧ w'.cell? ⟨w.heap.size, 2, none⟩ = some (.slice Ak n.kids.length ck)) (first | exact hst | exact (HKEEP.out _ hbe).1 | exact HPUT.out _ _ _ _ hbe)
    (first
      | (go_at_call 74; refine (cA _ (HCA.out _ hbe)).mono ?_; rintro e wy ⟨A1, c1, rfl, ho1, hby⟩; replace ho1 := own_base ho1 hbe.size; (try replace ho2 := row_same ho2 fun p hp => hby.block p (ho2.lt p hp).2); replace hbe := hbe.trans (Joins.below_le hby hbe.size); clear f0 f1 f2 y0 y1 y2; obtain ⟨-, ⟨f0, f1, f2⟩, y0, y1, y2⟩ := HKEEP.out _ hbe)
      | (go_at_call 75; refine (cB _ (HKA.out _ hbe)).mono ?_; rintro e wy ⟨A2, c2, rfl, ho2, hby⟩; replace ho2 := own_base ho2 hbe.size; (try replace ho1 := row_same ho1 fun p hp => hby.block p (ho1.lt p hp).2); replace hbe := hbe.trans (Joins.below_le hby hbe.size); clear f0 f1 f2 y0 y1 y2; obtain ⟨-, ⟨f0, f1, f2⟩, y0, y1, y2⟩ := HKEEP.out _ hbe))
  have e3 : (((wy.setCell ⟨w.heap.size + 1, 0, none⟩ (.bool n.leaf)).setCell ⟨w.heap.size + 1, 1, none⟩ (.slice A1 n.cells.length c1)).setCell ⟨w.heap.size + 1, 2, none⟩ (.slice A2 n.kids.length c2)).heap[w.heap.size + 1]? = some (.cells #[.bool n.leaf, .slice A1 n.cells.length c1, .slice A2 n.kids.length c2] 31 (0, 0)) := by
    have hy : wy.heap[w.heap.size + 1]? = some (.cells #[.bool false, .slice none 0 0, .slice none 0 0] 31 (0, 0)) := (hbe.block (w.heap.size + 1) (by have := HS2.out; omega)).trans (by rw [HW2.out]; exact HY2.out)
    rw [Joins.block_setCell (Joins.block_setCell (Joins.block_setCell hy _) _) _]
    simp
  have hb3 : Below w.heap.size w (((wy.setCell ⟨w.heap.size + 1, 0, none⟩ (.bool n.leaf)).setCell ⟨w.heap.size + 1, 1, none⟩ (.slice A1 n.cells.length c1)).setCell ⟨w.heap.size + 1, 2, none⟩ (.slice A2 n.kids.length c2)) := (((HBW.out.trans (Joins.below_le hbe HBW.out.size)).setCell (Nat.le_succ _) _).setCell (Nat.le_succ _) _).setCell (Nat.le_succ _) _
  have o1 := own_base (c := w.heap.size) (row_same ho1 (w' := ((wy.setCell ⟨w.heap.size + 1, 0, none⟩ (.bool n.leaf)).setCell ⟨w.heap.size + 1, 1, none⟩ (.slice A1 n.cells.length c1)).setCell ⟨w.heap.size + 1, 2, none⟩ (.slice A2 n.kids.length c2)) fun p hp => by have := (ho1.lt p hp).1; have := HS2.out; exact (set_far (by omega)).trans ((set_far (by omega)).trans (set_far (by omega)))) (by have := HS2.out; omega)
  have o2 := own_base (c := w.heap.size) (row_same ho2 (w' := ((wy.setCell ⟨w.heap.size + 1, 0, none⟩ (.bool n.leaf)).setCell ⟨w.heap.size + 1, 1, none⟩ (.slice A1 n.cells.length c1)).setCell ⟨w.heap.size + 1, 2, none⟩ (.slice A2 n.kids.length c2)) fun p hp => by have := (ho2.lt p hp).1; have := HS2.out; exact (set_far (by omega)).trans ((set_far (by omega)).trans (set_far (by omega)))) (by have := HS2.out; omega)
  have E3 := Lib.hid e3
  have HB3 := Lib.hid hb3
  have HO1 := Lib.hid o1
  have HO2 := Lib.hid o2
  have r0 := (row_cells e3).1 0
  have r1 := (row_cells e3).1 1
  have r2 := (row_cells e3).1 2
  obtain ⟨w9, hw9⟩ : ∃ w9, w9 = ((wy.setCell ⟨w.heap.size + 1, 0, none⟩ (.bool n.leaf)).setCell ⟨w.heap.size + 1, 1, none⟩ (.slice A1 n.cells.length c1)).setCell ⟨w.heap.size + 1, 2, none⟩ (.slice A2 n.kids.length c2) := ⟨_, rfl⟩
  rw [← hw9] at r0 r1 r2 HB3 HO1 HO2 ⊢
  have r0' : w9.cell? ⟨w.heap.size + 1, 0, none⟩ = some (.bool n.leaf) := r0
  have r1' : w9.cell? ⟨w.heap.size + 1, 1, none⟩ = some (.slice A1 n.cells.length c1) := r1
  have r2' : w9.cell? ⟨w.heap.size + 1, 2, none⟩ = some (.slice A2 n.kids.length c2) := r2
  clear e3 hb3 o1 o2 r0 r1 r2 hw9 hst f0 f1 f2 y0 y1 y2 ho1 ho2 hby hbe E3
  go_wp2_with fail
  refine bodyPost_ret (v := .agg #[.bool n.leaf, .slice A1 n.cells.length c1, .slice A2 n.kids.length c2]) (by rw [results_c rfl]; go_simp; try rfl) rfl ?_
  exact ⟨_, rfl, ⟨A1, c1, A2, c2, rfl, HO1.out, HO2.out⟩, HB3.out⟩
end Go.Proofs.Ytedcknlafkokkaa
