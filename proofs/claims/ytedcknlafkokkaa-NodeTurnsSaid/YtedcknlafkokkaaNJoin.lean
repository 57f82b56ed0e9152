/-
  Two nodes joined: the program's Join. No statement is proved here. No condition.
-/
import Derived.Test.YtedcknlafkokkaaNCat
import Derived.Test.YtedcknlafkokkaaNHalfP
import Derived.Test.YtedcknlafkokkaaNCutW
namespace Go.Proofs.Ytedcknlafkokkaa
open Go.RowKit

theorem catC {W : World} {g : Nat} {T : TypeId} (ps : List (Value × List PC)) (J : List PC) (hJ : flatL ps = J) (hg : W.heap[g]? = some (.cells (ps.map Prod.fst).toArray T (0, 0))) (hps : ∀ p ∈ ps, CsN W Any p.1 p.2) (hl : J.length ≤ 10000) (hk : ps.length ≤ 100) :
    Calls Try.prog 59 #[.slice (some ⟨g, 0, none⟩) ps.length ps.length] W fun e w' => ∃ A c, e = .returned (.slice A J.length c) ∧ w'.ownsRow W.heap.size 59 4 (.slice A J.length c) J.length (CsV J) ∧ Below W.heap.size W w' := by
  subst hJ
  exact concatC_any ps g T W hg hps hl hk
theorem catI {W : World} {g : Nat} {T : TypeId} (ps : List (Value × List Int)) (J : List Int) (hJ : flatL ps = J) (hg : W.heap[g]? = some (.cells (ps.map Prod.fst).toArray T (0, 0))) (hps : ∀ p ∈ ps, KsN W Any p.1 p.2) (hl : J.length ≤ 10000) (hk : ps.length ≤ 100) :
    Calls Try.prog 60 #[.slice (some ⟨g, 0, none⟩) ps.length ps.length] W fun e w' => ∃ A c, e = .returned (.slice A J.length c) ∧ w'.ownsRow W.heap.size 3 1 (.slice A J.length c) J.length (KsV J) ∧ Below W.heap.size W w' := by
  subst hJ
  exact concatI_any ps g T W hg hps hl hk
/-- what stands in new blocks -/
theorem at_push0 (w : World) (x y : Obj) : ((w.alloc x).alloc y).drew.heap[w.heap.size]? = some x := (heap_alloc_old (w.alloc x) y (by simp)).trans (heap_alloc_new w x)
theorem at_push1 (w : World) (x y : Obj) : ((w.alloc x).alloc y).drew.heap[w.heap.size + 1]? = some y := by
  have := heap_alloc_new (w.alloc x) y
  rw [show (w.alloc x).heap.size = w.heap.size + 1 by simp] at this
  exact this
theorem at_push10 (w : World) (x y z : Obj) : (((w.alloc x).alloc y).alloc z).drew.heap[w.heap.size]? = some x := (heap_alloc_old ((w.alloc x).alloc y) z (by simp; omega)).trans (at_push0 w x y)
theorem at_push11 (w : World) (x y z : Obj) : (((w.alloc x).alloc y).alloc z).drew.heap[w.heap.size + 1]? = some y := (heap_alloc_old ((w.alloc x).alloc y) z (by simp)).trans (at_push1 w x y)
theorem at_push22 (w : World) (x y z : Obj) : (((w.alloc x).alloc y).alloc z).drew.heap[w.heap.size + 2]? = some z := by
  have := heap_alloc_new ((w.alloc x).alloc y) z
  rw [show ((w.alloc x).alloc y).heap.size = w.heap.size + 2 by simp] at this
  exact this
theorem one_cell {W : World} {p : Nat} {s : ByteArray} {T : TypeId} (h : W.heap[p]? = some (.cells #[.string s, .string ⟨#[]⟩, .int .i64 0, .int .i64 0] T (0, 0))) : CsN W Any (.slice (some ⟨p, 0, none⟩) 1 1) [⟨s, ⟨#[]⟩, 0, 0⟩] := by
  refine ⟨_, 1, rfl, rfl, Nat.le_refl _, by unfold maxLen; omega, (fun h => by cases h), fun _ => ⟨p, 0, rfl, trivial, (Array.getElem?_eq_some_iff.1 h).1, fun j u hu => ?_⟩⟩
  have hc : (CsV [(⟨s, ⟨#[]⟩, 0, 0⟩ : PC)]) = [.string s, .string ⟨#[]⟩, .int .i64 0, .int .i64 0] := rfl
  rw [hc] at hu
  rw [Nat.zero_add, (row_cells h).1 j, List.getElem?_toArray]
  exact hu
theorem all3 {α : Type} {P : α → Prop} {x y z : α} (hx : P x) (hy : P y) (hz : P z) : ∀ p ∈ [x, y, z], P p := fun p hp => by
  rcases List.mem_cons.1 hp with rfl | hp
  · exact hx
  · rcases List.mem_cons.1 hp with rfl | hp
    · exact hy
    · rcases List.mem_cons.1 hp with rfl | hp
      · exact hz
      · cases hp
theorem all2 {α : Type} {P : α → Prop} {x y : α} (hx : P x) (hy : P y) : ∀ p ∈ [x, y], P p := fun p hp => by
  rcases List.mem_cons.1 hp with rfl | hp
  · exact hx
  · rcases List.mem_cons.1 hp with rfl | hp
    · exact hy
    · cases hp
set_option maxHeartbeats 8000000 in
set_option maxRecDepth 1000000 in
theorem join_any (a b : PN) (s : ByteArray) (va vb : Value) (w : World) (ha : NodeN w Any va a) (hb : NodeN w Any vb b) (h1 : a.cells.length ≤ 1000) (h2 : a.kids.length ≤ 1001) (h3 : b.cells.length ≤ 1000) (h4 : b.kids.length ≤ 1001) :
    Calls Try.prog 26 #[va, .string s, vb] w fun e w' => ∃ v', e = .returned v' ∧ OwnN w' w.heap.size v' (PN.join a s b) ∧ Below w.heap.size w w' := by
  obtain ⟨vc, vk, rfl, hac, hak⟩ := ha
  obtain ⟨Ac, ac, rfl, -, -⟩ := hac.slice
  obtain ⟨Ak, ak, rfl, -, -⟩ := hak.slice
  obtain ⟨uc, uk, rfl, hbc, hbk⟩ := hb
  obtain ⟨Bc, bc, rfl, -, -⟩ := hbc.slice
  obtain ⟨Bk, bk, rfl, -, -⟩ := hbk.slice
  obtain ⟨w1, hw1⟩ : ∃ w1, w1 = w.alloc (.cells #[.bool a.leaf, .slice Ac a.cells.length ac, .slice Ak a.kids.length ak] 31) := ⟨_, rfl⟩
  have hb1 : Below w.heap.size w w1 := by rw [hw1]; exact (Below.refl _ _).alloc (Nat.le_refl _) _
  have hs1 : w1.heap.size = w.heap.size + 1 := by rw [hw1]; simp
  have hx1 : w1.heap[w.heap.size]? = some (.cells #[.bool a.leaf, .slice Ac a.cells.length ac, .slice Ak a.kids.length ak] 31 (0, 0)) := by rw [hw1]; exact heap_alloc_new w _
  obtain ⟨w2, hw2⟩ : ∃ w2, w2 = w1.alloc (.cells #[.bool b.leaf, .slice Bc b.cells.length bc, .slice Bk b.kids.length bk] 31) := ⟨_, rfl⟩
  have hb2 : Below w1.heap.size w1 w2 := by rw [hw2]; exact (Below.refl _ _).alloc (Nat.le_refl _) _
  have hs2 : w2.heap.size = w.heap.size + 2 := by rw [hw2]; simp [hs1]
  have hy2 : w2.heap[w.heap.size + 1]? = some (.cells #[.bool b.leaf, .slice Bc b.cells.length bc, .slice Bk b.kids.length bk] 31 (0, 0)) := by rw [hw2, ← hs1]; exact heap_alloc_new w1 _
  obtain ⟨w3, hw3⟩ : ∃ w3, w3 = w2.alloc (.cells #[.bool false, .slice none 0 0, .slice none 0 0] 31) := ⟨_, rfl⟩
  have hb3 : Below w2.heap.size w2 w3 := by rw [hw3]; exact (Below.refl _ _).alloc (Nat.le_refl _) _
  have hs3 : w3.heap.size = w.heap.size + 3 := by rw [hw3]; simp [hs2]
  have hz3 : w3.heap[w.heap.size + 2]? = some (.cells #[.bool false, .slice none 0 0, .slice none 0 0] 31 (0, 0)) := by rw [hw3, ← hs2]; exact heap_alloc_new w2 _
  have hx3 := (hb3.block w.heap.size (by omega)).trans ((hb2.block w.heap.size (by omega)).trans hx1)
  have hy3 := (hb3.block (w.heap.size + 1) (by omega)).trans hy2
  have hbw : Below w.heap.size w w3 := (hb1.trans (Joins.below_le hb2 hb1.size)).trans (Joins.below_le hb3 (by omega))
  have hzn := zero_node
  have hS : ∀ W, Below w3.heap.size w3 W → W.cell? ⟨w.heap.size, 1, none⟩ = some (.slice Ac a.cells.length ac) ∧ W.cell? ⟨w.heap.size + 1, 1, none⟩ = some (.slice Bc b.cells.length bc) ∧ W.cell? ⟨w.heap.size, 2, none⟩ = some (.slice Ak a.kids.length ak) ∧ W.cell? ⟨w.heap.size + 1, 2, none⟩ = some (.slice Bk b.kids.length bk) := fun W hW => by
    have e1 := (hW.block w.heap.size (by omega)).trans hx3
    have e2 := (hW.block (w.heap.size + 1) (by omega)).trans hy3
    exact ⟨(row_cells e1).1 1, (row_cells e2).1 1, (row_cells e1).1 2, (row_cells e2).1 2⟩
  have hR : ∀ W, Below w3.heap.size w3 W → (W.cell? ⟨w.heap.size + 2, 0, none⟩ = some (.bool false) ∧ W.cell? ⟨w.heap.size + 2, 1, none⟩ = some (.slice none 0 0) ∧ W.cell? ⟨w.heap.size + 2, 2, none⟩ = some (.slice none 0 0)) ∧ (W.frozen? ⟨w.heap.size + 2, 0, none⟩ = false ∧ W.frozen? ⟨w.heap.size + 2, 1, none⟩ = false ∧ W.frozen? ⟨w.heap.size + 2, 2, none⟩ = false) ∧ W.heap[w.heap.size + 2]? = some (.cells #[.bool false, .slice none 0 0, .slice none 0 0] 31 (0, 0)) := fun W hW => by
    have e := (hW.block (w.heap.size + 2) (by omega)).trans hz3
    exact ⟨⟨(row_cells e).1 0, (row_cells e).1 1, (row_cells e).1 2⟩, ⟨(row_cells e).2 0, (row_cells e).2 1, (row_cells e).2 2⟩, e⟩
  have hCA : ∀ W, Below w3.heap.size w3 W → CsN W Any (.slice Ac a.cells.length ac) a.cells := fun W hW => hac.grow (hbw.trans (Joins.below_le hW hbw.size))
  have hCB : ∀ W, Below w3.heap.size w3 W → CsN W Any (.slice Bc b.cells.length bc) b.cells := fun W hW => hbc.grow (hbw.trans (Joins.below_le hW hbw.size))
  have hKA : ∀ W, Below w3.heap.size w3 W → KsN W Any (.slice Ak a.kids.length ak) a.kids := fun W hW => hak.grow (hbw.trans (Joins.below_le hW hbw.size))
  have hKB : ∀ W, Below w3.heap.size w3 W → KsN W Any (.slice Bk b.kids.length bk) b.kids := fun W hW => hbk.grow (hbw.trans (Joins.below_le hW hbw.size))
  have x0 : w3.cell? ⟨w.heap.size, 0, none⟩ = some (.bool a.leaf) := (row_cells hx3).1 0
  have HFIN : Hid (∀ W (J : PN) (A1 : Option Addr) (c1 : Nat) (A2 : Option Addr) (c2 : Nat) (B1 B2 : Nat), Below w3.heap.size w3 W → w3.heap.size ≤ B1 → w3.heap.size ≤ B2 → W.ownsRow B1 59 4 (.slice A1 J.cells.length c1) J.cells.length (CsV J.cells) → W.ownsRow B2 3 1 (.slice A2 J.kids.length c2) J.kids.length (KsV J.kids) →
      (((W.setCell ⟨w.heap.size + 2, 0, none⟩ (.bool J.leaf)).setCell ⟨w.heap.size + 2, 1, none⟩ (.slice A1 J.cells.length c1)).setCell ⟨w.heap.size + 2, 2, none⟩ (.slice A2 J.kids.length c2)).heap[w.heap.size + 2]? = some (.cells #[.bool J.leaf, .slice A1 J.cells.length c1, .slice A2 J.kids.length c2] 31 (0, 0)) ∧
      OwnN (((W.setCell ⟨w.heap.size + 2, 0, none⟩ (.bool J.leaf)).setCell ⟨w.heap.size + 2, 1, none⟩ (.slice A1 J.cells.length c1)).setCell ⟨w.heap.size + 2, 2, none⟩ (.slice A2 J.kids.length c2)) w.heap.size (.agg #[.bool J.leaf, .slice A1 J.cells.length c1, .slice A2 J.kids.length c2]) J ∧
      Below w.heap.size w (((W.setCell ⟨w.heap.size + 2, 0, none⟩ (.bool J.leaf)).setCell ⟨w.heap.size + 2, 1, none⟩ (.slice A1 J.cells.length c1)).setCell ⟨w.heap.size + 2, 2, none⟩ (.slice A2 J.kids.length c2)) ∧
      (((W.setCell ⟨w.heap.size + 2, 0, none⟩ (.bool J.leaf)).setCell ⟨w.heap.size + 2, 1, none⟩ (.slice A1 J.cells.length c1)).setCell ⟨w.heap.size + 2, 2, none⟩ (.slice A2 J.kids.length c2)).cell? ⟨w.heap.size, 1, none⟩ = some (.slice Ac a.cells.length ac) ∧
      (((W.setCell ⟨w.heap.size + 2, 0, none⟩ (.bool J.leaf)).setCell ⟨w.heap.size + 2, 1, none⟩ (.slice A1 J.cells.length c1)).setCell ⟨w.heap.size + 2, 2, none⟩ (.slice A2 J.kids.length c2)).cell? ⟨w.heap.size + 1, 1, none⟩ = some (.slice Bc b.cells.length bc) ∧
      (((W.setCell ⟨w.heap.size + 2, 0, none⟩ (.bool J.leaf)).setCell ⟨w.heap.size + 2, 1, none⟩ (.slice A1 J.cells.length c1)).setCell ⟨w.heap.size + 2, 2, none⟩ (.slice A2 J.kids.length c2)).cell? ⟨w.heap.size, 2, none⟩ = some (.slice Ak a.kids.length ak) ∧
      (((W.setCell ⟨w.heap.size + 2, 0, none⟩ (.bool J.leaf)).setCell ⟨w.heap.size + 2, 1, none⟩ (.slice A1 J.cells.length c1)).setCell ⟨w.heap.size + 2, 2, none⟩ (.slice A2 J.kids.length c2)).cell? ⟨w.heap.size + 1, 2, none⟩ = some (.slice Bk b.kids.length bk)) := by
    refine Lib.hid fun W J A1 c1 A2 c2 B1 B2 hW hB1 hB2 ho1 ho2 => ?_
    have hr := (hR W hW).2.2
    have e1 : (((W.setCell ⟨w.heap.size + 2, 0, none⟩ (.bool J.leaf)).setCell ⟨w.heap.size + 2, 1, none⟩ (.slice A1 J.cells.length c1)).setCell ⟨w.heap.size + 2, 2, none⟩ (.slice A2 J.kids.length c2)).heap[w.heap.size]? = _ := (set3_far (by omega)).trans ((hW.block w.heap.size (by omega)).trans hx3)
    have e2 : (((W.setCell ⟨w.heap.size + 2, 0, none⟩ (.bool J.leaf)).setCell ⟨w.heap.size + 2, 1, none⟩ (.slice A1 J.cells.length c1)).setCell ⟨w.heap.size + 2, 2, none⟩ (.slice A2 J.kids.length c2)).heap[w.heap.size + 1]? = _ := (set3_far (by omega)).trans ((hW.block (w.heap.size + 1) (by omega)).trans hy3)
    have hbW := hbw.trans (Joins.below_le hW hbw.size)
    exact ⟨set3_at hr, ⟨A1, c1, A2, c2, rfl, own_base (row_same ho1 fun p hp => set3_far (by have := (ho1.lt p hp).1; omega)) (by omega), own_base (row_same ho2 fun p hp => set3_far (by have := (ho2.lt p hp).1; omega)) (by omega)⟩,
      ((hbW.setCell (p := ⟨w.heap.size + 2, 0, none⟩) (show w.heap.size ≤ w.heap.size + 2 by omega) _).setCell (p := ⟨w.heap.size + 2, 1, none⟩) (show w.heap.size ≤ w.heap.size + 2 by omega) _).setCell (p := ⟨w.heap.size + 2, 2, none⟩) (show w.heap.size ≤ w.heap.size + 2 by omega) _, (row_cells e1).1 1, (row_cells e2).1 1, (row_cells e1).1 2, (row_cells e2).1 2⟩
  have HS := Lib.hid hS
  have HR := Lib.hid hR
  have HW1 := Lib.hid hw1
  have HW2 := Lib.hid hw2
  have HW3 := Lib.hid hw3
  cases hlf : a.leaf with
  | true =>
    have hj : PN.join a s b = ⟨true, a.cells ++ b.cells, []⟩ := by unfold PN.join; rw [if_pos hlf]
    rw [hj]
    obtain ⟨J, hJ⟩ : ∃ J : PN, J = ⟨true, a.cells ++ b.cells, []⟩ := ⟨_, rfl⟩
    have hjc : J.cells = a.cells ++ b.cells := by rw [hJ]
    have hjl : J.leaf = true := by rw [hJ]
    have hjk : J.kids = [] := by rw [hJ]
    rw [← hJ]
    obtain ⟨w4, hw4⟩ : ∃ w4, w4 = w3.alloc (.cells #[.slice Ac a.cells.length ac, .slice Bc b.cells.length bc] 29) := ⟨_, rfl⟩
    have hb4 : Below w3.heap.size w3 w4 := by rw [hw4]; exact (Below.refl _ _).alloc (Nat.le_refl _) _
    have cC := catC (W := w4) (g := w3.heap.size) [(.slice Ac a.cells.length ac, a.cells), (.slice Bc b.cells.length bc, b.cells)] J.cells (by rw [hjc]; simp [flatL]) (by rw [hw4]; exact heap_alloc_new w3 _) (all2 (hCA _ hb4) (hCB _ hb4)) (by rw [hjc, List.length_append]; omega) (by simp)
    dsimp only [List.length] at cC
    obtain ⟨y0, y1, y2, y3⟩ := hS _ (Below.refl _ _)
    have HB4 := Lib.hid hb4
    have HW4 := Lib.hid hw4
    have HJL := Lib.hid hjl
    have HJK := Lib.hid hjk
    rw [hlf] at x0 HW1
    clear hac hak hbc hbk hw1 hb1 hs1 hx1 hw2 hb2 hs2 hy2 hw3 hb3 hs3 hz3 hx3 hy3 hbw hS hR hCA hCB hKA hKB hj hjc hjl hjk hJ hw4 hb4 hlf
    go_enter Try.func26, Try.ntmps26
    go_upto_region 1 with fail
    rw [← HW1.out, ← HW2.out, ← HW3.out]
    go_upto_region 2 with fail
    rw [HW4.out] at cC
    go_wp2_with fail
    refine cC.mono ?_
    rintro e w5 ⟨A1, c1, rfl, ho1, hb5⟩
    rw [← HW4.out] at ho1 hb5
    have hb35 := HB4.out.trans (Joins.below_le hb5 HB4.out.size)
    obtain ⟨⟨f0, f1, f2⟩, ⟨f3, f4, f5⟩, -⟩ := HR.out _ hb35
    have ho2 : w5.ownsRow w3.heap.size 3 1 (.slice none J.kids.length 0) J.kids.length (KsV J.kids) := by rw [HJK.out]; exact ⟨rfl, .inl ⟨rfl, rfl⟩⟩
    obtain ⟨e1, e2, e3, -⟩ := HFIN.out w5 J A1 c1 none 0 w4.heap.size w3.heap.size hb35 HB4.out.size (Nat.le_refl _) ho1 ho2
    rw [HJK.out, HJL.out] at e1 e2 e3
    dsimp only [List.length_nil] at e1 e2 e3
    obtain ⟨wf, hwf⟩ : ∃ wf, wf = ((w5.setCell ⟨w.heap.size + 2, 0, none⟩ (.bool true)).setCell ⟨w.heap.size + 2, 1, none⟩ (.slice A1 J.cells.length c1)).setCell ⟨w.heap.size + 2, 2, none⟩ (.slice none 0 0) := ⟨_, rfl⟩
    rw [← hwf] at e1 e2 e3
    have r0 : wf.cell? ⟨w.heap.size + 2, 0, none⟩ = some (.bool true) := (row_cells e1).1 0
    have r1 : wf.cell? ⟨w.heap.size + 2, 1, none⟩ = some (.slice A1 J.cells.length c1) := (row_cells e1).1 1
    have r2 : wf.cell? ⟨w.heap.size + 2, 2, none⟩ = some (.slice none 0 0) := (row_cells e1).1 2
    have HE2 := Lib.hid e2
    have HE3 := Lib.hid e3
    have HWF := Lib.hid hwf
    clear e1 e2 e3 hwf cC ho1 ho2 hb5 hb35 HFIN
    go_wp2_with fail
    rw [← HWF.out]
    refine bodyPost_ret (v := .agg #[.bool true, .slice A1 J.cells.length c1, .slice none 0 0]) (by rw [results_c rfl]; go_simp; try rfl) rfl ?_
    exact ⟨_, rfl, HE2.out, HE3.out⟩
  | false =>
    have hj : PN.join a s b = ⟨false, a.cells ++ ⟨s, ⟨#[]⟩, 0, 0⟩ :: b.cells, a.kids ++ b.kids⟩ := by unfold PN.join; rw [if_neg (by rw [hlf]; decide)]
    rw [hj]
    obtain ⟨J, hJ⟩ : ∃ J : PN, J = ⟨false, a.cells ++ ⟨s, ⟨#[]⟩, 0, 0⟩ :: b.cells, a.kids ++ b.kids⟩ := ⟨_, rfl⟩
    have hjc : J.cells = a.cells ++ ⟨s, ⟨#[]⟩, 0, 0⟩ :: b.cells := by rw [hJ]
    have hjl : J.leaf = false := by rw [hJ]
    have hjk : J.kids = a.kids ++ b.kids := by rw [hJ]
    rw [← hJ]
    have k0 := hS (w3.drew) ((Below.refl _ _).drew)
    have k1 := hS ((w3.alloc (.cells #[.string s, .string ⟨#[]⟩, .int .i64 0, .int .i64 0] 59)).drew) (((Below.refl _ _).alloc (Nat.le_refl _) _).drew)
    have k2 := hS ((w3.alloc (.cells #[.slice Ak a.kids.length ak, .slice Bk b.kids.length bk] 23)).drew) (((Below.refl _ _).alloc (Nat.le_refl _) _).drew)
    have k3 := hS (((w3.alloc (.cells #[.string s, .string ⟨#[]⟩, .int .i64 0, .int .i64 0] 59)).alloc (.cells #[.slice Ak a.kids.length ak, .slice Bk b.kids.length bk] 23)).drew) ((((Below.refl _ _).alloc (Nat.le_refl _) _).alloc (by simp) _).drew)
    have k4 := hS (((w3.alloc (.cells #[.slice Ak a.kids.length ak, .slice Bk b.kids.length bk] 23)).alloc (.cells #[.string s, .string ⟨#[]⟩, .int .i64 0, .int .i64 0] 59)).drew) ((((Below.refl _ _).alloc (Nat.le_refl _) _).alloc (by simp) _).drew)
    obtain ⟨W1, hW1⟩ : ∃ W, W = ((w3.alloc (.cells #[.string s, .string ⟨#[]⟩, .int .i64 0, .int .i64 0] 59)).alloc (.cells #[.slice Ac a.cells.length ac, .slice (some ⟨w3.heap.size, 0, none⟩) 1 1, .slice Bc b.cells.length bc] 29)).drew := ⟨_, rfl⟩
    have bW1 : Below w3.heap.size w3 W1 := by rw [hW1]; exact (((Below.refl _ _).alloc (Nat.le_refl _) _).alloc (by simp) _).drew
    have tW1 : W1.heap[w3.heap.size + 1]? = some (.cells #[.slice Ac a.cells.length ac, .slice (some ⟨w3.heap.size, 0, none⟩) 1 1, .slice Bc b.cells.length bc] 29 (0, 0)) := by rw [hW1]; exact at_push1 w3 _ _
    have pW1 : W1.heap[w3.heap.size]? = some (.cells #[.string s, .string ⟨#[]⟩, .int .i64 0, .int .i64 0] 59 (0, 0)) := by rw [hW1]; exact at_push0 w3 _ _
    have qW1 := catC (W := W1) (g := w3.heap.size + 1) [(.slice Ac a.cells.length ac, a.cells), (.slice (some ⟨w3.heap.size, 0, none⟩) 1 1, [⟨s, ⟨#[]⟩, 0, 0⟩]), (.slice Bc b.cells.length bc, b.cells)] J.cells (by rw [hjc]; simp [flatL]) tW1 (all3 (hCA _ bW1) (one_cell pW1) (hCB _ bW1)) (by rw [hjc, List.length_append, List.length_cons]; omega) (by simp)
    dsimp only [List.length] at qW1
    have sW1 := hS _ bW1
    have iW1 : ∀ wy, Below W1.heap.size W1 wy → Calls Try.prog 60 #[.slice (some ⟨wy.heap.size, 0, none⟩) 2 2] (wy.alloc (.cells #[.slice Ak a.kids.length ak, .slice Bk b.kids.length bk] 23)) fun e w' => ∃ A c, e = .returned (.slice A J.kids.length c) ∧ w'.ownsRow wy.heap.size 3 1 (.slice A J.kids.length c) J.kids.length (KsV J.kids) ∧ Below wy.heap.size wy w' := fun wy hy => by
      have h3y := bW1.trans (Joins.below_le hy bW1.size)
      have hya : Below wy.heap.size wy (wy.alloc (.cells #[.slice Ak a.kids.length ak, .slice Bk b.kids.length bk] 23)) := (Below.refl _ _).alloc (Nat.le_refl _) _
      have h3a := h3y.trans (Joins.below_le hya h3y.size)
      refine (catI (W := wy.alloc (.cells #[.slice Ak a.kids.length ak, .slice Bk b.kids.length bk] 23)) (g := wy.heap.size) [(.slice Ak a.kids.length ak, a.kids), (.slice Bk b.kids.length bk, b.kids)] J.kids (by rw [hjk]; simp [flatL]) (heap_alloc_new wy _) (all2 (hKA _ h3a) (hKB _ h3a)) (by rw [hjk, List.length_append]; omega) (by simp)).mono ?_
      rintro e w' ⟨A, c, rfl, ho, hbb⟩
      exact ⟨A, c, rfl, own_base ho hya.size, hya.trans (Joins.below_le hbb hya.size)⟩
    obtain ⟨W2, hW2⟩ : ∃ W, W = (((w3.alloc (.cells #[.string s, .string ⟨#[]⟩, .int .i64 0, .int .i64 0] 59)).alloc (.cells #[.slice Ac a.cells.length ac, .slice (some ⟨w3.heap.size, 0, none⟩) 1 1, .slice Bc b.cells.length bc] 29)).alloc (.cells #[.slice Ak a.kids.length ak, .slice Bk b.kids.length bk] 23)).drew := ⟨_, rfl⟩
    have bW2 : Below w3.heap.size w3 W2 := by rw [hW2]; exact ((((Below.refl _ _).alloc (Nat.le_refl _) _).alloc (by simp) _).alloc (by simp; omega) _).drew
    have tW2 : W2.heap[w3.heap.size + 1]? = some (.cells #[.slice Ac a.cells.length ac, .slice (some ⟨w3.heap.size, 0, none⟩) 1 1, .slice Bc b.cells.length bc] 29 (0, 0)) := by rw [hW2]; exact at_push11 w3 _ _ _
    have pW2 : W2.heap[w3.heap.size]? = some (.cells #[.string s, .string ⟨#[]⟩, .int .i64 0, .int .i64 0] 59 (0, 0)) := by rw [hW2]; exact at_push10 w3 _ _ _
    have qW2 := catC (W := W2) (g := w3.heap.size + 1) [(.slice Ac a.cells.length ac, a.cells), (.slice (some ⟨w3.heap.size, 0, none⟩) 1 1, [⟨s, ⟨#[]⟩, 0, 0⟩]), (.slice Bc b.cells.length bc, b.cells)] J.cells (by rw [hjc]; simp [flatL]) tW2 (all3 (hCA _ bW2) (one_cell pW2) (hCB _ bW2)) (by rw [hjc, List.length_append, List.length_cons]; omega) (by simp)
    dsimp only [List.length] at qW2
    have sW2 := hS _ bW2
    have dW2 : W2.heap[w3.heap.size + 2]? = some (.cells #[.slice Ak a.kids.length ak, .slice Bk b.kids.length bk] 23 (0, 0)) := by rw [hW2]; exact at_push22 w3 _ _ _
    have hlW2 : w3.heap.size + 2 < W2.heap.size := (Array.getElem?_eq_some_iff.1 dW2).1
    have iW2 : ∀ wy, Below W2.heap.size W2 wy → Calls Try.prog 60 #[.slice (some ⟨w3.heap.size + 2, 0, none⟩) 2 2] wy fun e w' => ∃ A c, e = .returned (.slice A J.kids.length c) ∧ w'.ownsRow wy.heap.size 3 1 (.slice A J.kids.length c) J.kids.length (KsV J.kids) ∧ Below wy.heap.size wy w' := fun wy hy => by
      have h3y := bW2.trans (Joins.below_le hy bW2.size)
      exact catI (W := wy) (g := w3.heap.size + 2) [(.slice Ak a.kids.length ak, a.kids), (.slice Bk b.kids.length bk, b.kids)] J.kids (by rw [hjk]; simp [flatL]) ((hy.block _ hlW2).trans dW2) (all2 (hKA _ h3y) (hKB _ h3y)) (by rw [hjk, List.length_append]; omega) (by simp)
    obtain ⟨W3, hW3⟩ : ∃ W, W = (((w3.alloc (.cells #[.string s, .string ⟨#[]⟩, .int .i64 0, .int .i64 0] 59)).alloc (.cells #[.slice Ak a.kids.length ak, .slice Bk b.kids.length bk] 23)).alloc (.cells #[.slice Ac a.cells.length ac, .slice (some ⟨w3.heap.size, 0, none⟩) 1 1, .slice Bc b.cells.length bc] 29)).drew := ⟨_, rfl⟩
    have bW3 : Below w3.heap.size w3 W3 := by rw [hW3]; exact ((((Below.refl _ _).alloc (Nat.le_refl _) _).alloc (by simp) _).alloc (by simp; omega) _).drew
    have tW3 : W3.heap[w3.heap.size + 2]? = some (.cells #[.slice Ac a.cells.length ac, .slice (some ⟨w3.heap.size, 0, none⟩) 1 1, .slice Bc b.cells.length bc] 29 (0, 0)) := by rw [hW3]; exact at_push22 w3 _ _ _
    have pW3 : W3.heap[w3.heap.size]? = some (.cells #[.string s, .string ⟨#[]⟩, .int .i64 0, .int .i64 0] 59 (0, 0)) := by rw [hW3]; exact at_push10 w3 _ _ _
    have qW3 := catC (W := W3) (g := w3.heap.size + 2) [(.slice Ac a.cells.length ac, a.cells), (.slice (some ⟨w3.heap.size, 0, none⟩) 1 1, [⟨s, ⟨#[]⟩, 0, 0⟩]), (.slice Bc b.cells.length bc, b.cells)] J.cells (by rw [hjc]; simp [flatL]) tW3 (all3 (hCA _ bW3) (one_cell pW3) (hCB _ bW3)) (by rw [hjc, List.length_append, List.length_cons]; omega) (by simp)
    dsimp only [List.length] at qW3
    have sW3 := hS _ bW3
    have dW3 : W3.heap[w3.heap.size + 1]? = some (.cells #[.slice Ak a.kids.length ak, .slice Bk b.kids.length bk] 23 (0, 0)) := by rw [hW3]; exact at_push11 w3 _ _ _
    have hlW3 : w3.heap.size + 1 < W3.heap.size := (Array.getElem?_eq_some_iff.1 dW3).1
    have iW3 : ∀ wy, Below W3.heap.size W3 wy → Calls Try.prog 60 #[.slice (some ⟨w3.heap.size + 1, 0, none⟩) 2 2] wy fun e w' => ∃ A c, e = .returned (.slice A J.kids.length c) ∧ w'.ownsRow wy.heap.size 3 1 (.slice A J.kids.length c) J.kids.length (KsV J.kids) ∧ Below wy.heap.size wy w' := fun wy hy => by
      have h3y := bW3.trans (Joins.below_le hy bW3.size)
      exact catI (W := wy) (g := w3.heap.size + 1) [(.slice Ak a.kids.length ak, a.kids), (.slice Bk b.kids.length bk, b.kids)] J.kids (by rw [hjk]; simp [flatL]) ((hy.block _ hlW3).trans dW3) (all2 (hKA _ h3y) (hKB _ h3y)) (by rw [hjk, List.length_append]; omega) (by simp)
    obtain ⟨W4, hW4⟩ : ∃ W, W = (((w3.alloc (.cells #[.slice Ak a.kids.length ak, .slice Bk b.kids.length bk] 23)).alloc (.cells #[.string s, .string ⟨#[]⟩, .int .i64 0, .int .i64 0] 59)).alloc (.cells #[.slice Ac a.cells.length ac, .slice (some ⟨w3.heap.size + 1, 0, none⟩) 1 1, .slice Bc b.cells.length bc] 29)).drew := ⟨_, rfl⟩
    have bW4 : Below w3.heap.size w3 W4 := by rw [hW4]; exact ((((Below.refl _ _).alloc (Nat.le_refl _) _).alloc (by simp) _).alloc (by simp; omega) _).drew
    have tW4 : W4.heap[w3.heap.size + 2]? = some (.cells #[.slice Ac a.cells.length ac, .slice (some ⟨w3.heap.size + 1, 0, none⟩) 1 1, .slice Bc b.cells.length bc] 29 (0, 0)) := by rw [hW4]; exact at_push22 w3 _ _ _
    have pW4 : W4.heap[w3.heap.size + 1]? = some (.cells #[.string s, .string ⟨#[]⟩, .int .i64 0, .int .i64 0] 59 (0, 0)) := by rw [hW4]; exact at_push11 w3 _ _ _
    have qW4 := catC (W := W4) (g := w3.heap.size + 2) [(.slice Ac a.cells.length ac, a.cells), (.slice (some ⟨w3.heap.size + 1, 0, none⟩) 1 1, [⟨s, ⟨#[]⟩, 0, 0⟩]), (.slice Bc b.cells.length bc, b.cells)] J.cells (by rw [hjc]; simp [flatL]) tW4 (all3 (hCA _ bW4) (one_cell pW4) (hCB _ bW4)) (by rw [hjc, List.length_append, List.length_cons]; omega) (by simp)
    dsimp only [List.length] at qW4
    have sW4 := hS _ bW4
    have dW4 : W4.heap[w3.heap.size]? = some (.cells #[.slice Ak a.kids.length ak, .slice Bk b.kids.length bk] 23 (0, 0)) := by rw [hW4]; exact at_push10 w3 _ _ _
    have hlW4 : w3.heap.size < W4.heap.size := (Array.getElem?_eq_some_iff.1 dW4).1
    have iW4 : ∀ wy, Below W4.heap.size W4 wy → Calls Try.prog 60 #[.slice (some ⟨w3.heap.size, 0, none⟩) 2 2] wy fun e w' => ∃ A c, e = .returned (.slice A J.kids.length c) ∧ w'.ownsRow wy.heap.size 3 1 (.slice A J.kids.length c) J.kids.length (KsV J.kids) ∧ Below wy.heap.size wy w' := fun wy hy => by
      have h3y := bW4.trans (Joins.below_le hy bW4.size)
      exact catI (W := wy) (g := w3.heap.size) [(.slice Ak a.kids.length ak, a.kids), (.slice Bk b.kids.length bk, b.kids)] J.kids (by rw [hjk]; simp [flatL]) ((hy.block _ hlW4).trans dW4) (all2 (hKA _ h3y) (hKB _ h3y)) (by rw [hjk, List.length_append]; omega) (by simp)
    rw [hW1] at qW1 sW1
    rw [hW2] at qW2 sW2
    rw [hW3] at qW3 sW3
    rw [hW4] at qW4 sW4
    have BW1 : Hid (Below w3.heap.size w3 W1) := Lib.hid bW1
    have IW1 := Lib.hid iW1
    have EW1 := Lib.hid hW1
    have BW2 : Hid (Below w3.heap.size w3 W2) := Lib.hid bW2
    have IW2 := Lib.hid iW2
    have EW2 := Lib.hid hW2
    have BW3 : Hid (Below w3.heap.size w3 W3) := Lib.hid bW3
    have IW3 := Lib.hid iW3
    have EW3 := Lib.hid hW3
    have BW4 : Hid (Below w3.heap.size w3 W4) := Lib.hid bW4
    have IW4 := Lib.hid iW4
    have EW4 := Lib.hid hW4
    have HJL := Lib.hid hjl
    rw [hlf] at x0 HW1
    clear hac hak hbc hbk hw1 hb1 hs1 hx1 hw2 hb2 hs2 hy2 hw3 hb3 hs3 hz3 hx3 hy3 hbw hS hR hCA hCB hKA hKB hj hjc hjl hjk hJ hlf hW1 bW1 tW1 pW1 iW1 hW2 bW2 tW2 pW2 iW2 hW3 bW3 tW3 pW3 iW3 hW4 bW4 tW4 pW4 iW4 dW2 hlW2 dW3 hlW3 dW4 hlW4
    go_enter Try.func26, Try.ntmps26
    go_upto_region 1 with fail
    rw [← HW1.out, ← HW2.out, ← HW3.out]
    go_upto_region 3 with fail
    go_region_held3 (fun w' => w'.cell? ⟨w.heap.size, 1, none⟩ = some (.slice Ac a.cells.length ac) ∧ w'.cell? ⟨w.heap.size + 1, 1, none⟩ = some (.slice Bc b.cells.length bc) ∧ w'.cell? ⟨w.heap.size, 2, none⟩ = some (.slice Ak a.kids.length ak) ∧ w'.cell? ⟨w.heap.size + 1, 2, none⟩ = some (.slice Bk b.kids.length bk)) (first | with_reducible exact k0 | with_reducible exact k1 | with_reducible exact k2 | with_reducible exact k3 | with_reducible exact k4 | with_reducible exact sW1 | with_reducible exact sW2 | with_reducible exact sW3 | with_reducible exact sW4 | exact HS.out _ hb3z | exact HS.out _ (hb3y.alloc hb3y.size _) | exact HS.out _ hb3y | exact ⟨e4, e5, e6, e7⟩)
      (first
        | (go_at_call 59; with_reducible refine Calls.mono qW1 ?_; rintro e wy ⟨A1, c1, rfl, ho1, hby⟩; rw [← EW1.out] at ho1 hby; have HON := Lib.hid (own_base ho1 BW1.out.size); have HIK := Lib.hid (IW1.out _ hby); have hb3y := BW1.out.trans (Joins.below_le hby BW1.out.size); clear ho1 hby)
        | (go_at_call 59; with_reducible refine Calls.mono qW2 ?_; rintro e wy ⟨A1, c1, rfl, ho1, hby⟩; rw [← EW2.out] at ho1 hby; have HON := Lib.hid (own_base ho1 BW2.out.size); have HIK := Lib.hid (IW2.out _ hby); have hb3y := BW2.out.trans (Joins.below_le hby BW2.out.size); clear ho1 hby)
        | (go_at_call 59; with_reducible refine Calls.mono qW3 ?_; rintro e wy ⟨A1, c1, rfl, ho1, hby⟩; rw [← EW3.out] at ho1 hby; have HON := Lib.hid (own_base ho1 BW3.out.size); have HIK := Lib.hid (IW3.out _ hby); have hb3y := BW3.out.trans (Joins.below_le hby BW3.out.size); clear ho1 hby)
        | (go_at_call 59; with_reducible refine Calls.mono qW4 ?_; rintro e wy ⟨A1, c1, rfl, ho1, hby⟩; rw [← EW4.out] at ho1 hby; have HON := Lib.hid (own_base ho1 BW4.out.size); have HIK := Lib.hid (IW4.out _ hby); have hb3y := BW4.out.trans (Joins.below_le hby BW4.out.size); clear ho1 hby)
        | (go_at_call 60; refine HIK.out.mono ?_; rintro e wz ⟨A2, c2, rfl, ho2, hbz⟩; have hb3z := hb3y.trans (Joins.below_le hbz hb3y.size); have ho1z := row_same HON.out (w' := wz) (fun p hp => hbz.block p (HON.out.lt p hp).2); obtain ⟨⟨f0, f1, f2⟩, ⟨f3, f4, f5⟩, -⟩ := HR.out _ hb3z; obtain ⟨e1, e2, e3, e4, e5, e6, e7⟩ := HFIN.out wz J A1 c1 A2 c2 _ _ hb3z (Nat.le_refl _) hb3y.size ho1z ho2; rw [HJL.out] at e1 e2 e3 e4 e5 e6 e7; have HE1 := Lib.hid e1; have HE2 := Lib.hid e2; have HE3 := Lib.hid e3; clear ho2 hbz ho1z e1 e2 e3))
    all_goals
      obtain ⟨wf, hwf⟩ : ∃ wf, wf = ((wz.setCell ⟨w.heap.size + 2, 0, none⟩ (.bool false)).setCell ⟨w.heap.size + 2, 1, none⟩ (.slice A1 J.cells.length c1)).setCell ⟨w.heap.size + 2, 2, none⟩ (.slice A2 J.kids.length c2) := ⟨_, rfl⟩
      have e1 := HE1.out
      rw [← hwf] at e1 HE2 HE3
      have r0 : wf.cell? ⟨w.heap.size + 2, 0, none⟩ = some (.bool false) := (row_cells e1).1 0
      have r1 : wf.cell? ⟨w.heap.size + 2, 1, none⟩ = some (.slice A1 J.cells.length c1) := (row_cells e1).1 1
      have r2 : wf.cell? ⟨w.heap.size + 2, 2, none⟩ = some (.slice A2 J.kids.length c2) := (row_cells e1).1 2
      rw [← hwf]
      clear e1 e4 e5 e6 e7 HE1 hwf
      go_wp2_with fail
      refine bodyPost_ret (v := .agg #[.bool false, .slice A1 J.cells.length c1, .slice A2 J.kids.length c2]) (by rw [results_c rfl]; go_simp; try rfl) rfl ?_
      exact ⟨_, rfl, HE2.out, HE3.out⟩
end Go.Proofs.Ytedcknlafkokkaa
