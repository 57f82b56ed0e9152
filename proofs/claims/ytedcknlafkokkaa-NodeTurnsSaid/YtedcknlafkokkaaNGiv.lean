/-
  A node laid anew, cell by cell: the law's given and back. No statement is proved here. No condition.
-/
import Derived.Test.YtedcknlafkokkaaNGivN
import Derived.Lib.AppendZeros
namespace Go.Proofs.Ytedcknlafkokkaa
open Go.RowKit

theorem zero_nodeR (W : World) : (zeroValue 25).run Try.prog W = .ok (.agg #[.bool false, .slice none 0 0, .slice none 0 0]) W := by kernel_rfl
set_option maxHeartbeats 4000000 in
set_option maxRecDepth 100000 in
theorem given_any (n : PN) (v : Value) (w : World) (h : NodeN w Any v n) (hl : n.cells.length ≤ 1000) (hk : n.kids.length ≤ 1000) :
    Calls Try.prog 10 #[v] w fun e w' => ∃ v', e = .returned v' ∧ OwnT 59 w' w.heap.size v' n ∧ Below w.heap.size w w' := by
  obtain ⟨vc, vk, rfl, hc, hk'⟩ := h
  obtain ⟨Ac, cc, rfl, -, -⟩ := hc.slice
  obtain ⟨Ak, ck, rfl, -, -⟩ := hk'.slice
  obtain ⟨w1, hw1⟩ : ∃ w1, w1 = w.alloc (.cells #[.bool n.leaf, .slice Ac n.cells.length cc, .slice Ak n.kids.length ck] 25) := ⟨_, rfl⟩
  have hb1 : Below w.heap.size w w1 := by rw [hw1]; exact (Below.refl _ _).alloc (Nat.le_refl _) _
  have hs1 : w1.heap.size = w.heap.size + 1 := by rw [hw1]; simp
  have hx1 : w1.heap[w.heap.size]? = some (.cells #[.bool n.leaf, .slice Ac n.cells.length cc, .slice Ak n.kids.length ck] 25 (0, 0)) := by rw [hw1]; exact heap_alloc_new w _
  obtain ⟨w2, hw2⟩ : ∃ w2, w2 = w1.alloc (.cells #[.bool false, .slice none 0 0, .slice none 0 0] 31) := ⟨_, rfl⟩
  have hb2 : Below w1.heap.size w1 w2 := by rw [hw2]; exact (Below.refl _ _).alloc (Nat.le_refl _) _
  have hs2 : w2.heap.size = w.heap.size + 2 := by rw [hw2]; simp [hs1]
  have hy2 : w2.heap[w.heap.size + 1]? = some (.cells #[.bool false, .slice none 0 0, .slice none 0 0] 31 (0, 0)) := by rw [hw2, ← hs1]; exact heap_alloc_new w1 _
  have hx2 := (hb2.block w.heap.size (by omega)).trans hx1
  have hbw : Below w.heap.size w w2 := hb1.trans (Joins.below_le hb2 hb1.size)
  have hzn := zero_node
  -- append of the kids to an empty row: three orders
  have hwd : Below w2.heap.size w2 w2.drew := (Below.refl _ _).drew
  have hsd : w2.drew.heap.size = w2.heap.size := rfl
  have hzb : ∀ W : World, w2.heap.size ≤ W.heap.size → Below w2.heap.size w2 W → ∀ (b : Nat) (C : Array Value) (T : TypeId), b < w2.heap.size → w2.heap[b]? = some (.cells C T (0, 0)) → W.heap[b]? = some (.cells C T (0, 0)) := fun W _ hb b C T hl h => (hb.block b hl).trans h
  -- a
  obtain ⟨wa, hwa⟩ : ∃ wa, wa = (w2.alloc (.cells #[] 3)).drew := ⟨_, rfl⟩
  have hba : Below w2.heap.size w2 wa := by rw [hwa]; exact ((Below.refl _ _).alloc (Nat.le_refl _) _).drew
  have hoa : wa.ownsRow w.heap.size 3 1 (.slice (some ⟨w2.heap.size, 0, none⟩) 0 0) 0 [] := by
    rw [hwa]
    exact World.ownsRow_lit (base := w.heap.size) w2 #[] 0 (by omega) (by unfold maxLen; omega) rfl
  obtain ⟨A4, c4, w4, hr4, ho4, hg4⟩ := app_kids wa w.heap.size w2.heap.size hoa ((hk'.grow (hbw.trans (Joins.below_le hba hbw.size)))) (by omega) (by have := hba.size; omega)
  have hb4 : Below w2.heap.size w2 w4 := hba.grown hg4 hba.size (fun p hp => by have h1 : w2.heap.size = p := Option.some.inj hp; omega)
  have hbw4 : Below w.heap.size w w4 := hbw.trans (Joins.below_le hb4 hbw.size)
  have hj4 : GvJ 31 59 25 w (w4.alloc (.cells #[.bool n.leaf, .slice none 0 0, .slice A4 n.kids.length c4] 31)) #[.bool n.leaf, .slice Ac n.cells.length cc, .slice Ak n.kids.length ck] w4.heap.size ⟨n.leaf, [], n.kids⟩ none 0 A4 c4 := by
    have hq := hb4.size
    have hb5 : Below w4.heap.size w4 (w4.alloc (.cells #[.bool n.leaf, .slice none 0 0, .slice A4 n.kids.length c4] 31)) := (Below.refl _ _).alloc (Nat.le_refl _) _
    exact ⟨heap_alloc_new w4 _, (hb5.block _ (by omega)).trans ((hb4.block _ (by omega)).trans hx2), (hb5.block _ (by omega)).trans ((hb4.block _ (by omega)).trans hy2), ⟨rfl, .inl ⟨rfl, rfl⟩⟩, row_same ho4 fun p hp => hb5.block p (ho4.lt p hp).2, hbw4.trans (Joins.below_le hb5 hbw4.size), by omega⟩
  -- b
  obtain ⟨wb, hwb⟩ : ∃ wb, wb = ((w2.alloc (.cells #[] 3)).alloc (.cells #[.bool false, .slice none 0 0, .slice none 0 0] 31)).drew := ⟨_, rfl⟩
  have hsa : wa.heap.size = w2.heap.size + 1 := by rw [hwa]; show (w2.heap.push _).size = _; simp
  have hbb' : Below wa.heap.size wa wb := by rw [hwb, hwa]; exact (Below.refl (w2.alloc (.cells #[] 3)).heap.size (w2.alloc (.cells #[] 3)).drew).alloc (Nat.le_refl _) _
  have hbb : Below w2.heap.size w2 wb := hba.trans (Joins.below_le hbb' hba.size)
  have hob : wb.ownsRow w.heap.size 3 1 (.slice (some ⟨w2.heap.size, 0, none⟩) 0 0) 0 [] := row_same hoa fun p hp => hbb'.block p (hoa.lt p hp).2
  have hmb : wb.heap[w2.heap.size + 1]? = some (.cells #[.bool false, .slice none 0 0, .slice none 0 0] 31 (0, 0)) := by rw [hwb, ← hsa, hwa]; exact heap_alloc_new (w2.alloc (.cells #[] 3)) _
  obtain ⟨A5, c5, w5, hr5, ho5, hg5⟩ := app_kids wb w.heap.size w2.heap.size hob ((hk'.grow (hbw.trans (Joins.below_le hbb hbw.size)))) (by omega) (by have := hbb.size; omega)
  have hb5 : Below w2.heap.size w2 w5 := hbb.grown hg5 hbb.size (fun p hp => by have h1 : w2.heap.size = p := Option.some.inj hp; omega)
  have hm5 : w5.heap[w2.heap.size + 1]? = some (.cells #[.bool false, .slice none 0 0, .slice none 0 0] 31 (0, 0)) := (hg5.block _ (Array.getElem?_eq_some_iff.1 hmb).1 (fun e => by injection e with e; omega)).trans hmb
  have hbw5 : Below w.heap.size w w5 := hbw.trans (Joins.below_le hb5 hbw.size)
  have hj5 : GvJ 31 59 25 w (((w5.setCell ⟨w2.heap.size + 1, 0, none⟩ (.bool n.leaf)).setCell ⟨w2.heap.size + 1, 1, none⟩ (.slice none 0 0)).setCell ⟨w2.heap.size + 1, 2, none⟩ (.slice A5 n.kids.length c5)) #[.bool n.leaf, .slice Ac n.cells.length cc, .slice Ak n.kids.length ck] (w2.heap.size + 1) ⟨n.leaf, [], n.kids⟩ none 0 A5 c5 :=
    ⟨set3_at hm5, (set3_far (by omega)).trans ((hb5.block _ (by omega)).trans hx2), (set3_far (by omega)).trans ((hb5.block _ (by omega)).trans hy2), ⟨rfl, .inl ⟨rfl, rfl⟩⟩, row_same ho5 fun p hp => set3_far (not_block ho5 hm5 (by decide) p hp), ((hbw5.setCell (p := ⟨w2.heap.size + 1, 0, none⟩) (show w.heap.size ≤ w2.heap.size + 1 by omega) _).setCell (p := ⟨w2.heap.size + 1, 1, none⟩) (show w.heap.size ≤ w2.heap.size + 1 by omega) _).setCell (p := ⟨w2.heap.size + 1, 2, none⟩) (show w.heap.size ≤ w2.heap.size + 1 by omega) _, by omega⟩
  -- c
  obtain ⟨wm, hwm⟩ : ∃ wm, wm = (w2.alloc (.cells #[.bool false, .slice none 0 0, .slice none 0 0] 31)).drew := ⟨_, rfl⟩
  have hbm : Below w2.heap.size w2 wm := by rw [hwm]; exact ((Below.refl _ _).alloc (Nat.le_refl _) _).drew
  have hsm : wm.heap.size = w2.heap.size + 1 := by rw [hwm]; show (w2.heap.push _).size = _; simp
  have hmm : wm.heap[w2.heap.size]? = some (.cells #[.bool false, .slice none 0 0, .slice none 0 0] 31 (0, 0)) := by rw [hwm]; exact heap_alloc_new w2 _
  obtain ⟨wc, hwc⟩ : ∃ wc, wc = ((w2.alloc (.cells #[.bool false, .slice none 0 0, .slice none 0 0] 31)).alloc (.cells #[] 3)).drew := ⟨_, rfl⟩
  have hbc' : Below wm.heap.size wm wc := by rw [hwc, hwm]; exact (Below.refl (w2.alloc (.cells #[.bool false, .slice none 0 0, .slice none 0 0] 31)).heap.size (w2.alloc (.cells #[.bool false, .slice none 0 0, .slice none 0 0] 31)).drew).alloc (Nat.le_refl _) _
  have hbc : Below w2.heap.size w2 wc := hbm.trans (Joins.below_le hbc' hbm.size)
  have hoc : wc.ownsRow w.heap.size 3 1 (.slice (some ⟨w2.heap.size + 1, 0, none⟩) 0 0) 0 [] := by
    rw [hwc, ← hsm, hwm]
    exact World.ownsRow_lit (base := w.heap.size) (w2.alloc (.cells #[.bool false, .slice none 0 0, .slice none 0 0] 31)) #[] 0 (by have := hbm.size; rw [hwm] at this; show w.heap.size ≤ (w2.alloc (.cells #[.bool false, .slice none 0 0, .slice none 0 0] 31)).drew.heap.size; omega) (by unfold maxLen; omega) rfl
  have hmc : wc.heap[w2.heap.size]? = some (.cells #[.bool false, .slice none 0 0, .slice none 0 0] 31 (0, 0)) := (hbc'.block _ (by omega)).trans hmm
  obtain ⟨A6, c6, w6, hr6, ho6, hg6⟩ := app_kids wc w.heap.size (w2.heap.size + 1) hoc ((hk'.grow (hbw.trans (Joins.below_le hbc hbw.size)))) (by omega) (by have := hbc.size; omega)
  have hb6 : Below w2.heap.size w2 w6 := hbc.grown hg6 hbc.size (fun p hp => by have h1 : w2.heap.size + 1 = p := Option.some.inj hp; omega)
  have hm6 : w6.heap[w2.heap.size]? = some (.cells #[.bool false, .slice none 0 0, .slice none 0 0] 31 (0, 0)) := (hg6.block _ (Array.getElem?_eq_some_iff.1 hmc).1 (fun e => by injection e with e; omega)).trans hmc
  have hbw6 : Below w.heap.size w w6 := hbw.trans (Joins.below_le hb6 hbw.size)
  have hj6 : GvJ 31 59 25 w (((w6.setCell ⟨w2.heap.size, 0, none⟩ (.bool n.leaf)).setCell ⟨w2.heap.size, 1, none⟩ (.slice none 0 0)).setCell ⟨w2.heap.size, 2, none⟩ (.slice A6 n.kids.length c6)) #[.bool n.leaf, .slice Ac n.cells.length cc, .slice Ak n.kids.length ck] w2.heap.size ⟨n.leaf, [], n.kids⟩ none 0 A6 c6 :=
    ⟨set3_at hm6, (set3_far (by omega)).trans ((hb6.block _ (by omega)).trans hx2), (set3_far (by omega)).trans ((hb6.block _ (by omega)).trans hy2), ⟨rfl, .inl ⟨rfl, rfl⟩⟩, row_same ho6 fun p hp => set3_far (not_block ho6 hm6 (by decide) p hp), ((hbw6.setCell (p := ⟨w2.heap.size, 0, none⟩) (show w.heap.size ≤ w2.heap.size by omega) _).setCell (p := ⟨w2.heap.size, 1, none⟩) (show w.heap.size ≤ w2.heap.size by omega) _).setCell (p := ⟨w2.heap.size, 2, none⟩) (show w.heap.size ≤ w2.heap.size by omega) _, by omega⟩
  -- what the region meets
  have hS : ∀ W : World, Below w2.heap.size w2 W → W.cell? ⟨w.heap.size, 0, none⟩ = some (.bool n.leaf) ∧ W.cell? ⟨w.heap.size, 2, none⟩ = some (.slice Ak n.kids.length ck) := fun W hW => by
    have e := (hW.block w.heap.size (by omega)).trans hx2
    exact ⟨(row_cells e).1 0, (row_cells e).1 2⟩
  have k0 := hS _ hwd
  have k1 := hS _ hba
  have k2 := hS _ hb4
  have k3 := hS _ hbb
  have k4 := hS _ hb5
  have k5 := hS _ hbm
  have k6 := hS _ hbc
  have k7 := hS _ hb6
  have k8 := (show _ ∧ _ from ⟨(row_cells hj5.src).1 0, (row_cells hj5.src).1 2⟩ : (((w5.setCell ⟨w2.heap.size + 1, 0, none⟩ (.bool n.leaf)).setCell ⟨w2.heap.size + 1, 1, none⟩ (.slice none 0 0)).setCell ⟨w2.heap.size + 1, 2, none⟩ (.slice A5 n.kids.length c5)).cell? ⟨w.heap.size, 0, none⟩ = some (.bool n.leaf) ∧ (((w5.setCell ⟨w2.heap.size + 1, 0, none⟩ (.bool n.leaf)).setCell ⟨w2.heap.size + 1, 1, none⟩ (.slice none 0 0)).setCell ⟨w2.heap.size + 1, 2, none⟩ (.slice A5 n.kids.length c5)).cell? ⟨w.heap.size, 2, none⟩ = some (.slice Ak n.kids.length ck))
  have k9 := (show _ ∧ _ from ⟨(row_cells hj6.src).1 0, (row_cells hj6.src).1 2⟩ : (((w6.setCell ⟨w2.heap.size, 0, none⟩ (.bool n.leaf)).setCell ⟨w2.heap.size, 1, none⟩ (.slice none 0 0)).setCell ⟨w2.heap.size, 2, none⟩ (.slice A6 n.kids.length c6)).cell? ⟨w.heap.size, 0, none⟩ = some (.bool n.leaf) ∧ (((w6.setCell ⟨w2.heap.size, 0, none⟩ (.bool n.leaf)).setCell ⟨w2.heap.size, 1, none⟩ (.slice none 0 0)).setCell ⟨w2.heap.size, 2, none⟩ (.slice A6 n.kids.length c6)).cell? ⟨w.heap.size, 2, none⟩ = some (.slice Ak n.kids.length ck))
  have hl2 : w.heap.size < w2.heap.size := by omega
  have k11 : (w4.alloc (.cells #[.bool false, .slice none 0 0, .slice none 0 0] 31)).cell? ⟨w.heap.size, 0, none⟩ = some (.bool n.leaf) ∧ (w4.alloc (.cells #[.bool false, .slice none 0 0, .slice none 0 0] 31)).cell? ⟨w.heap.size, 2, none⟩ = some (.slice Ak n.kids.length ck) := by
    have e := (heap_alloc_old w4 (.cells #[.bool false, .slice none 0 0, .slice none 0 0] 31) (show w.heap.size < w4.heap.size by have := hb4.size; omega)).trans ((hb4.block w.heap.size (by omega)).trans hx2)
    exact ⟨(row_cells e).1 0, (row_cells e).1 2⟩
  have k10 := (show _ ∧ _ from ⟨(row_cells hj4.src).1 0, (row_cells hj4.src).1 2⟩ : (w4.alloc (.cells #[.bool n.leaf, .slice none 0 0, .slice A4 n.kids.length c4] 31)).cell? ⟨w.heap.size, 0, none⟩ = some (.bool n.leaf) ∧ (w4.alloc (.cells #[.bool n.leaf, .slice none 0 0, .slice A4 n.kids.length c4] 31)).cell? ⟨w.heap.size, 2, none⟩ = some (.slice Ak n.kids.length ck))
  have f0 := (row_cells hm5).1 0
  have f1 := (row_cells hm5).1 1
  have f2 := (row_cells hm5).1 2
  have f3 := (row_cells hm5).2 0
  have f4 := (row_cells hm5).2 1
  have f5 := (row_cells hm5).2 2
  have g0 := (row_cells hm6).1 0
  have g1 := (row_cells hm6).1 1
  have g2 := (row_cells hm6).1 2
  have g3 := (row_cells hm6).2 0
  have g4 := (row_cells hm6).2 1
  have g5 := (row_cells hm6).2 2
  rw [hwb] at hr5
  rw [hwa] at hr4
  rw [hwc] at hr6
  rw [hwa] at k1
  rw [hwb] at k3
  rw [hwm] at k5
  rw [hwc] at k6
  have HAPa := Lib.hid hr4
  have HAPb := Lib.hid hr5
  have HAPc := Lib.hid hr6
  have HJ4 := Lib.hid hj4
  have HJ5 := Lib.hid hj5
  have HJ6 := Lib.hid hj6
  have HC := Lib.hid hc
  have HW1 := Lib.hid hw1
  have HW2 := Lib.hid hw2
  clear hc hk' hw1 hw2 hb1 hs1 hx1 hb2 hs2 hy2 hx2 hbw hwd hsd hzb hwa hba hoa hr4 ho4 hg4 hb4 hbw4 hj4 hwb hsa hbb' hbb hob hmb hr5 ho5 hg5 hb5 hm5 hbw5 hj5 hwm hbm hsm hmm hwc hbc' hbc hoc hmc hr6 ho6 hg6 hb6 hm6 hbw6 hj6 hS
  go_enter Try.func10, Try.ntmps10
  go_upto_region 1 with fail
  rw [← HW1.out]
  rw [← HW2.out]
  go_region_held3 (fun w' => w'.cell? ⟨w.heap.size, 0, none⟩ = some (.bool n.leaf) ∧ w'.cell? ⟨w.heap.size, 2, none⟩ = some (.slice Ak n.kids.length ck)) (first | with_reducible exact k0 | with_reducible exact k1 | with_reducible exact k2 | with_reducible exact k3 | with_reducible exact k4 | with_reducible exact k5 | with_reducible exact k6 | with_reducible exact k7 | with_reducible exact k8 | with_reducible exact k9 | with_reducible exact k10 | with_reducible exact k11)
    (first | (refine stepApp rfl (.tmp 8) (.tmp 10) 23 rfl (.slice (some ⟨w2.heap.size, 0, none⟩) 0 0) (.slice Ak n.kids.length ck) rfl rfl (by with_reducible exact HAPa.out) ?_) | (refine stepApp rfl (.tmp 8) (.tmp 10) 23 rfl (.slice (some ⟨w2.heap.size, 0, none⟩) 0 0) (.slice Ak n.kids.length ck) rfl rfl (by with_reducible exact HAPb.out) ?_) | (refine stepApp rfl (.tmp 8) (.tmp 10) 23 rfl (.slice (some ⟨w2.heap.size + 1, 0, none⟩) 0 0) (.slice Ak n.kids.length ck) rfl rfl (by with_reducible exact HAPc.out) ?_))
  all_goals
    (first
      | (obtain ⟨B9, hB9⟩ : ∃ b, b = w4.heap.size := ⟨_, rfl⟩
         obtain ⟨W9, hW9⟩ : ∃ W, W = w4.alloc (.cells #[.bool n.leaf, .slice none 0 0, .slice A4 n.kids.length c4] 31) := ⟨_, rfl⟩
         rw [← hW9, ← hB9]
         rw [← hW9, ← hB9] at HJ4
         have HI : Hid (GvI 31 59 25 w W9 #[.bool n.leaf, .slice Ac n.cells.length cc, .slice Ak n.kids.length ck] B9 ⟨n.leaf, [], n.kids⟩) := Lib.hid ⟨_, _, _, _, HJ4.out⟩)
      | (obtain ⟨B9, hB9⟩ : ∃ b, b = w2.heap.size + 1 := ⟨_, rfl⟩
         obtain ⟨W9, hW9⟩ : ∃ W, W = (((w5.setCell ⟨w2.heap.size + 1, 0, none⟩ (.bool n.leaf)).setCell ⟨w2.heap.size + 1, 1, none⟩ (.slice none 0 0)).setCell ⟨w2.heap.size + 1, 2, none⟩ (.slice A5 n.kids.length c5)) := ⟨_, rfl⟩
         rw [← hW9, ← hB9]
         rw [← hW9, ← hB9] at HJ5
         have HI : Hid (GvI 31 59 25 w W9 #[.bool n.leaf, .slice Ac n.cells.length cc, .slice Ak n.kids.length ck] B9 ⟨n.leaf, [], n.kids⟩) := Lib.hid ⟨_, _, _, _, HJ5.out⟩)
      | (obtain ⟨B9, hB9⟩ : ∃ b, b = w2.heap.size := ⟨_, rfl⟩
         obtain ⟨W9, hW9⟩ : ∃ W, W = (((w6.setCell ⟨w2.heap.size, 0, none⟩ (.bool n.leaf)).setCell ⟨w2.heap.size, 1, none⟩ (.slice none 0 0)).setCell ⟨w2.heap.size, 2, none⟩ (.slice A6 n.kids.length c6)) := ⟨_, rfl⟩
         rw [← hW9, ← hB9]
         rw [← hW9, ← hB9] at HJ6
         have HI : Hid (GvI 31 59 25 w W9 #[.bool n.leaf, .slice Ac n.cells.length cc, .slice Ak n.kids.length ck] B9 ⟨n.leaf, [], n.kids⟩) := Lib.hid ⟨_, _, _, _, HJ6.out⟩))
  all_goals
    clear hW9 hB9 HJ4 HJ5 HJ6 HAPa HAPb HAPc k0 k1 k2 k3 k4 k5 k6 k7 k8 k9 k10 k11 hl2 f0 f1 f2 f3 f4 f5 g0 g1 g2 g3 g4 g5
    go_wp2_with fail
    go_loopw [4, 5] (fun s4 _ wr => ∃ (i : Nat) (xs : List PC), s4 = .int .i64 (i : Int) ∧ i ≤ n.cells.length ∧ xs.length = i ∧ Hid (xs = n.cells.take i) ∧ Hid (GvI 31 59 25 w wr #[.bool n.leaf, .slice Ac n.cells.length cc, .slice Ak n.kids.length ck] B9 ⟨n.leaf, xs, n.kids⟩)) (fun s4 _ _ => n.cells.length - (intOf s4).toNat)
    case atStart => exact ⟨0, [], rfl, Nat.zero_le _, rfl, Lib.hid (by simp), HI⟩
    case round =>
      clear HI
      obtain ⟨i, xs, rfl, hi, hxl, hxs, hri⟩ := hrel
      subst hxl
      obtain ⟨wz, hwz⟩ : ∃ wz : World, wz = wr := ⟨_, rfl⟩
      subst hwz
      obtain ⟨A, c, A', c', hj⟩ := hri.out
      have y1 : wz.cell? ⟨w.heap.size, 1, none⟩ = some (.slice Ac n.cells.length cc) := (row_cells hj.src).1 1
      by_cases hil : xs.length < n.cells.length
      · have a1 : (xs.length : Int) < (n.cells.length : Int) := by omega
        have a0 : (0 : Int) ≤ (xs.length : Int) := by omega
        obtain ⟨x, hci⟩ : ∃ c, n.cells[xs.length]? = some c := ⟨_, List.getElem?_eq_getElem hil⟩
        obtain ⟨b, o, n', k', hv, -, hbs, c0, c1, c2, c3⟩ := (HC.out.grow hj.below).cell hci
        injection hv with e1 e2 e3
        subst e1 e2 e3
        obtain ⟨wa, hwa⟩ : ∃ wa, wa = wz.alloc (.cells #[.string x.key, .string x.val, .int .i64 x.long, .int .i64 x.size] 62) := ⟨_, rfl⟩
        have hba : Below wz.heap.size wz wa := by rw [hwa]; exact (Below.refl _ _).alloc (Nat.le_refl _) _
        have hxa : wa.heap[wz.heap.size]? = some (.cells #[.string x.key, .string x.val, .int .i64 x.long, .int .i64 x.size] 62 (0, 0)) := by rw [hwa]; exact heap_alloc_new wz _
        have v0 : wa.cell? ⟨wz.heap.size, 0, none⟩ = some (.string x.key) := (row_cells hxa).1 0
        have v1 : wa.cell? ⟨wz.heap.size, 1, none⟩ = some (.string x.val) := (row_cells hxa).1 1
        have v2 : wa.cell? ⟨wz.heap.size, 2, none⟩ = some (.int .i64 x.long) := (row_cells hxa).1 2
        have v3 : wa.cell? ⟨wz.heap.size, 3, none⟩ = some (.int .i64 x.size) := (row_cells hxa).1 3
        have hja := hj.step hba
        have b1 : wa.cell? ⟨B9, 1, none⟩ = some (.slice A xs.length c) := (row_cells hja.blk).1 1
        obtain ⟨A7, c7, w7, hr7, f1, f2, hj7⟩ := hja.pushC info_C Try.underlying29 (by decide) (by decide) (by decide) (by decide) x (by show xs.length ≤ 1000; omega)
        have hnext : xs ++ [x] = n.cells.take (xs.length + 1) := by rw [take_succ_snoc hci, ← hxs.out]
        have HAP := Lib.hid hr7
        have HJ7 := Lib.hid hj7
        have HN := Lib.hid hnext
        have HWA := Lib.hid hwa
        clear hwa hba hxa hja hr7 hj7 hnext hj hri hxs
        go_upto_region 6 with fail
        rw [← HWA.out]
        clear y1 c0 c1 c2 c3
        go_wp2_with (at_builtin; go_must (refine Lib.wpList_append_run _ rfl (.tmp 26) (.tmp 36) 29 29 rfl _ _ rfl rfl _ _ HAP.out ?_))
        exact ⟨⟨xs.length + 1, xs ++ [x], by go_num, hil, by rw [List.length_append]; rfl, HN, Lib.hid ⟨_, _, _, _, HJ7.out⟩⟩, by simp [intOf]; omega⟩
      · have a1 : ¬ (xs.length : Int) < (n.cells.length : Int) := by omega
        have hxe : xs = n.cells := by rw [hxs.out, List.take_of_length_le (by omega)]
        obtain ⟨e1, e2, e3⟩ := hj.told (by decide) (by decide)
        dsimp only at e1 e2 e3
        obtain ⟨wf, hwf⟩ : ∃ wf, wf = ((wz.setCell ⟨w.heap.size + 1, 0, none⟩ (.bool n.leaf)).setCell ⟨w.heap.size + 1, 1, none⟩ (.slice A xs.length c)).setCell ⟨w.heap.size + 1, 2, none⟩ (.slice A' n.kids.length c') := ⟨_, rfl⟩
        rw [← hwf] at e1 e2 e3
        have x0 : wz.cell? ⟨B9, 0, none⟩ = some (.bool n.leaf) := (row_cells hj.blk).1 0
        have x1 : wz.cell? ⟨B9, 1, none⟩ = some (.slice A xs.length c) := (row_cells hj.blk).1 1
        have x2 : wz.cell? ⟨B9, 2, none⟩ = some (.slice A' n.kids.length c') := (row_cells hj.blk).1 2
        have z0 : wz.cell? ⟨w.heap.size + 1, 0, none⟩ = some (.bool false) := (row_cells hj.res).1 0
        have z1 : wz.cell? ⟨w.heap.size + 1, 1, none⟩ = some (.slice none 0 0) := (row_cells hj.res).1 1
        have z2 : wz.cell? ⟨w.heap.size + 1, 2, none⟩ = some (.slice none 0 0) := (row_cells hj.res).1 2
        have z3 : wz.frozen? ⟨w.heap.size + 1, 0, none⟩ = false := (row_cells hj.res).2 0
        have z4 : wz.frozen? ⟨w.heap.size + 1, 1, none⟩ = false := (row_cells hj.res).2 1
        have z5 : wz.frozen? ⟨w.heap.size + 1, 2, none⟩ = false := (row_cells hj.res).2 2
        have r0 : wf.cell? ⟨w.heap.size + 1, 0, none⟩ = some (.bool n.leaf) := (row_cells e1).1 0
        have r1 : wf.cell? ⟨w.heap.size + 1, 1, none⟩ = some (.slice A xs.length c) := (row_cells e1).1 1
        have r2 : wf.cell? ⟨w.heap.size + 1, 2, none⟩ = some (.slice A' n.kids.length c') := (row_cells e1).1 2
        have HE2 : Hid (OwnT 59 wf w.heap.size (.agg #[.bool n.leaf, .slice A xs.length c, .slice A' n.kids.length c']) n) := Lib.hid (by rw [hxe] at e2; rw [hxe]; exact e2)
        have HE3 := Lib.hid e3
        have HWF := Lib.hid hwf
        clear e1 e2 e3 hwf hj hri hxs hxe
        go_wp2_with fail
        rw [← HWF.out]
        refine bodyPost_ret (v := .agg #[.bool n.leaf, .slice A xs.length c, .slice A' n.kids.length c']) (by rw [results_c rfl]; go_simp; try rfl) rfl ?_
        exact ⟨_, rfl, HE2.out, HE3.out⟩
set_option maxHeartbeats 4000000 in
set_option maxRecDepth 100000 in
theorem back_any (n : PN) (v : Value) (w : World) (h : NodeN w Any v n) (hl : n.cells.length ≤ 1000) (hk : n.kids.length ≤ 1000) :
    Calls Try.prog 20 #[v] w fun e w' => ∃ v', e = .returned v' ∧ OwnT 62 w' w.heap.size v' n ∧ Below w.heap.size w w' := by
  obtain ⟨vc, vk, rfl, hc, hk'⟩ := h
  obtain ⟨Ac, cc, rfl, -, -⟩ := hc.slice
  obtain ⟨Ak, ck, rfl, -, -⟩ := hk'.slice
  obtain ⟨w1, hw1⟩ : ∃ w1, w1 = w.alloc (.cells #[.bool n.leaf, .slice Ac n.cells.length cc, .slice Ak n.kids.length ck] 31) := ⟨_, rfl⟩
  have hb1 : Below w.heap.size w w1 := by rw [hw1]; exact (Below.refl _ _).alloc (Nat.le_refl _) _
  have hs1 : w1.heap.size = w.heap.size + 1 := by rw [hw1]; simp
  have hx1 : w1.heap[w.heap.size]? = some (.cells #[.bool n.leaf, .slice Ac n.cells.length cc, .slice Ak n.kids.length ck] 31 (0, 0)) := by rw [hw1]; exact heap_alloc_new w _
  obtain ⟨w2, hw2⟩ : ∃ w2, w2 = w1.alloc (.cells #[.bool false, .slice none 0 0, .slice none 0 0] 25) := ⟨_, rfl⟩
  have hb2 : Below w1.heap.size w1 w2 := by rw [hw2]; exact (Below.refl _ _).alloc (Nat.le_refl _) _
  have hs2 : w2.heap.size = w.heap.size + 2 := by rw [hw2]; simp [hs1]
  have hy2 : w2.heap[w.heap.size + 1]? = some (.cells #[.bool false, .slice none 0 0, .slice none 0 0] 25 (0, 0)) := by rw [hw2, ← hs1]; exact heap_alloc_new w1 _
  have hx2 := (hb2.block w.heap.size (by omega)).trans hx1
  have hbw : Below w.heap.size w w2 := hb1.trans (Joins.below_le hb2 hb1.size)
  have hzn := zero_nodeR
  -- append of the kids to an empty row: three orders
  have hwd : Below w2.heap.size w2 w2.drew := (Below.refl _ _).drew
  have hsd : w2.drew.heap.size = w2.heap.size := rfl
  have hzb : ∀ W : World, w2.heap.size ≤ W.heap.size → Below w2.heap.size w2 W → ∀ (b : Nat) (C : Array Value) (T : TypeId), b < w2.heap.size → w2.heap[b]? = some (.cells C T (0, 0)) → W.heap[b]? = some (.cells C T (0, 0)) := fun W _ hb b C T hl h => (hb.block b hl).trans h
  -- a
  obtain ⟨wa, hwa⟩ : ∃ wa, wa = (w2.alloc (.cells #[] 3)).drew := ⟨_, rfl⟩
  have hba : Below w2.heap.size w2 wa := by rw [hwa]; exact ((Below.refl _ _).alloc (Nat.le_refl _) _).drew
  have hoa : wa.ownsRow w.heap.size 3 1 (.slice (some ⟨w2.heap.size, 0, none⟩) 0 0) 0 [] := by
    rw [hwa]
    exact World.ownsRow_lit (base := w.heap.size) w2 #[] 0 (by omega) (by unfold maxLen; omega) rfl
  obtain ⟨A4, c4, w4, hr4, ho4, hg4⟩ := app_kids wa w.heap.size w2.heap.size hoa ((hk'.grow (hbw.trans (Joins.below_le hba hbw.size)))) (by omega) (by have := hba.size; omega)
  have hb4 : Below w2.heap.size w2 w4 := hba.grown hg4 hba.size (fun p hp => by have h1 : w2.heap.size = p := Option.some.inj hp; omega)
  have hbw4 : Below w.heap.size w w4 := hbw.trans (Joins.below_le hb4 hbw.size)
  have hj4 : GvJ 25 62 31 w (w4.alloc (.cells #[.bool n.leaf, .slice none 0 0, .slice A4 n.kids.length c4] 25)) #[.bool n.leaf, .slice Ac n.cells.length cc, .slice Ak n.kids.length ck] w4.heap.size ⟨n.leaf, [], n.kids⟩ none 0 A4 c4 := by
    have hq := hb4.size
    have hb5 : Below w4.heap.size w4 (w4.alloc (.cells #[.bool n.leaf, .slice none 0 0, .slice A4 n.kids.length c4] 25)) := (Below.refl _ _).alloc (Nat.le_refl _) _
    exact ⟨heap_alloc_new w4 _, (hb5.block _ (by omega)).trans ((hb4.block _ (by omega)).trans hx2), (hb5.block _ (by omega)).trans ((hb4.block _ (by omega)).trans hy2), ⟨rfl, .inl ⟨rfl, rfl⟩⟩, row_same ho4 fun p hp => hb5.block p (ho4.lt p hp).2, hbw4.trans (Joins.below_le hb5 hbw4.size), by omega⟩
  -- b
  obtain ⟨wb, hwb⟩ : ∃ wb, wb = ((w2.alloc (.cells #[] 3)).alloc (.cells #[.bool false, .slice none 0 0, .slice none 0 0] 25)).drew := ⟨_, rfl⟩
  have hsa : wa.heap.size = w2.heap.size + 1 := by rw [hwa]; show (w2.heap.push _).size = _; simp
  have hbb' : Below wa.heap.size wa wb := by rw [hwb, hwa]; exact (Below.refl (w2.alloc (.cells #[] 3)).heap.size (w2.alloc (.cells #[] 3)).drew).alloc (Nat.le_refl _) _
  have hbb : Below w2.heap.size w2 wb := hba.trans (Joins.below_le hbb' hba.size)
  have hob : wb.ownsRow w.heap.size 3 1 (.slice (some ⟨w2.heap.size, 0, none⟩) 0 0) 0 [] := row_same hoa fun p hp => hbb'.block p (hoa.lt p hp).2
  have hmb : wb.heap[w2.heap.size + 1]? = some (.cells #[.bool false, .slice none 0 0, .slice none 0 0] 25 (0, 0)) := by rw [hwb, ← hsa, hwa]; exact heap_alloc_new (w2.alloc (.cells #[] 3)) _
  obtain ⟨A5, c5, w5, hr5, ho5, hg5⟩ := app_kids wb w.heap.size w2.heap.size hob ((hk'.grow (hbw.trans (Joins.below_le hbb hbw.size)))) (by omega) (by have := hbb.size; omega)
  have hb5 : Below w2.heap.size w2 w5 := hbb.grown hg5 hbb.size (fun p hp => by have h1 : w2.heap.size = p := Option.some.inj hp; omega)
  have hm5 : w5.heap[w2.heap.size + 1]? = some (.cells #[.bool false, .slice none 0 0, .slice none 0 0] 25 (0, 0)) := (hg5.block _ (Array.getElem?_eq_some_iff.1 hmb).1 (fun e => by injection e with e; omega)).trans hmb
  have hbw5 : Below w.heap.size w w5 := hbw.trans (Joins.below_le hb5 hbw.size)
  have hj5 : GvJ 25 62 31 w (((w5.setCell ⟨w2.heap.size + 1, 0, none⟩ (.bool n.leaf)).setCell ⟨w2.heap.size + 1, 1, none⟩ (.slice none 0 0)).setCell ⟨w2.heap.size + 1, 2, none⟩ (.slice A5 n.kids.length c5)) #[.bool n.leaf, .slice Ac n.cells.length cc, .slice Ak n.kids.length ck] (w2.heap.size + 1) ⟨n.leaf, [], n.kids⟩ none 0 A5 c5 :=
    ⟨set3_at hm5, (set3_far (by omega)).trans ((hb5.block _ (by omega)).trans hx2), (set3_far (by omega)).trans ((hb5.block _ (by omega)).trans hy2), ⟨rfl, .inl ⟨rfl, rfl⟩⟩, row_same ho5 fun p hp => set3_far (not_block ho5 hm5 (by decide) p hp), ((hbw5.setCell (p := ⟨w2.heap.size + 1, 0, none⟩) (show w.heap.size ≤ w2.heap.size + 1 by omega) _).setCell (p := ⟨w2.heap.size + 1, 1, none⟩) (show w.heap.size ≤ w2.heap.size + 1 by omega) _).setCell (p := ⟨w2.heap.size + 1, 2, none⟩) (show w.heap.size ≤ w2.heap.size + 1 by omega) _, by omega⟩
  -- c
  obtain ⟨wm, hwm⟩ : ∃ wm, wm = (w2.alloc (.cells #[.bool false, .slice none 0 0, .slice none 0 0] 25)).drew := ⟨_, rfl⟩
  have hbm : Below w2.heap.size w2 wm := by rw [hwm]; exact ((Below.refl _ _).alloc (Nat.le_refl _) _).drew
  have hsm : wm.heap.size = w2.heap.size + 1 := by rw [hwm]; show (w2.heap.push _).size = _; simp
  have hmm : wm.heap[w2.heap.size]? = some (.cells #[.bool false, .slice none 0 0, .slice none 0 0] 25 (0, 0)) := by rw [hwm]; exact heap_alloc_new w2 _
  obtain ⟨wc, hwc⟩ : ∃ wc, wc = ((w2.alloc (.cells #[.bool false, .slice none 0 0, .slice none 0 0] 25)).alloc (.cells #[] 3)).drew := ⟨_, rfl⟩
  have hbc' : Below wm.heap.size wm wc := by rw [hwc, hwm]; exact (Below.refl (w2.alloc (.cells #[.bool false, .slice none 0 0, .slice none 0 0] 25)).heap.size (w2.alloc (.cells #[.bool false, .slice none 0 0, .slice none 0 0] 25)).drew).alloc (Nat.le_refl _) _
  have hbc : Below w2.heap.size w2 wc := hbm.trans (Joins.below_le hbc' hbm.size)
  have hoc : wc.ownsRow w.heap.size 3 1 (.slice (some ⟨w2.heap.size + 1, 0, none⟩) 0 0) 0 [] := by
    rw [hwc, ← hsm, hwm]
    exact World.ownsRow_lit (base := w.heap.size) (w2.alloc (.cells #[.bool false, .slice none 0 0, .slice none 0 0] 25)) #[] 0 (by have := hbm.size; rw [hwm] at this; show w.heap.size ≤ (w2.alloc (.cells #[.bool false, .slice none 0 0, .slice none 0 0] 25)).drew.heap.size; omega) (by unfold maxLen; omega) rfl
  have hmc : wc.heap[w2.heap.size]? = some (.cells #[.bool false, .slice none 0 0, .slice none 0 0] 25 (0, 0)) := (hbc'.block _ (by omega)).trans hmm
  obtain ⟨A6, c6, w6, hr6, ho6, hg6⟩ := app_kids wc w.heap.size (w2.heap.size + 1) hoc ((hk'.grow (hbw.trans (Joins.below_le hbc hbw.size)))) (by omega) (by have := hbc.size; omega)
  have hb6 : Below w2.heap.size w2 w6 := hbc.grown hg6 hbc.size (fun p hp => by have h1 : w2.heap.size + 1 = p := Option.some.inj hp; omega)
  have hm6 : w6.heap[w2.heap.size]? = some (.cells #[.bool false, .slice none 0 0, .slice none 0 0] 25 (0, 0)) := (hg6.block _ (Array.getElem?_eq_some_iff.1 hmc).1 (fun e => by injection e with e; omega)).trans hmc
  have hbw6 : Below w.heap.size w w6 := hbw.trans (Joins.below_le hb6 hbw.size)
  have hj6 : GvJ 25 62 31 w (((w6.setCell ⟨w2.heap.size, 0, none⟩ (.bool n.leaf)).setCell ⟨w2.heap.size, 1, none⟩ (.slice none 0 0)).setCell ⟨w2.heap.size, 2, none⟩ (.slice A6 n.kids.length c6)) #[.bool n.leaf, .slice Ac n.cells.length cc, .slice Ak n.kids.length ck] w2.heap.size ⟨n.leaf, [], n.kids⟩ none 0 A6 c6 :=
    ⟨set3_at hm6, (set3_far (by omega)).trans ((hb6.block _ (by omega)).trans hx2), (set3_far (by omega)).trans ((hb6.block _ (by omega)).trans hy2), ⟨rfl, .inl ⟨rfl, rfl⟩⟩, row_same ho6 fun p hp => set3_far (not_block ho6 hm6 (by decide) p hp), ((hbw6.setCell (p := ⟨w2.heap.size, 0, none⟩) (show w.heap.size ≤ w2.heap.size by omega) _).setCell (p := ⟨w2.heap.size, 1, none⟩) (show w.heap.size ≤ w2.heap.size by omega) _).setCell (p := ⟨w2.heap.size, 2, none⟩) (show w.heap.size ≤ w2.heap.size by omega) _, by omega⟩
  -- what the region meets
  have hS : ∀ W : World, Below w2.heap.size w2 W → W.cell? ⟨w.heap.size, 0, none⟩ = some (.bool n.leaf) ∧ W.cell? ⟨w.heap.size, 2, none⟩ = some (.slice Ak n.kids.length ck) := fun W hW => by
    have e := (hW.block w.heap.size (by omega)).trans hx2
    exact ⟨(row_cells e).1 0, (row_cells e).1 2⟩
  have k0 := hS _ hwd
  have k1 := hS _ hba
  have k2 := hS _ hb4
  have k3 := hS _ hbb
  have k4 := hS _ hb5
  have k5 := hS _ hbm
  have k6 := hS _ hbc
  have k7 := hS _ hb6
  have k8 := (show _ ∧ _ from ⟨(row_cells hj5.src).1 0, (row_cells hj5.src).1 2⟩ : (((w5.setCell ⟨w2.heap.size + 1, 0, none⟩ (.bool n.leaf)).setCell ⟨w2.heap.size + 1, 1, none⟩ (.slice none 0 0)).setCell ⟨w2.heap.size + 1, 2, none⟩ (.slice A5 n.kids.length c5)).cell? ⟨w.heap.size, 0, none⟩ = some (.bool n.leaf) ∧ (((w5.setCell ⟨w2.heap.size + 1, 0, none⟩ (.bool n.leaf)).setCell ⟨w2.heap.size + 1, 1, none⟩ (.slice none 0 0)).setCell ⟨w2.heap.size + 1, 2, none⟩ (.slice A5 n.kids.length c5)).cell? ⟨w.heap.size, 2, none⟩ = some (.slice Ak n.kids.length ck))
  have k9 := (show _ ∧ _ from ⟨(row_cells hj6.src).1 0, (row_cells hj6.src).1 2⟩ : (((w6.setCell ⟨w2.heap.size, 0, none⟩ (.bool n.leaf)).setCell ⟨w2.heap.size, 1, none⟩ (.slice none 0 0)).setCell ⟨w2.heap.size, 2, none⟩ (.slice A6 n.kids.length c6)).cell? ⟨w.heap.size, 0, none⟩ = some (.bool n.leaf) ∧ (((w6.setCell ⟨w2.heap.size, 0, none⟩ (.bool n.leaf)).setCell ⟨w2.heap.size, 1, none⟩ (.slice none 0 0)).setCell ⟨w2.heap.size, 2, none⟩ (.slice A6 n.kids.length c6)).cell? ⟨w.heap.size, 2, none⟩ = some (.slice Ak n.kids.length ck))
  have hl2 : w.heap.size < w2.heap.size := by omega
  have k11 : (w4.alloc (.cells #[.bool false, .slice none 0 0, .slice none 0 0] 25)).cell? ⟨w.heap.size, 0, none⟩ = some (.bool n.leaf) ∧ (w4.alloc (.cells #[.bool false, .slice none 0 0, .slice none 0 0] 25)).cell? ⟨w.heap.size, 2, none⟩ = some (.slice Ak n.kids.length ck) := by
    have e := (heap_alloc_old w4 (.cells #[.bool false, .slice none 0 0, .slice none 0 0] 25) (show w.heap.size < w4.heap.size by have := hb4.size; omega)).trans ((hb4.block w.heap.size (by omega)).trans hx2)
    exact ⟨(row_cells e).1 0, (row_cells e).1 2⟩
  have k10 := (show _ ∧ _ from ⟨(row_cells hj4.src).1 0, (row_cells hj4.src).1 2⟩ : (w4.alloc (.cells #[.bool n.leaf, .slice none 0 0, .slice A4 n.kids.length c4] 25)).cell? ⟨w.heap.size, 0, none⟩ = some (.bool n.leaf) ∧ (w4.alloc (.cells #[.bool n.leaf, .slice none 0 0, .slice A4 n.kids.length c4] 25)).cell? ⟨w.heap.size, 2, none⟩ = some (.slice Ak n.kids.length ck))
  have f0 := (row_cells hm5).1 0
  have f1 := (row_cells hm5).1 1
  have f2 := (row_cells hm5).1 2
  have f3 := (row_cells hm5).2 0
  have f4 := (row_cells hm5).2 1
  have f5 := (row_cells hm5).2 2
  have g0 := (row_cells hm6).1 0
  have g1 := (row_cells hm6).1 1
  have g2 := (row_cells hm6).1 2
  have g3 := (row_cells hm6).2 0
  have g4 := (row_cells hm6).2 1
  have g5 := (row_cells hm6).2 2
  rw [hwb] at hr5
  rw [hwa] at hr4
  rw [hwc] at hr6
  rw [hwa] at k1
  rw [hwb] at k3
  rw [hwm] at k5
  rw [hwc] at k6
  have HAPa := Lib.hid hr4
  have HAPb := Lib.hid hr5
  have HAPc := Lib.hid hr6
  have HJ4 := Lib.hid hj4
  have HJ5 := Lib.hid hj5
  have HJ6 := Lib.hid hj6
  have HC := Lib.hid hc
  have HW1 := Lib.hid hw1
  have HW2 := Lib.hid hw2
  clear hc hk' hw1 hw2 hb1 hs1 hx1 hb2 hs2 hy2 hx2 hbw hwd hsd hzb hwa hba hoa hr4 ho4 hg4 hb4 hbw4 hj4 hwb hsa hbb' hbb hob hmb hr5 ho5 hg5 hb5 hm5 hbw5 hj5 hwm hbm hsm hmm hwc hbc' hbc hoc hmc hr6 ho6 hg6 hb6 hm6 hbw6 hj6 hS
  go_enter Try.func20, Try.ntmps20
  go_upto_region 1 with fail
  rw [← HW1.out]
  rw [← HW2.out]
  go_region_held3 (fun w' => w'.cell? ⟨w.heap.size, 0, none⟩ = some (.bool n.leaf) ∧ w'.cell? ⟨w.heap.size, 2, none⟩ = some (.slice Ak n.kids.length ck)) (first | with_reducible exact k0 | with_reducible exact k1 | with_reducible exact k2 | with_reducible exact k3 | with_reducible exact k4 | with_reducible exact k5 | with_reducible exact k6 | with_reducible exact k7 | with_reducible exact k8 | with_reducible exact k9 | with_reducible exact k10 | with_reducible exact k11)
    (first | (refine stepApp rfl (.tmp 8) (.tmp 10) 23 rfl (.slice (some ⟨w2.heap.size, 0, none⟩) 0 0) (.slice Ak n.kids.length ck) rfl rfl (by with_reducible exact HAPa.out) ?_) | (refine stepApp rfl (.tmp 8) (.tmp 10) 23 rfl (.slice (some ⟨w2.heap.size, 0, none⟩) 0 0) (.slice Ak n.kids.length ck) rfl rfl (by with_reducible exact HAPb.out) ?_) | (refine stepApp rfl (.tmp 8) (.tmp 10) 23 rfl (.slice (some ⟨w2.heap.size + 1, 0, none⟩) 0 0) (.slice Ak n.kids.length ck) rfl rfl (by with_reducible exact HAPc.out) ?_))
  all_goals
    (first
      | (obtain ⟨B9, hB9⟩ : ∃ b, b = w4.heap.size := ⟨_, rfl⟩
         obtain ⟨W9, hW9⟩ : ∃ W, W = w4.alloc (.cells #[.bool n.leaf, .slice none 0 0, .slice A4 n.kids.length c4] 25) := ⟨_, rfl⟩
         rw [← hW9, ← hB9]
         rw [← hW9, ← hB9] at HJ4
         have HI : Hid (GvI 25 62 31 w W9 #[.bool n.leaf, .slice Ac n.cells.length cc, .slice Ak n.kids.length ck] B9 ⟨n.leaf, [], n.kids⟩) := Lib.hid ⟨_, _, _, _, HJ4.out⟩)
      | (obtain ⟨B9, hB9⟩ : ∃ b, b = w2.heap.size + 1 := ⟨_, rfl⟩
         obtain ⟨W9, hW9⟩ : ∃ W, W = (((w5.setCell ⟨w2.heap.size + 1, 0, none⟩ (.bool n.leaf)).setCell ⟨w2.heap.size + 1, 1, none⟩ (.slice none 0 0)).setCell ⟨w2.heap.size + 1, 2, none⟩ (.slice A5 n.kids.length c5)) := ⟨_, rfl⟩
         rw [← hW9, ← hB9]
         rw [← hW9, ← hB9] at HJ5
         have HI : Hid (GvI 25 62 31 w W9 #[.bool n.leaf, .slice Ac n.cells.length cc, .slice Ak n.kids.length ck] B9 ⟨n.leaf, [], n.kids⟩) := Lib.hid ⟨_, _, _, _, HJ5.out⟩)
      | (obtain ⟨B9, hB9⟩ : ∃ b, b = w2.heap.size := ⟨_, rfl⟩
         obtain ⟨W9, hW9⟩ : ∃ W, W = (((w6.setCell ⟨w2.heap.size, 0, none⟩ (.bool n.leaf)).setCell ⟨w2.heap.size, 1, none⟩ (.slice none 0 0)).setCell ⟨w2.heap.size, 2, none⟩ (.slice A6 n.kids.length c6)) := ⟨_, rfl⟩
         rw [← hW9, ← hB9]
         rw [← hW9, ← hB9] at HJ6
         have HI : Hid (GvI 25 62 31 w W9 #[.bool n.leaf, .slice Ac n.cells.length cc, .slice Ak n.kids.length ck] B9 ⟨n.leaf, [], n.kids⟩) := Lib.hid ⟨_, _, _, _, HJ6.out⟩))
  all_goals
    clear hW9 hB9 HJ4 HJ5 HJ6 HAPa HAPb HAPc k0 k1 k2 k3 k4 k5 k6 k7 k8 k9 k10 k11 hl2 f0 f1 f2 f3 f4 f5 g0 g1 g2 g3 g4 g5
    go_wp2_with fail
    go_loopw [4, 5] (fun s4 _ wr => ∃ (i : Nat) (xs : List PC), s4 = .int .i64 (i : Int) ∧ i ≤ n.cells.length ∧ xs.length = i ∧ Hid (xs = n.cells.take i) ∧ Hid (GvI 25 62 31 w wr #[.bool n.leaf, .slice Ac n.cells.length cc, .slice Ak n.kids.length ck] B9 ⟨n.leaf, xs, n.kids⟩)) (fun s4 _ _ => n.cells.length - (intOf s4).toNat)
    case atStart => exact ⟨0, [], rfl, Nat.zero_le _, rfl, Lib.hid (by simp), HI⟩
    case round =>
      clear HI
      obtain ⟨i, xs, rfl, hi, hxl, hxs, hri⟩ := hrel
      subst hxl
      obtain ⟨wz, hwz⟩ : ∃ wz : World, wz = wr := ⟨_, rfl⟩
      subst hwz
      obtain ⟨A, c, A', c', hj⟩ := hri.out
      have y1 : wz.cell? ⟨w.heap.size, 1, none⟩ = some (.slice Ac n.cells.length cc) := (row_cells hj.src).1 1
      by_cases hil : xs.length < n.cells.length
      · have a1 : (xs.length : Int) < (n.cells.length : Int) := by omega
        have a0 : (0 : Int) ≤ (xs.length : Int) := by omega
        obtain ⟨x, hci⟩ : ∃ c, n.cells[xs.length]? = some c := ⟨_, List.getElem?_eq_getElem hil⟩
        obtain ⟨b, o, n', k', hv, -, hbs, c0, c1, c2, c3⟩ := (HC.out.grow hj.below).cell hci
        injection hv with e1 e2 e3
        subst e1 e2 e3
        obtain ⟨wa, hwa⟩ : ∃ wa, wa = wz.alloc (.cells #[.string x.key, .string x.val, .int .i64 x.long, .int .i64 x.size] 59) := ⟨_, rfl⟩
        have hba : Below wz.heap.size wz wa := by rw [hwa]; exact (Below.refl _ _).alloc (Nat.le_refl _) _
        have hxa : wa.heap[wz.heap.size]? = some (.cells #[.string x.key, .string x.val, .int .i64 x.long, .int .i64 x.size] 59 (0, 0)) := by rw [hwa]; exact heap_alloc_new wz _
        have v0 : wa.cell? ⟨wz.heap.size, 0, none⟩ = some (.string x.key) := (row_cells hxa).1 0
        have v1 : wa.cell? ⟨wz.heap.size, 1, none⟩ = some (.string x.val) := (row_cells hxa).1 1
        have v2 : wa.cell? ⟨wz.heap.size, 2, none⟩ = some (.int .i64 x.long) := (row_cells hxa).1 2
        have v3 : wa.cell? ⟨wz.heap.size, 3, none⟩ = some (.int .i64 x.size) := (row_cells hxa).1 3
        have hja := hj.step hba
        have b1 : wa.cell? ⟨B9, 1, none⟩ = some (.slice A xs.length c) := (row_cells hja.blk).1 1
        obtain ⟨A7, c7, w7, hr7, f1, f2, hj7⟩ := hja.pushC info_RC Try.underlying22 (by decide) (by decide) (by decide) (by decide) x (by show xs.length ≤ 1000; omega)
        have hnext : xs ++ [x] = n.cells.take (xs.length + 1) := by rw [take_succ_snoc hci, ← hxs.out]
        have HAP := Lib.hid hr7
        have HJ7 := Lib.hid hj7
        have HN := Lib.hid hnext
        have HWA := Lib.hid hwa
        clear hwa hba hxa hja hr7 hj7 hnext hj hri hxs
        go_upto_region 6 with fail
        rw [← HWA.out]
        clear y1 c0 c1 c2 c3
        go_wp2_with (at_builtin; go_must (refine Lib.wpList_append_run _ rfl (.tmp 26) (.tmp 36) 22 22 rfl _ _ rfl rfl _ _ HAP.out ?_))
        exact ⟨⟨xs.length + 1, xs ++ [x], by go_num, hil, by rw [List.length_append]; rfl, HN, Lib.hid ⟨_, _, _, _, HJ7.out⟩⟩, by simp [intOf]; omega⟩
      · have a1 : ¬ (xs.length : Int) < (n.cells.length : Int) := by omega
        have hxe : xs = n.cells := by rw [hxs.out, List.take_of_length_le (by omega)]
        obtain ⟨e1, e2, e3⟩ := hj.told (by decide) (by decide)
        dsimp only at e1 e2 e3
        obtain ⟨wf, hwf⟩ : ∃ wf, wf = ((wz.setCell ⟨w.heap.size + 1, 0, none⟩ (.bool n.leaf)).setCell ⟨w.heap.size + 1, 1, none⟩ (.slice A xs.length c)).setCell ⟨w.heap.size + 1, 2, none⟩ (.slice A' n.kids.length c') := ⟨_, rfl⟩
        rw [← hwf] at e1 e2 e3
        have x0 : wz.cell? ⟨B9, 0, none⟩ = some (.bool n.leaf) := (row_cells hj.blk).1 0
        have x1 : wz.cell? ⟨B9, 1, none⟩ = some (.slice A xs.length c) := (row_cells hj.blk).1 1
        have x2 : wz.cell? ⟨B9, 2, none⟩ = some (.slice A' n.kids.length c') := (row_cells hj.blk).1 2
        have z0 : wz.cell? ⟨w.heap.size + 1, 0, none⟩ = some (.bool false) := (row_cells hj.res).1 0
        have z1 : wz.cell? ⟨w.heap.size + 1, 1, none⟩ = some (.slice none 0 0) := (row_cells hj.res).1 1
        have z2 : wz.cell? ⟨w.heap.size + 1, 2, none⟩ = some (.slice none 0 0) := (row_cells hj.res).1 2
        have z3 : wz.frozen? ⟨w.heap.size + 1, 0, none⟩ = false := (row_cells hj.res).2 0
        have z4 : wz.frozen? ⟨w.heap.size + 1, 1, none⟩ = false := (row_cells hj.res).2 1
        have z5 : wz.frozen? ⟨w.heap.size + 1, 2, none⟩ = false := (row_cells hj.res).2 2
        have r0 : wf.cell? ⟨w.heap.size + 1, 0, none⟩ = some (.bool n.leaf) := (row_cells e1).1 0
        have r1 : wf.cell? ⟨w.heap.size + 1, 1, none⟩ = some (.slice A xs.length c) := (row_cells e1).1 1
        have r2 : wf.cell? ⟨w.heap.size + 1, 2, none⟩ = some (.slice A' n.kids.length c') := (row_cells e1).1 2
        have HE2 : Hid (OwnT 62 wf w.heap.size (.agg #[.bool n.leaf, .slice A xs.length c, .slice A' n.kids.length c']) n) := Lib.hid (by rw [hxe] at e2; rw [hxe]; exact e2)
        have HE3 := Lib.hid e3
        have HWF := Lib.hid hwf
        clear e1 e2 e3 hwf hj hri hxs hxe
        go_wp2_with fail
        rw [← HWF.out]
        refine bodyPost_ret (v := .agg #[.bool n.leaf, .slice A xs.length c, .slice A' n.kids.length c']) (by rw [results_c rfl]; go_simp; try rfl) rfl ?_
        exact ⟨_, rfl, HE2.out, HE3.out⟩
end Go.Proofs.Ytedcknlafkokkaa
