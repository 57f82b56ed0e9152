/-
  The law's helper 'awake' returns true, and turns nothing that was there. No condition.
-/
import Derived.Test.YtedcknlafkokkaaNAwakeP
namespace Go.Proofs.Ytedcknlafkokkaa
open Go.RowKit

theorem string_of {N : Nat → Prop} {v : Value} {l : List UInt8} {W : World} (hW : BN W N v l) : (convert 26 9 v).run Try.prog W = .ok (.string ⟨l.toArray⟩) W := run_str _ _ _ Try.underlying26 Try.underlying5 Try.underlying9 hW.rd
set_option maxHeartbeats 4000000 in
set_option maxRecDepth 100000 in
theorem awake_any (w : World) : Calls Try.prog 9 #[] w fun e w' => e = .returned (.bool true) ∧ Below w.heap.size w w' := by
  obtain ⟨w1, hw1⟩ : ∃ w1, w1 = w.alloc (.cells #[.string ⟨#[97]⟩, .string ⟨#[49]⟩, .int .i64 0, .int .i64 0, .string ⟨#[98]⟩, .string ⟨#[]⟩, .int .i64 7, .int .i64 100] 59) := ⟨_, rfl⟩
  have hb1 : Below w.heap.size w w1 := by rw [hw1]; exact (Below.refl _ _).alloc (Nat.le_refl _) _
  have hc1 : CsN w1 Any (.slice (some ⟨w.heap.size, 0, none⟩) 2 2) exA.cells := by
    have h := World.ownsRow_lit (e := 59) (size := 4) (base := w.heap.size) w #[.string ⟨#[97]⟩, .string ⟨#[49]⟩, .int .i64 0, .int .i64 0, .string ⟨#[98]⟩, .string ⟨#[]⟩, .int .i64 7, .int .i64 100] 2 (Nat.le_refl _) (by unfold maxLen; omega) (by simp)
    rw [hw1]
    exact RowN.of_own h fun _ _ => trivial
  obtain ⟨w2, hw2⟩ : ∃ w2, w2 = w1.alloc (.cells #[.bool true, .slice (some ⟨w.heap.size, 0, none⟩) 2 2, .slice none 0 0] 31) := ⟨_, rfl⟩
  have hb2 : Below w1.heap.size w1 w2 := by rw [hw2]; exact (Below.refl _ _).alloc (Nat.le_refl _) _
  have hnA : NodeN w2 Any (.agg #[.bool true, .slice (some ⟨w.heap.size, 0, none⟩) 2 2, .slice none 0 0]) exA := ⟨_, _, rfl, hc1.grow hb2, KsN.nil _ _⟩
  have hs1 : w1.heap.size = w.heap.size + 1 := by rw [hw1]; simp
  have hx2 : w2.heap[w.heap.size + 1]? = some (.cells #[.bool true, .slice (some ⟨w.heap.size, 0, none⟩) 2 2, .slice none 0 0] 31 (0, 0)) := by rw [hw2, ← hs1]; exact heap_alloc_new w1 _
  have hbw2 : Below w.heap.size w w2 := hb1.trans (Joins.below_le hb2 hb1.size)
  have hkA : ∀ W, Below w2.heap.size w2 W → (W.cell? ⟨w.heap.size + 1, 0, none⟩ = some (.bool true) ∧ W.cell? ⟨w.heap.size + 1, 1, none⟩ = some (.slice (some ⟨w.heap.size, 0, none⟩) 2 2) ∧ W.cell? ⟨w.heap.size + 1, 2, none⟩ = some (.slice none 0 0)) := fun W hW => by
    have e := (hW.block _ (Array.getElem?_eq_some_iff.1 hx2).1).trans hx2
    exact ⟨(row_cells e).1 0, (row_cells e).1 1, (row_cells e).1 2⟩
  have cE := encode_any exA _ w2 hnA exA_small
  rw [exA_err] at cE
  have HKA := Lib.hid hkA
  have HNA := Lib.hid hnA
  have HB2 := Lib.hid hbw2
  have HW2 : Hid (w2 = (w.alloc (.cells #[.string ⟨#[97]⟩, .string ⟨#[49]⟩, .int .i64 0, .int .i64 0, .string ⟨#[98]⟩, .string ⟨#[]⟩, .int .i64 7, .int .i64 100] 59)).alloc (.cells #[.bool true, .slice (some ⟨w.heap.size, 0, none⟩) 2 2, .slice none 0 0] 31)) := Lib.hid (by rw [hw2, hw1])
  clear hw1 hw2 hb1 hb2 hc1 hnA hs1 hx2 hbw2 hkA
  go_enter Try.func9, Try.ntmps9
  go_upto_region 2 with fail
  rw [← HW2.out]
  obtain ⟨a0, a1, a2⟩ := HKA.out w2 (Below.refl _ _)
  go_wp2_with fail
  refine cE.mono ?_
  rintro e w3 ⟨vE, rfl, hE, hb3⟩
  have ho3 := hE.1 exA_err
  rw [exA_by] at ho3
  obtain ⟨AE, capE, rfl⟩ := own_slice ho3
  clear cE hE a0 a1 a2
  obtain ⟨a0, a1, a2⟩ := HKA.out w3 hb3
  have cF := find_any exA ⟨#[98]⟩ _ w3 (HNA.out.grow hb3) (by decide)
  rw [exA_findb] at cF
  have HO3 := Lib.hid ho3
  have HB3 := Lib.hid hb3
  clear ho3 hb3
  go_wp2_with fail
  refine cF.mono ?_
  rintro e w4 ⟨rfl, hb4⟩
  have hb24 := HB3.out.trans (Joins.below_le hb4 HB3.out.size)
  clear cF a0 a1 a2
  obtain ⟨a0, a1, a2⟩ := HKA.out w4 hb24
  have cF := find_any exA ⟨#[97, 97]⟩ _ w4 (HNA.out.grow hb24) (by decide)
  rw [exA_findaa] at cF
  have HB34 := Lib.hid hb4
  have HB24 := Lib.hid hb24
  clear hb4 hb24
  go_wp2_with fail
  refine cF.mono ?_
  rintro e w5 ⟨rfl, hb5⟩
  have hb25 := HB24.out.trans (Joins.below_le hb5 HB24.out.size)
  have hb35 := HB34.out.trans (Joins.below_le hb5 HB34.out.size)
  clear cF a0 a1 a2
  obtain ⟨a0, a1, a2⟩ := HKA.out w5 hb25
  have cC := cut_any exA _ w5 (HNA.out.grow hb25) exA_small
  rw [exA_cut] at cC
  have HB25 := Lib.hid hb25
  have HB35 := Lib.hid hb35
  clear hb5 hb25 hb35 HB34 HB24
  go_wp2_with fail
  refine cC.mono ?_
  rintro e w6 ⟨va, vb, M, rfl, ⟨hoA, hnA'⟩, hoB, hM, hb6⟩
  obtain ⟨Aa1, ca1, Aa2, ca2, rfl, -, -⟩ := hoA
  obtain ⟨Ab1, cb1, Ab2, cb2, rfl, -, -⟩ := hoB
  clear cC a0 a1 a2 hnA' hM
  dsimp only [List.length]
  obtain ⟨w7, hw7⟩ : ∃ w7, w7 = (w6.alloc (.cells #[.bool true, .slice Aa1 1 ca1, .slice Aa2 0 ca2] 31)).alloc (.cells #[.bool true, .slice Ab1 1 cb1, .slice Ab2 0 cb2] 31) := ⟨_, rfl⟩
  have hb7 : Below w6.heap.size w6 w7 := by rw [hw7]; exact ((Below.refl _ _).alloc (Nat.le_refl _) _).alloc (by simp) _
  have hs7 : w7.heap.size = w6.heap.size + 2 := by rw [hw7]; simp
  have e1 : w7.heap[w6.heap.size]? = some (.cells #[.bool true, .slice Aa1 1 ca1, .slice Aa2 0 ca2] 31 (0, 0)) := by rw [hw7]; exact (heap_alloc_old _ _ (by simp)).trans (heap_alloc_new w6 _)
  have e2 : w7.heap[w6.heap.size + 1]? = some (.cells #[.bool true, .slice Ab1 1 cb1, .slice Ab2 0 cb2] 31 (0, 0)) := by
    rw [hw7]
    have := heap_alloc_new (w6.alloc (.cells #[.bool true, .slice Aa1 1 ca1, .slice Aa2 0 ca2] 31)) (.cells #[.bool true, .slice Ab1 1 cb1, .slice Ab2 0 cb2] 31)
    simpa using this
  obtain ⟨wc, hwc⟩ : ∃ wc, wc = w7.alloc (.cells #[.string ⟨#[107]⟩, .string ⟨#[]⟩, .int .i64 0, .int .i64 0, .string ⟨#[109]⟩, .string ⟨#[]⟩, .int .i64 0, .int .i64 0] 59) := ⟨_, rfl⟩
  have hbc : Below w7.heap.size w7 wc := by rw [hwc]; exact (Below.refl _ _).alloc (Nat.le_refl _) _
  have hcc : CsN wc Any (.slice (some ⟨w7.heap.size, 0, none⟩) 2 2) exB.cells := by
    have h := World.ownsRow_lit (e := 59) (size := 4) (base := w7.heap.size) w7 #[.string ⟨#[107]⟩, .string ⟨#[]⟩, .int .i64 0, .int .i64 0, .string ⟨#[109]⟩, .string ⟨#[]⟩, .int .i64 0, .int .i64 0] 2 (Nat.le_refl _) (by unfold maxLen; omega) (by simp)
    rw [hwc]
    exact RowN.of_own h fun _ _ => trivial
  obtain ⟨wi, hwi⟩ : ∃ wi, wi = wc.alloc (.cells #[.int .i64 3, .int .i64 4, .int .i64 5] 3) := ⟨_, rfl⟩
  have hbi : Below wc.heap.size wc wi := by rw [hwi]; exact (Below.refl _ _).alloc (Nat.le_refl _) _
  have hsc : wc.heap.size = w7.heap.size + 1 := by rw [hwc]; simp
  have hki : KsN wi Any (.slice (some ⟨w7.heap.size + 1, 0, none⟩) 3 3) exB.kids := by
    have h := World.ownsRow_lit (e := 3) (size := 1) (base := wc.heap.size) wc #[.int .i64 3, .int .i64 4, .int .i64 5] 3 (Nat.le_refl _) (by unfold maxLen; omega) (by simp)
    rw [hwi, ← hsc]
    exact RowN.of_own h fun _ _ => trivial
  obtain ⟨w8, hw8⟩ : ∃ w8, w8 = wi.alloc (.cells #[.bool false, .slice (some ⟨w7.heap.size, 0, none⟩) 2 2, .slice (some ⟨w7.heap.size + 1, 0, none⟩) 3 3] 31) := ⟨_, rfl⟩
  have hb8 : Below wi.heap.size wi w8 := by rw [hw8]; exact (Below.refl _ _).alloc (Nat.le_refl _) _
  have hnB : NodeN w8 Any (.agg #[.bool false, .slice (some ⟨w7.heap.size, 0, none⟩) 2 2, .slice (some ⟨w7.heap.size + 1, 0, none⟩) 3 3]) exB := ⟨_, _, rfl, (hcc.grow hbi).grow hb8, hki.grow hb8⟩
  have hb78 : Below w7.heap.size w7 w8 := (hbc.trans (Joins.below_le hbi hbc.size)).trans (Joins.below_le hb8 (by have := hbc.size; have := hbi.size; omega))
  have hb58 : Below w5.heap.size w5 w8 := (hb6.trans (Joins.below_le hb7 hb6.size)).trans (Joins.below_le hb78 (by have := hb6.size; have := hb7.size; omega))
  have cE2 := encode_any exB _ w8 hnB exB_small
  rw [exB_err] at cE2
  have HW8 : Hid (w8 = ((w7.alloc (.cells #[.string ⟨#[107]⟩, .string ⟨#[]⟩, .int .i64 0, .int .i64 0, .string ⟨#[109]⟩, .string ⟨#[]⟩, .int .i64 0, .int .i64 0] 59)).alloc (.cells #[.int .i64 3, .int .i64 4, .int .i64 5] 3)).alloc (.cells #[.bool false, .slice (some ⟨w7.heap.size, 0, none⟩) 2 2, .slice (some ⟨w7.heap.size + 1, 0, none⟩) 3 3] 31)) := Lib.hid (by rw [hw8, hwi, hwc])
  have h8k : w8.heap[w7.heap.size + 2]? = some (.cells #[.bool false, .slice (some ⟨w7.heap.size, 0, none⟩) 2 2, .slice (some ⟨w7.heap.size + 1, 0, none⟩) 3 3] 31 (0, 0)) := by
    have hsi : wi.heap.size = w7.heap.size + 2 := by rw [hwi]; simp [hsc]
    rw [hw8, ← hsi]
    exact heap_alloc_new wi _
  have g0 : w8.cell? ⟨w7.heap.size + 2, 0, none⟩ = some (.bool false) := (row_cells h8k).1 0
  have g1 : w8.cell? ⟨w7.heap.size + 2, 1, none⟩ = some (.slice (some ⟨w7.heap.size, 0, none⟩) 2 2) := (row_cells h8k).1 1
  have g2 : w8.cell? ⟨w7.heap.size + 2, 2, none⟩ = some (.slice (some ⟨w7.heap.size + 1, 0, none⟩) 3 3) := (row_cells h8k).1 2
  have HW7 := Lib.hid hw7
  have HE1 := Lib.hid ((hb78.block _ (by omega)).trans e1)
  have HE2 := Lib.hid ((hb78.block _ (by omega)).trans e2)
  have HB58 := Lib.hid hb58
  have HS7 := Lib.hid hs7
  have HL67 : Hid (w7.heap.size + 2 < w8.heap.size) := Lib.hid (Array.getElem?_eq_some_iff.1 h8k).1
  clear hw7 hw8 hwi hwc hbc hbi hb8 hcc hki hnB hb78 hb58 hb7 hb6 e1 e2 hsc h8k hs7
  go_upto_region 6 with fail
  rw [← HW7.out]
  go_upto_region 7 with fail
  rw [← HW8.out]
  go_wp2_with fail
  refine cE2.mono ?_
  rintro e w9 ⟨vF, rfl, hF, hb9⟩
  have ho9 := hF.1 exB_err
  rw [exB_by] at ho9
  obtain ⟨AF, capF, rfl⟩ := own_slice ho9
  have hb39 : Below w3.heap.size w3 w9 := (HB35.out.trans (Joins.below_le HB58.out HB35.out.size)).trans (Joins.below_le hb9 (by have := HB35.out.size; have := HB58.out.size; omega))
  have hb29 : Below w2.heap.size w2 w9 := HB3.out.trans (Joins.below_le hb39 HB3.out.size)
  have hnE : BN w9 Any (.slice AE 11 capE) [1, 2, 1, 97, 0, 1, 49, 1, 98, 7, 100] := RowN.grow (RowN.of_own HO3.out (fun _ _ => trivial)) hb39
  have hcv1 : (convert 26 9 (.slice AE 11 capE)).run Try.prog w9 = .ok (.string ⟨#[1, 2, 1, 97, 0, 1, 49, 1, 98, 7, 100]⟩) w9 := string_of hnE
  obtain ⟨a0, a1, a2⟩ := HKA.out w9 hb29
  have cS := size_any exA _ w9 (HNA.out.grow hb29) exA_small
  rw [exA_size] at cS
  have HO9 := Lib.hid ho9
  have HB29 := Lib.hid hb29
  have HB9 := Lib.hid hb9
  clear cE2 hF ho9 hnE hb39 hb29 hb9 g0 g1 g2
  go_wp2_with fail
  refine cS.mono ?_
  rintro e w10 ⟨rfl, hb10⟩
  have hnF : BN w10 Any (.slice AF 9 capF) [0, 2, 1, 107, 1, 109, 3, 4, 5] := RowN.grow (RowN.of_own HO9.out (fun _ _ => trivial)) hb10
  have hcv2 : (convert 26 9 (.slice AF 9 capF)).run Try.prog w10 = .ok (.string ⟨#[0, 2, 1, 107, 1, 109, 3, 4, 5]⟩) w10 := string_of hnF
  have hb810 : Below w8.heap.size w8 w10 := HB9.out.trans (Joins.below_le hb10 HB9.out.size)
  have e1 := (hb810.block _ (by have := HL67.out; have := HS7.out; omega)).trans HE1.out
  have e2 := (hb810.block _ (by have := HL67.out; have := HS7.out; omega)).trans HE2.out
  have f1 : w10.cell? ⟨w6.heap.size, 1, none⟩ = some (.slice Aa1 1 ca1) := (row_cells e1).1 1
  have f2 : w10.cell? ⟨w6.heap.size + 1, 1, none⟩ = some (.slice Ab1 1 cb1) := (row_cells e2).1 1
  have hbf : Below w.heap.size w w10 := (HB2.out.trans (Joins.below_le HB29.out HB2.out.size)).trans (Joins.below_le hb10 (by have := HB2.out.size; have := HB29.out.size; omega))
  have HBF := Lib.hid hbf
  clear hbf e1 e2 hb810 hnF hb10 cS hcv1 a0 a1 a2
  go_wp2_with fail
  go_ret
  exact ⟨rfl, HBF.out⟩
end Go.Proofs.Ytedcknlafkokkaa
