/-
  Nobody's net; the limits: NetNames walked. No statement is proved here. No condition.
-/
import Derived.Test.YtmnaekeecjlapaaKStep
namespace Go.Proofs.Ytmnaekeecjlapaa
open Go.RowKit

set_option maxRecDepth 100000 in
theorem len_nil (w : World) : Calls Try.prog 19 #[.pointer none] w fun e w' => e = .returned (.int .i64 0) ∧ w' = w := by
  go_enter Try.func19, Try.ntmps19
  go_wp2_with fail
  go_ret
  exact ⟨rfl, rfl⟩
set_option maxRecDepth 100000 in
theorem lost_nil (w : World) : Calls Try.prog 20 #[.pointer none] w fun e w' => e = .returned (.int .i64 0) ∧ w' = w := by
  go_enter Try.func20, Try.ntmps20
  go_wp2_with fail
  go_ret
  exact ⟨rfl, rfl⟩
set_option maxRecDepth 100000 in
theorem all_nil (w : World) : Calls Try.prog 18 #[.pointer none] w fun e w' => e = .returned (.slice none 0 0) ∧ w' = w := by
  go_enter Try.func18, Try.ntmps18
  go_wp2_with fail
  go_ret
  exact ⟨rfl, rfl⟩
set_option maxRecDepth 100000 in
theorem copy_nil (w : World) : Calls Try.prog 17 #[.pointer none] w fun e w' => e = .returned (.pointer none) ∧ w' = w := by
  go_enter Try.func17, Try.ntmps17
  go_wp2_with fail
  go_ret
  exact ⟨rfl, rfl⟩
set_option maxRecDepth 100000 in
theorem send_nil (w : World) : Calls Try.prog 9 #[.pointer none, .int .i64 1, .int .i64 2, .slice none 0 0] w fun e w' => e = .returned (.int .i64 2) ∧ w' = w := by
  go_enter Try.func9, Try.ntmps9
  go_wp2_with fail
  go_ret
  exact ⟨rfl, rfl⟩
set_option maxRecDepth 100000 in
theorem double_nil (w : World) : Calls Try.prog 14 #[.pointer none, .int .i64 0] w fun e w' => e = .returned (.int .i64 2) ∧ w' = w := by
  go_enter Try.func14, Try.ntmps14
  go_wp2_with fail
  go_ret
  exact ⟨rfl, rfl⟩
set_option maxRecDepth 100000 in
theorem has_nil (w : World) : Calls Try.prog 24 #[.pointer none, .int .i64 0] w fun e w' => e = .returned (.bool false) ∧ w' = w := by
  go_enter Try.func24, Try.ntmps24
  go_wp2_with fail
  refine (len_nil w).mono ?_
  rintro e w2 ⟨rfl, rfl⟩
  go_wp2_with fail
  go_ret
  exact ⟨rfl, rfl⟩
set_option maxHeartbeats 1000000 in
set_option maxRecDepth 100000 in
theorem look_nil (w : World) : Calls Try.prog 16 #[.pointer none, .int .i64 0] w fun e w' => e = .returned (.tuple #[zK.agg, .bool false]) ∧ Below w.heap.size w w' := by
  have hz := zero_pk
  obtain ⟨w1, hw1⟩ : ∃ w1, w1 = w.alloc (.cells #[.int .i64 0, .int .i64 0, .string ⟨#[]⟩] 36) := ⟨_, rfl⟩
  have hb1 : Below w.heap.size w w1 := by rw [hw1]; exact (Below.refl _ _).alloc (Nat.le_refl _) _
  have hx1 : w1.heap[w.heap.size]? = some (.cells #[.int .i64 0, .int .i64 0, .string ⟨#[]⟩] 36 (0, 0)) := by rw [hw1]; exact heap_alloc_new w _
  obtain ⟨r0, r1, r2, r3, r4, r5⟩ : w1.cell? ⟨w.heap.size, 0, none⟩ = some (.int .i64 0) ∧ w1.cell? ⟨w.heap.size, 1, none⟩ = some (.int .i64 0) ∧ w1.cell? ⟨w.heap.size, 2, none⟩ = some (.string ⟨#[]⟩) ∧ w1.frozen? ⟨w.heap.size, 0, none⟩ = false ∧ w1.frozen? ⟨w.heap.size, 1, none⟩ = false ∧ w1.frozen? ⟨w.heap.size, 2, none⟩ = false := ⟨(blk_cells hx1).1 0, (blk_cells hx1).1 1, (blk_cells hx1).1 2, (blk_cells hx1).2 0, (blk_cells hx1).2 1, (blk_cells hx1).2 2⟩
  obtain ⟨wf, hwf⟩ : ∃ wf, wf = ((w1.setCell ⟨w.heap.size, 0, none⟩ (.int .i64 0)).setCell ⟨w.heap.size, 1, none⟩ (.int .i64 0)).setCell ⟨w.heap.size, 2, none⟩ (.string ⟨#[]⟩) := ⟨_, rfl⟩
  have hxf : wf.heap[w.heap.size]? = some (.cells #[.int .i64 0, .int .i64 0, .string ⟨#[]⟩] 36 (0, 0)) := by rw [hwf]; exact set3k_at hx1
  obtain ⟨g0, g1, g2⟩ : wf.cell? ⟨w.heap.size, 0, none⟩ = some (.int .i64 0) ∧ wf.cell? ⟨w.heap.size, 1, none⟩ = some (.int .i64 0) ∧ wf.cell? ⟨w.heap.size, 2, none⟩ = some (.string ⟨#[]⟩) := ⟨(blk_cells hxf).1 0, (blk_cells hxf).1 1, (blk_cells hxf).1 2⟩
  have hbf : Below w.heap.size w wf := by rw [hwf]; exact ((hb1.setCell (p := ⟨w.heap.size, 0, none⟩) (Nat.le_refl _) _).setCell (p := ⟨w.heap.size, 1, none⟩) (Nat.le_refl _) _).setCell (p := ⟨w.heap.size, 2, none⟩) (Nat.le_refl _) _
  have HBF := Lib.hid hbf
  have HW1 := Lib.hid hw1
  have HWF := Lib.hid hwf
  have cH := has_nil w1
  clear hb1 hx1 hw1 hwf hxf hbf
  go_enter Try.func16, Try.ntmps16
  go_upto_region 1 with fail
  rw [← HW1.out]
  go_wp2_with fail
  refine cH.mono ?_
  rintro e w2 ⟨rfl, rfl⟩
  clear cH
  go_wp2_with fail
  rw [← HWF.out]
  refine bodyPost_ret (v := .tuple #[zK.agg, .bool false]) (by clear r0 r1 r2 r3 r4 r5; unfold PK.agg zK; rw [results_ct rfl]; go_simp; try rfl) rfl ?_
  exact ⟨rfl, HBF.out⟩
set_option maxHeartbeats 1000000 in
set_option maxRecDepth 100000 in
theorem take_nil (w : World) : Calls Try.prog 11 #[.pointer none, .int .i64 0] w fun e w' => e = .returned (.tuple #[zK.agg, .bool false]) ∧ Below w.heap.size w w' := by
  have hz := zero_pk
  obtain ⟨w1, hw1⟩ : ∃ w1, w1 = w.alloc (.cells #[.int .i64 0, .int .i64 0, .string ⟨#[]⟩] 36) := ⟨_, rfl⟩
  have hb1 : Below w.heap.size w w1 := by rw [hw1]; exact (Below.refl _ _).alloc (Nat.le_refl _) _
  have hx1 : w1.heap[w.heap.size]? = some (.cells #[.int .i64 0, .int .i64 0, .string ⟨#[]⟩] 36 (0, 0)) := by rw [hw1]; exact heap_alloc_new w _
  obtain ⟨r0, r1, r2, r3, r4, r5⟩ : w1.cell? ⟨w.heap.size, 0, none⟩ = some (.int .i64 0) ∧ w1.cell? ⟨w.heap.size, 1, none⟩ = some (.int .i64 0) ∧ w1.cell? ⟨w.heap.size, 2, none⟩ = some (.string ⟨#[]⟩) ∧ w1.frozen? ⟨w.heap.size, 0, none⟩ = false ∧ w1.frozen? ⟨w.heap.size, 1, none⟩ = false ∧ w1.frozen? ⟨w.heap.size, 2, none⟩ = false := ⟨(blk_cells hx1).1 0, (blk_cells hx1).1 1, (blk_cells hx1).1 2, (blk_cells hx1).2 0, (blk_cells hx1).2 1, (blk_cells hx1).2 2⟩
  obtain ⟨wf, hwf⟩ : ∃ wf, wf = ((w1.setCell ⟨w.heap.size, 0, none⟩ (.int .i64 0)).setCell ⟨w.heap.size, 1, none⟩ (.int .i64 0)).setCell ⟨w.heap.size, 2, none⟩ (.string ⟨#[]⟩) := ⟨_, rfl⟩
  have hxf : wf.heap[w.heap.size]? = some (.cells #[.int .i64 0, .int .i64 0, .string ⟨#[]⟩] 36 (0, 0)) := by rw [hwf]; exact set3k_at hx1
  obtain ⟨g0, g1, g2⟩ : wf.cell? ⟨w.heap.size, 0, none⟩ = some (.int .i64 0) ∧ wf.cell? ⟨w.heap.size, 1, none⟩ = some (.int .i64 0) ∧ wf.cell? ⟨w.heap.size, 2, none⟩ = some (.string ⟨#[]⟩) := ⟨(blk_cells hxf).1 0, (blk_cells hxf).1 1, (blk_cells hxf).1 2⟩
  have hbf : Below w.heap.size w wf := by rw [hwf]; exact ((hb1.setCell (p := ⟨w.heap.size, 0, none⟩) (Nat.le_refl _) _).setCell (p := ⟨w.heap.size, 1, none⟩) (Nat.le_refl _) _).setCell (p := ⟨w.heap.size, 2, none⟩) (Nat.le_refl _) _
  have HBF := Lib.hid hbf
  have HW1 := Lib.hid hw1
  have HWF := Lib.hid hwf
  have cH := has_nil w1
  clear hb1 hx1 hw1 hwf hxf hbf
  go_enter Try.func11, Try.ntmps11
  go_upto_region 1 with fail
  rw [← HW1.out]
  go_wp2_with fail
  refine cH.mono ?_
  rintro e w2 ⟨rfl, rfl⟩
  clear cH
  go_wp2_with fail
  rw [← HWF.out]
  refine bodyPost_ret (v := .tuple #[zK.agg, .bool false]) (by clear r0 r1 r2 r3 r4 r5; unfold PK.agg zK; rw [results_ct rfl]; go_simp; try rfl) rfl ?_
  exact ⟨rfl, HBF.out⟩
/-- new bytes: noughts -/
theorem made_noughts (n : Nat) (hn : n ≤ 140737488355328) (w : World) : ∃ w', (Instr.makeSlice 32 (.int .i64 (n : Int)) (.int .i64 (n : Int))).run Try.prog w = .ok (.slice (some ⟨w.heap.size, 0, none⟩) n n) w' ∧ Rd w' w'.heap.size (.slice (some ⟨w.heap.size, 0, none⟩) n n) (List.replicate n 0) ∧ Below w.heap.size w w' := by
  obtain ⟨i0, hi, hz0, hz1, hz2⟩ := info_parts (show (Try.prog.info? 5).map (fun i => (i.zero, i.size, i.bytes)) = some (some (.int .u8 0), 1, 1) by kernel_rfl)
  obtain ⟨w', h1, h2, h3⟩ := run_make_full (P := Try.prog) w w.heap.size 32 5 i0 _ 1 Try.underlying32 hi hz0 hz1 .i64 .i64 n (by rw [hz2]; omega) (by unfold maxLen; omega) (Nat.le_refl _)
  have hBS : (madeCells (Value.int .u8 0).cells (n * 1)).toList = BS (List.replicate n 0) := by
    show (madeCells #[Value.int .u8 0] (n * 1)).toList = _
    rw [toList_madeCells_one]
    unfold BS
    rw [List.map_replicate, Nat.mul_one]
    rfl
  rw [hBS] at h2
  exact ⟨w', h1, Rd.own h2, (Below.refl _ _).grown h3 (Nat.le_refl _) (fun k h => by cases h)⟩
/-- another net, that a call leaves as it was -/
theorem PNetM.other {w w' : World} {B p q : Nat} {T U : TypeId} {v u : Value} {n m : NT} (h : PNetM w B q T U u m) (k : PNetM w B p T U v n) (hm : Moved p v w w') (hTU : T ≠ U) (hpq : q ≠ p) (huv : ∀ g, u.ownBlock = some g → v.ownBlock ≠ some g) : PNetM w' B q T U u m :=
  h.kept fun b hb hbq => by
    rcases hbq with rfl | hbu
    · exact hm b hb hpq (fun e => h.ty.ne (own_type k.row e) hTU rfl)
    · exact hm b hb (fun e => (own_type h.row hbu).ne k.ty hTU.symm e) (huv b hbu)
def big : PK := ⟨1, 2, ⟨(List.replicate 401 (0 : UInt8)).toArray⟩⟩
def fit : PK := ⟨1, 2, ⟨(List.replicate 400 (0 : UInt8)).toArray⟩⟩
def emp : PK := ⟨1, 2, ⟨([] : List UInt8).toArray⟩⟩
theorem n_1 : (NT.new 1000).send big = (NT.new 1000, 40) := by
  unfold NT.send
  rw [if_pos (show 400 < big.data.size by show 400 < (List.replicate 401 (0 : UInt8)).toArray.size; rw [List.size_toArray, List.length_replicate]; decide)]
theorem n_2 : (NT.new 1000).send fit = ((NT.new 1000).add fit) ∧ ((NT.new 1000).add fit).2 = 0 := by
  constructor
  · unfold NT.send
    rw [if_neg (show ¬ 400 < fit.data.size by show ¬ 400 < (List.replicate 400 (0 : UInt8)).toArray.size; rw [List.size_toArray, List.length_replicate]; decide)]
  · rfl
def nolost : NT := ⟨0, 1, []⟩
theorem n_3 : (NT.new 0).send emp = (nolost, 3) := rfl
set_option maxHeartbeats 4000000 in
set_option maxRecDepth 100000 in
theorem names_walk (w : World) : Calls Try.prog 4 #[] w fun e w' => e = .returned (.bool true) ∧ Below w.heap.size w w' := by
  have hzp := zero_pk
  go_enter Try.func4, Try.ntmps4
  go_wp2_with fail
  refine (look_nil w).mono ?_
  rintro e w1 ⟨he, hb1⟩
  have he : e = .returned (.tuple #[.agg #[.int .i64 0, .int .i64 0, .string ⟨#[]⟩], .bool false]) := he
  subst he
  obtain ⟨w2, hw2⟩ : ∃ w2, w2 = w1.alloc (.cells #[.int .i64 0, .int .i64 0, .string ⟨#[]⟩] 36) := ⟨_, rfl⟩
  have hb2 : Below w.heap.size w w2 := by rw [hw2]; exact hb1.alloc hb1.size _
  have HW2 := Lib.hid hw2
  clear hw2 hb1
  go_upto_region 3 with fail
  rw [← HW2.out]
  go_wp2_with fail
  refine (take_nil w2).mono ?_
  rintro e w3 ⟨he, hb3⟩
  have he : e = .returned (.tuple #[.agg #[.int .i64 0, .int .i64 0, .string ⟨#[]⟩], .bool false]) := he
  subst he
  obtain ⟨w4, hw4⟩ : ∃ w4, w4 = w3.alloc (.cells #[.int .i64 0, .int .i64 0, .string ⟨#[]⟩] 36) := ⟨_, rfl⟩
  have hb4 : Below w.heap.size w w4 := by
    have h := hb2.trans (Joins.below_le hb3 hb2.size)
    rw [hw4]; exact h.alloc h.size _
  have HW4 := Lib.hid hw4
  have HB4 := Lib.hid hb4
  clear hw4 hb4 hb3 hb2 HW2
  go_upto_region 4 with fail
  rw [← HW4.out]
  go_wp2_with fail
  refine (pnew_any 1001 w4).mono ?_
  rintro e w5 h
  rcases h with ⟨-, rfl, rfl⟩ | ⟨h, -⟩
  case inr => exact absurd h (show ¬ newErr 1001 = 0 by decide)
  go_wp2_with fail
  refine (pnew_any (-1) w5).mono ?_
  rintro e w6 h
  rcases h with ⟨-, rfl, rfl⟩ | ⟨h, -⟩
  case inr => exact absurd h (show ¬ newErr (-1) = 0 by decide)
  go_wp2_with fail
  refine (pnew_any 1000 w6).mono ?_
  rintro e w7 h
  rcases h with ⟨h, -⟩ | ⟨-, rfl, hN7, hb7⟩
  · exact absurd (show newErr 1000 = 0 from rfl) h
  have hN7 : PNetM w7 w6.heap.size w6.heap.size 58 36 (.slice none 0 0) (NT.new 1000) := hN7
  have hb6 := HB4.out
  have hs6 := hb6.size
  have hb7' := hb6.trans (Joins.below_le hb7 hs6)
  have hs7 := hN7.lt
  obtain ⟨p, hp⟩ : ∃ p, p = w6.heap.size := ⟨_, rfl⟩
  rw [← hp] at hN7 hs7 hs6 ⊢
  have HN7 := Lib.hid hN7
  have HB7 := Lib.hid hb7'
  clear hb7 hb7' hN7 hb6 HB4 hp
  go_wp2_with fail
  refine (pnew_any 0 w7).mono ?_
  rintro e w8 h
  rcases h with ⟨h, -⟩ | ⟨-, rfl, hN8, hb8⟩
  · exact absurd (show newErr 0 = 0 from rfl) h
  have hN8 : PNetM w8 w7.heap.size w7.heap.size 58 36 (.slice none 0 0) (NT.new 0) := hN8
  have hM8 := HN7.out.grow hb8
  have hb8' := HB7.out.trans (Joins.below_le hb8 HB7.out.size)
  have hs8 := hN8.lt
  obtain ⟨q, hq⟩ : ∃ q, q = w7.heap.size := ⟨_, rfl⟩
  rw [← hq] at hN8 hs8 hs7 ⊢
  have hN8' : PNetM w8 p q 58 36 (.slice none 0 0) (NT.new 0) := ⟨hN8.net, by omega, Rec.Own.none _ _ _ _⟩
  have HM8 := Lib.hid hM8
  have HN8 := Lib.hid hN8'
  have HB8 := Lib.hid hb8'
  clear hb8 hb8' hN8 hN8' hM8 HN7 HB7 hq
  go_wp2_with fail
  refine (send_nil w8).mono ?_
  rintro e wx ⟨rfl, rfl⟩
  go_wp2_with fail
  refine (double_nil wx).mono ?_
  rintro e wy ⟨rfl, rfl⟩
  go_wp2_with fail
  refine (len_nil wy).mono ?_
  rintro e wz ⟨rfl, rfl⟩
  go_wp2_with fail
  refine (lost_nil wz).mono ?_
  rintro e wx ⟨rfl, rfl⟩
  go_wp2_with fail
  refine (all_nil wx).mono ?_
  rintro e wy ⟨rfl, rfl⟩
  go_wp2_with fail
  refine (copy_nil wy).mono ?_
  rintro e w8 ⟨rfl, rfl⟩
  obtain ⟨w9, hmk9, hr9, hb9⟩ := made_noughts 401 (by omega) w8
  have hmk9' : (Instr.makeSlice 32 (.int .i64 401) (.int .i64 401)).run Try.prog w8 = .ok (.slice (some ⟨w8.heap.size, 0, none⟩) 401 401) w9 := hmk9
  have cS := psend_any (NT.new 1000) big _ _ _ 0 p p _ w9 (HM8.out.grow hb9) (NT.new_ok (by decide)) (by decide) (by have := hb9.size; omega) hr9 rfl
  rw [n_1] at cS
  have hB9 := HB8.out.trans (Joins.below_le hb9 HB8.out.size)
  have hN9 := HN8.out.grow hb9
  have hM9 := HM8.out.grow hb9
  have HM9 := Lib.hid hM9
  have HN9 := Lib.hid hN9
  have HB9 := Lib.hid hB9
  clear hmk9 hr9 hb9 hB9 hN9 hM9 HN8 HM8 HB8
  go_wp2_with fail
  refine cS.mono ?_
  rintro e wa ⟨rfl, va, hMa, hba, hma, hva⟩
  have hNa := HN9.out.other HM9.out hma types_P (by omega) (fun g hg => by cases hg)
  have hBa := HB9.out.trans (Joins.below_le hba hs6)
  obtain ⟨wb, hmkb, hrb, hbb⟩ := made_noughts 400 (by omega) wa
  have hmkb' : (Instr.makeSlice 32 (.int .i64 400) (.int .i64 400)).run Try.prog wa = .ok (.slice (some ⟨wa.heap.size, 0, none⟩) 400 400) wb := hmkb
  have hMb := hMa.grow hbb
  have cS2 := psend_any (NT.new 1000) fit _ _ _ 0 p p _ wb hMb (NT.new_ok (by decide)) (by decide) (by have := hMb.lt; omega) hrb rfl
  rw [n_2.1] at cS2
  obtain ⟨D, hD⟩ : ∃ D, D = (NT.new 1000).add fit := ⟨_, rfl⟩
  have hD2 : D.2 = 0 := by rw [hD]; exact n_2.2
  rw [← hD, hD2] at cS2
  have hNb := hNa.grow hbb
  have hBb := hBa.trans (Joins.below_le hbb hBa.size)
  have HMb := Lib.hid hMb
  have HNb := Lib.hid hNb
  have HBb := Lib.hid hBb
  clear hmkb hrb hbb hMb hNb hBb hNa hBa hMa hba hma hva cS hmk9' HM9 HN9 HB9 hD hD2
  go_wp2_with fail
  refine cS2.mono ?_
  rintro e wc' ⟨rfl, vc, hMc, hbc, hmc, hvc⟩
  have hNc := HNb.out.other HMb.out hmc types_P (by omega) (fun g hg => by cases hg)
  have hBc := HBb.out.trans (Joins.below_le hbc hs6)
  have cS3 := psend_any (NT.new 0) emp [] _ _ 0 p q _ wc' hNc (NT.new_ok (by decide)) (by decide) (by have := hNc.lt; omega) (Rd.nil wc' 0) rfl
  rw [n_3] at cS3
  have HBc := Lib.hid hBc
  clear hNc hBc hMc hbc hmc hvc cS2 hmkb' HMb HNb HBb
  go_wp2_with fail
  refine cS3.mono ?_
  rintro e wd ⟨rfl, vd, hNd, hbd, -, -⟩
  have cL := plost_any nolost _ _ _ wd hNd
  have hBd := HBc.out.trans (Joins.below_le hbd hs6)
  have HBd := Lib.hid hBd
  clear hNd hbd hBd cS3 HBc
  go_wp2_with fail
  refine cL.mono ?_
  rintro e we ⟨rfl, rfl⟩
  clear cL
  go_wp2_with fail
  refine (awake_any we).mono ?_
  rintro e wf ⟨rfl, hbf⟩
  have hBf := HBd.out.trans (Joins.below_le hbf HBd.out.size)
  have HBf := Lib.hid hBf
  clear hBf hbf HBd
  go_wp2_with fail
  go_ret
  exact ⟨rfl, HBf.out⟩
end Go.Proofs.Ytmnaekeecjlapaa
