/-
  Of two logs' ends one is as new; who waits, waits longer the greater its number: the law, walked. No statement is proved here. No condition.
-/
import Derived.Test.YtblbcoknefgcaaaBWorks
import Derived.Laws.StructEq
namespace Go.Proofs.Ytblbcoknefgcaaa
open Go.RowKit

theorem newer_iff {aT aI bT bI : Int} : newer aT aI bT bI = true ↔ aT > bT ∨ (aT = bT ∧ aI ≥ bI) := by
  by_cases h : aT = bT
  · subst h
    rw [newer_eq]
    simp
  · rw [newer_ne h]
    simp
    omega
theorem newer_no {aT aI bT bI : Int} (h : newer aT aI bT bI = false) : ¬ (aT > bT ∨ (aT = bT ∧ aI ≥ bI)) := fun e => by rw [newer_iff.2 e] at h; cases h
theorem rem_of (z : Int) (n : Nat) (hn : 0 < n) : ∃ r : Nat, r < n ∧ (IntKind.u64.wrap z).tmod (n : Int) = (r : Int) := by
  have hw : 0 ≤ IntKind.u64.wrap z := by rw [show IntKind.u64.wrap z = z % 18446744073709551616 by simp [IntKind.wrap, IntKind.bits, IntKind.signed]]; omega
  refine ⟨((IntKind.u64.wrap z).tmod (n : Int)).toNat, ?_, ?_⟩
  · have h1 := Int.tmod_lt_of_pos (IntKind.u64.wrap z) (show (0 : Int) < (n : Int) by omega)
    have h2 := Int.tmod_nonneg (n : Int) hw
    omega
  · exact (Int.toNat_of_nonneg (Int.tmod_nonneg _ hw)).symm
/-- two pairs of numbers, compared -/
theorem eq_pair (a b c d : Int) (w : World) : (Op.equalIn 10000 64 (.agg #[.int .i64 a, .int .i64 b]) (.agg #[.int .i64 c, .int .i64 d])).run Try.prog w = .ok (a == c && b == d) w := by
  have u3 := Try.underlying3
  have a3 := Try.isAgg3
  have z3 := Try.sizeOf3
  rw [show (10000 : Nat) = 9999 + 1 from rfl, Op.equalIn]
  simp only [Sem.run_bind, run_underlying Try.underlying64, Result.andThen_ok]
  simp only [Std.Legacy.Range.forIn_eq_forIn_range', Std.Legacy.Range.size, Nat.sub_zero, Nat.add_sub_cancel, Nat.div_one, List.range'_succ, List.range'_zero, List.forIn_cons, List.forIn_nil]
  go_simp
  by_cases h1 : a = c <;> by_cases h2 : b = d <;> simp [h1, h2]
set_option maxHeartbeats 8000000 in
set_option maxRecDepth 100000 in
theorem order_walk (a0 a1 b0 b1 c0 c1 s t : Int) (w : World) :
    Calls Try.prog 13 #[.agg #[.int .i64 a0, .int .i64 a1], .agg #[.int .i64 b0, .int .i64 b1], .agg #[.int .i64 c0, .int .i64 c1], .int .i64 s, .int .i64 t] w fun e w' => e = .returned (.bool true) ∧ Below w.heap.size w w' := by
  obtain ⟨w3, hw3⟩ : ∃ w3, w3 = ((w.alloc (.cells #[.int .i64 a0, .int .i64 a1] 64)).alloc (.cells #[.int .i64 b0, .int .i64 b1] 64)).alloc (.cells #[.int .i64 c0, .int .i64 c1] 64) := ⟨_, rfl⟩
  obtain ⟨hb3, hA, hB, hC⟩ : Below w.heap.size w w3 ∧ w3.heap[w.heap.size]? = some (.cells #[.int .i64 a0, .int .i64 a1] 64 (0, 0)) ∧ w3.heap[w.heap.size + 1]? = some (.cells #[.int .i64 b0, .int .i64 b1] 64 (0, 0)) ∧ w3.heap[w.heap.size + 1 + 1]? = some (.cells #[.int .i64 c0, .int .i64 c1] 64 (0, 0)) := by
    have h2 := two_lits w (.cells #[.int .i64 a0, .int .i64 a1] 64) (.cells #[.int .i64 b0, .int .i64 b1] 64)
    have h3 := heap_alloc_new ((w.alloc (.cells #[.int .i64 a0, .int .i64 a1] 64)).alloc (.cells #[.int .i64 b0, .int .i64 b1] 64)) (.cells #[.int .i64 c0, .int .i64 c1] 64)
    rw [hw3]
    refine ⟨h2.2.2.alloc h2.2.2.size _, ?_, ?_, ?_⟩
    · rw [Below.heap_alloc _ _ _ (by simp; omega)]
      exact h2.1
    · rw [Below.heap_alloc _ _ _ (by simp)]
      exact h2.2.1
    · rw [show ((w.alloc (.cells #[.int .i64 a0, .int .i64 a1] 64)).alloc (.cells #[.int .i64 b0, .int .i64 b1] 64)).heap.size = w.heap.size + 1 + 1 by simp] at h3
      exact h3
  obtain ⟨pa, hpa⟩ : ∃ pa, pa = w.heap.size := ⟨_, rfl⟩
  have HW := Lib.hid hw3
  have HPA := Lib.hid hpa
  rw [← hpa] at hA hB hC
  have HC : Hid (∀ W, Below w3.heap.size w3 W → Below w.heap.size w W ∧ (W.cell? ⟨pa, 0, none⟩ = some (.int .i64 a0) ∧ W.cell? ⟨pa, 1, none⟩ = some (.int .i64 a1)) ∧ (W.cell? ⟨pa + 1, 0, none⟩ = some (.int .i64 b0) ∧ W.cell? ⟨pa + 1, 1, none⟩ = some (.int .i64 b1)) ∧ (W.cell? ⟨pa + 1 + 1, 0, none⟩ = some (.int .i64 c0) ∧ W.cell? ⟨pa + 1 + 1, 1, none⟩ = some (.int .i64 c1))) := Lib.hid fun W hb => by
    have kA := (hb.block _ (lt_of_heap hA)).trans hA
    have kB := (hb.block _ (lt_of_heap hB)).trans hB
    have kC := (hb.block _ (lt_of_heap hC)).trans hC
    exact ⟨hb3.trans (Joins.below_le hb hb3.size), ⟨(blk_cells kA).1 0, (blk_cells kA).1 1⟩, ⟨(blk_cells kB).1 0, (blk_cells kB).1 1⟩, ⟨(blk_cells kC).1 0, (blk_cells kC).1 1⟩⟩
  have cW0 := works_any w3
  have HB0 := Lib.hid (Below.refl w3.heap.size w3)
  clear hb3 hA hB hC hw3 hpa
  go_enter Try.func13, Try.ntmps13
  go_upto_region 1 with fail
  rw [← HW.out, ← HPA.out]
  clear HW HPA
  go_wp2_with fail
  refine cW0.mono ?_
  rintro e w4 ⟨rfl, hb4⟩
  clear cW0
  have HB4 := Lib.hid hb4
  clear hb4 HB0
  obtain ⟨-, ⟨x0, x1⟩, ⟨x2, x3⟩, x4, x5⟩ := HC.out w4 HB4.out
  go_wp2_with fail
  refine (newer_any a0 a1 b0 b1 w4).mono ?_
  rintro e w5 ⟨rfl, hb5⟩
  have HB5 := Lib.hid (HB4.out.trans (Joins.below_le hb5 HB4.out.size))
  clear hb5 HB4 x0 x1 x2 x3 x4 x5
  obtain ⟨-, ⟨x0, x1⟩, ⟨x2, x3⟩, x4, x5⟩ := HC.out w5 HB5.out
  go_wp2_with fail
  refine (newer_any b0 b1 a0 a1 w5).mono ?_
  rintro e w6 ⟨rfl, hb6⟩
  have HB6 := Lib.hid (HB5.out.trans (Joins.below_le hb6 HB5.out.size))
  clear hb6 HB5 x0 x1 x2 x3 x4 x5
  obtain ⟨-, ⟨x0, x1⟩, ⟨x2, x3⟩, x4, x5⟩ := HC.out w6 HB6.out
  obtain ⟨ab, hab⟩ : ∃ ab, ab = newer a0 a1 b0 b1 := ⟨_, rfl⟩
  obtain ⟨ba, hba⟩ : ∃ ba, ba = newer b0 b1 a0 a1 := ⟨_, rfl⟩
  obtain ⟨ac, hac⟩ : ∃ ac, ac = newer a0 a1 c0 c1 := ⟨_, rfl⟩
  obtain ⟨bc, hbc⟩ : ∃ bc, bc = newer b0 b1 c0 c1 := ⟨_, rfl⟩
  rw [← hab, ← hba]
  have HN := Lib.hid (And.intro hab (And.intro hba (And.intro hac hbc)))
  clear hab hba hac hbc
  obtain ⟨r, hr, hrr⟩ := rem_of s 10000 (by decide)
  obtain ⟨q, hq, hqq⟩ := rem_of t 5 (by decide)
  have k1 : wrap64 ((IntKind.u64.wrap s).tmod 10000) = (r : Int) := by rw [show (10000 : Int) = ((10000 : Nat) : Int) from rfl, hrr]; unfold wrap64; omega
  have k2 : wrap64 (1 + wrap64 ((IntKind.u64.wrap t).tmod 5)) = ((q + 1 : Nat) : Int) := by rw [show (5 : Int) = ((5 : Nat) : Int) from rfl, hqq]; unfold wrap64; omega
  obtain ⟨sr, hsr⟩ : ∃ sr, sr = wrap64 ((IntKind.u64.wrap s).tmod 10000) := ⟨_, rfl⟩
  obtain ⟨tr, htr⟩ : ∃ tr, tr = wrap64 (1 + wrap64 ((IntKind.u64.wrap t).tmod 5)) := ⟨_, rfl⟩
  have HK := Lib.hid (And.intro (hsr.trans k1) (And.intro (htr.trans k2) (And.intro hr hq)))
  have HST := Lib.hid (And.intro hsr htr)
  clear hr hrr hq hqq k1 k2 hsr htr
  have htail : ∀ W, Below w3.heap.size w3 W → (Calls Try.prog 29 #[.int .i64 sr, .int .i64 1] W fun e w' => e = .returned (.int .i64 sr) ∧ W = w') ∧ (Calls Try.prog 29 #[.int .i64 sr, .int .i64 (wrap64 (tr + 1))] W fun e w' => e = .returned (.int .i64 (sr + tr)) ∧ W = w') ∧ (Calls Try.prog 29 #[.int .i64 sr, .int .i64 tr] W fun e w' => e = .returned (.int .i64 (sr + tr - 1)) ∧ W = w') := fun W _ => by
    obtain ⟨h1, h2, h3, h4⟩ := HK.out
    have e1 : wrap64 (tr + 1) = tr + 1 := by unfold wrap64; omega
    have c1 := patience_any sr 1 W (by omega) (by omega)
    have c2 := patience_any sr (tr + 1) W (by omega) (by omega)
    have c3 := patience_any sr tr W (by omega) (by omega)
    rw [show sr + 1 - 1 = sr by omega] at c1
    rw [show sr + (tr + 1) - 1 = sr + tr by omega] at c2
    rw [e1]
    exact ⟨c1, c2, c3⟩
  have HT := Lib.hid htail
  have e9 : (sr + tr == wrap64 (sr + tr)) = true := by
    obtain ⟨h1, h2, h3, h4⟩ := HK.out
    rw [show wrap64 (sr + tr) = sr + tr by unfold wrap64; omega]
    exact beq_self_eq_true _
  have E9 := Lib.hid e9
  clear htail HK e9
  cases ab
  · obtain rfl : ba = true := by
      cases ba
      · have h1 := newer_no HN.out.1.symm
        have h2 := newer_no HN.out.2.1.symm
        omega
      · rfl
    go_wp2_with fail
    rw [← HST.out.1, ← HST.out.2]
    clear HST x0 x1 x2 x3 x4 x5
    obtain ⟨c1, c2, c3⟩ := HT.out w6 HB6.out
    refine c1.mono ?_
    rintro e w' ⟨rfl, rfl⟩
    clear c1
    go_wp2_with fail
    refine c2.mono ?_
    rintro e w' ⟨rfl, rfl⟩
    clear c2
    go_wp2_with fail
    refine c3.mono ?_
    rintro e w' ⟨rfl, rfl⟩
    clear c3
    go_wp2_with fail
    go_ret
    refine ⟨?_, (HC.out _ HB6.out).1⟩
    show Ending.returned (Value.bool (sr + tr == wrap64 (sr + tr))) = _
    rw [E9.out]
  · have cBC := newer_any b0 b1 c0 c1 w6
    rw [← HN.out.2.2.2] at cBC
    obtain ⟨eb, heb⟩ : ∃ eb, eb = (a0 == b0 && a1 == b1) := ⟨_, rfl⟩
    have hE := eq_pair a0 a1 b0 b1 w6
    rw [← heb] at hE
    obtain rfl : ba = eb := by
      rw [heb, Bool.eq_iff_iff]
      have h1 := newer_iff.1 HN.out.1.symm
      rw [HN.out.2.1, newer_iff]
      simp
      omega
    have HAC : Hid (bc = true → ac = true) := Lib.hid fun h => by
      subst h
      rw [HN.out.2.2.1, newer_iff]
      have h1 := newer_iff.1 HN.out.1.symm
      have h2 := newer_iff.1 HN.out.2.2.2.symm
      omega
    have HE := Lib.hid hE
    have HBC := Lib.hid cBC
    have cAC : ∀ W, Calls Try.prog 27 #[.int .i64 a0, .int .i64 a1, .int .i64 c0, .int .i64 c1] W fun e w' => e = .returned (.bool ac) ∧ Below W.heap.size W w' := fun W => by
      have := newer_any a0 a1 c0 c1 W
      rw [← HN.out.2.2.1] at this
      exact this
    have HCA := Lib.hid cAC
    clear heb cBC cAC HN
    go_wp2_with fail
    refine HBC.out.mono ?_
    rintro e w7 ⟨rfl, hb7⟩
    have HB7 := Lib.hid (HB6.out.trans (Joins.below_le hb7 HB6.out.size))
    clear hb7 x0 x1 x2 x3 x4 x5
    obtain ⟨-, ⟨x0, x1⟩, ⟨x2, x3⟩, x4, x5⟩ := HC.out w7 HB7.out
    cases bc
    · go_wp2_with fail
      rw [← HST.out.1, ← HST.out.2]
      clear HST x0 x1 x2 x3 x4 x5
      obtain ⟨c1, c2, c3⟩ := HT.out w7 HB7.out
      refine c1.mono ?_
      rintro e w' ⟨rfl, rfl⟩
      clear c1
      go_wp2_with fail
      refine c2.mono ?_
      rintro e w' ⟨rfl, rfl⟩
      clear c2
      go_wp2_with fail
      refine c3.mono ?_
      rintro e w' ⟨rfl, rfl⟩
      clear c3
      go_wp2_with fail
      go_ret
      refine ⟨?_, (HC.out _ HB7.out).1⟩
      show Ending.returned (Value.bool (sr + tr == wrap64 (sr + tr))) = _
      rw [E9.out]
    · obtain rfl := HAC.out rfl
      go_wp2_with fail
      refine (HCA.out w7).mono ?_
      rintro e w8 ⟨rfl, hb8⟩
      have HB8 := Lib.hid (HB7.out.trans (Joins.below_le hb8 HB7.out.size))
      clear hb8
      go_wp2_with fail
      rw [← HST.out.1, ← HST.out.2]
      clear HST x0 x1 x2 x3 x4 x5
      obtain ⟨c1, c2, c3⟩ := HT.out w8 HB8.out
      refine c1.mono ?_
      rintro e w' ⟨rfl, rfl⟩
      clear c1
      go_wp2_with fail
      refine c2.mono ?_
      rintro e w' ⟨rfl, rfl⟩
      clear c2
      go_wp2_with fail
      refine c3.mono ?_
      rintro e w' ⟨rfl, rfl⟩
      clear c3
      go_wp2_with fail
      go_ret
      refine ⟨?_, (HC.out _ HB8.out).1⟩
      show Ending.returned (Value.bool (sr + tr == wrap64 (sr + tr))) = _
      rw [E9.out]
end Go.Proofs.Ytblbcoknefgcaaa
