/-
  PartsApart walked. No statement is proved here. Condition: the table reads as the program lays it.
-/
import Derived.Test.YtfmaocinckeagaaDoorQNothing
namespace Go.Proofs.YtfmaocinckeagaaDoor
open Go.RowKit

/-- what is kept of a message of which the first i parts have come -/
def stP (key : Key) (l : List UInt8) (i : Nat) : Option KP := if i < many l then hasP key l (upT i) else none
theorem stP_zero (key : Key) (l : List UInt8) : stP key l 0 = none := by
  unfold stP
  rw [upT_zero, hasP_no]
  split <;> rfl
theorem stP_end {key : Key} {l : List UInt8} {i : Nat} (h : many l ≤ i) : stP key l i = none := if_neg (by omega)
theorem upT_dec {m i : Nat} (h : i < m) : allT m (upT (i + 1)) = decide (i + 1 = m) := by
  by_cases he : i + 1 = m
  · rw [decide_eq_true he, he]; exact upT_all m
  · rw [decide_eq_false he]; exact upT_not (by omega)
/-- the next packet of a message taken -/
theorem jtake_up {w : World} {G : Nat → Prop} {j mb n : Nat} {J : List KP} (h : JHas w G j mb n J) (hJ : J.length < 16) {l : List UInt8} {f : Int} {nr i : Nat} (hf : I64 f) (hnr : nr ≤ 2147483647) (hlk : look J (f, (nr : Int)) = stP (f, (nr : Int)) l i) (hi : i < many l) (hl : l.length ≤ 8192)
    (v : Value) (ht : Tab w) (hv : Rd w w.heap.size v (pkt nr i (many l) (piece l i))) (hn : n < maxLen) (hfr : ∀ b, w.heap.size ≤ b → G b) :
    Calls Tryd.prog 13 #[.pointer (some ⟨j, 0, none⟩), .int .i64 f, v] w fun r w' => ∃ v' k J', r = .returned (.tuple #[v', .bool (decide (i + 1 = many l)), .int .i64 0]) ∧ w'.ownsRow w.heap.size 5 1 v' k (BS (if i + 1 = many l then l else [])) ∧ JHas w' G j mb (n + 1) J' ∧ Kept w w' G ∧
      ∀ q, look J' q = if (f, (nr : Int)) = q then stP (f, (nr : Int)) l (i + 1) else look J q := by
  have hlk' : look J (f, (nr : Int)) = hasP (f, (nr : Int)) l (upT i) := by rw [hlk]; exact if_pos hi
  have c := jtake_cut h hJ hf hnr hlk' hi (upT_not hi) hl v ht hv hn hfr
  rw [upT_succ, upT_dec hi] at c
  refine c.mono fun r w' hpost => ?_
  obtain ⟨v', k, J', e1, e2, e3, e4, e5⟩ := hpost
  refine ⟨v', k, J', e1, ?_, e3, e4, fun q => ?_⟩
  · by_cases he : i + 1 = many l
    · simpa [he] using e2
    · simpa [he] using e2
  · rw [e5 q]
    congr 1
    unfold stP
    by_cases he : i + 1 = many l
    · rw [if_pos (by simpa using he), if_neg (by omega)]
    · rw [if_neg (by simpa using he), if_pos (by omega)]
set_option maxHeartbeats 16000000 in
set_option maxRecDepth 100000 in
theorem apart_true (a b : List UInt8) (v u : Value) (w : World) (ht : Tab w) (hv : Rd w w.heap.size v a) (hu : Rd w w.heap.size u b) (ha : a.length ≤ 140737488351232) (hb : b.length ≤ 140737488351232) :
    Calls Tryd.prog 8 #[v, u, .bool true] w fun r w' => r = .returned (.bool true) ∧ Below w.heap.size w w' := by
  have cW := works_any w ht
  have HV := Lib.hid hv
  have HU := Lib.hid hu
  have HT := Lib.hid ht
  obtain ⟨A, c, rfl, -⟩ := hv
  obtain ⟨A2, c2, rfl, -⟩ := hu
  clear ht
  by_cases h8 : 8192 < a.length
  · have a1 : (8192 : Int) < (a.length : Int) := by omega
    go_enter Tryd.func8, Tryd.ntmps8
    go_wp2_with fail
    refine cW.mono ?_
    rintro r w1 ⟨rfl, hb1⟩
    have cW2 := works_any w1 (HT.out.below hb1 HT.out.1)
    have HB1 := Lib.hid hb1
    clear cW hb1
    go_wp2_with fail
    refine cW2.mono ?_
    rintro r w2 ⟨rfl, hb2⟩
    have HB2 := Lib.hid (HB1.out.trans (Joins.below_le hb2 HB1.out.size))
    clear cW2 hb2
    go_wp2_with fail
    go_ret
    exact ⟨rfl, HB2.out⟩
  · have a1 : ¬ (8192 : Int) < (a.length : Int) := by omega
    by_cases h9 : 8192 < b.length
    · have a2 : (8192 : Int) < (b.length : Int) := by omega
      go_enter Tryd.func8, Tryd.ntmps8
      go_wp2_with fail
      refine cW.mono ?_
      rintro r w1 ⟨rfl, hb1⟩
      have cW2 := works_any w1 (HT.out.below hb1 HT.out.1)
      have HB1 := Lib.hid hb1
      clear cW hb1
      go_wp2_with fail
      refine cW2.mono ?_
      rintro r w2 ⟨rfl, hb2⟩
      have HB2 := Lib.hid (HB1.out.trans (Joins.below_le hb2 HB1.out.size))
      clear cW2 hb2
      go_wp2_with fail
      go_ret
      exact ⟨rfl, HB2.out⟩
    · have a2 : ¬ (8192 : Int) < (b.length : Int) := by omega
      have ha8 : a.length ≤ 8192 := by omega
      have hb8 : b.length ≤ 8192 := by omega
      have hE := cutErr_ok (n := 3) (l := a) (by omega) ha8
      have hE2 := cutErr_ok (n := 4) (l := b) (by omega) hb8
      obtain ⟨hLl, hLi⟩ := cutP_ok (n := 3) (l := a) (by omega) ha8
      obtain ⟨hNl, hNi⟩ := cutP_ok (n := 4) (l := b) (by omega) hb8
      obtain ⟨M, hM⟩ : ∃ M, M = many a := ⟨_, rfl⟩
      obtain ⟨M2, hMM⟩ : ∃ M2, M2 = many b := ⟨_, rfl⟩
      have hM2 : M ≤ 22 := by rw [hM]; exact many_small ha8
      have hM3 : M2 ≤ 22 := by rw [hMM]; exact many_small hb8
      have cC := fun W (hb : Below w.heap.size w W) => cut_any ((3 : Nat) : Int) a (.slice A a.length c) W (HT.out.below hb HT.out.1) (HV.out.below hb hb.size) (by omega)
      have cD := fun W (hb : Below w.heap.size w W) => cut_any ((4 : Nat) : Int) b (.slice A2 b.length c2) W (HT.out.below hb HT.out.1) (HU.out.below hb hb.size) (by omega)
      rw [hE] at cC
      rw [hE2] at cD
      obtain ⟨L, hL⟩ : ∃ L, L = cutP ((3 : Nat) : Int) a := ⟨_, rfl⟩
      obtain ⟨N, hN⟩ : ∃ N, N = cutP ((4 : Nat) : Int) b := ⟨_, rfl⟩
      rw [← hL] at cC hLl hLi
      rw [← hN] at cD hNl hNi
      rw [← hM] at hLl hLi
      rw [← hMM] at hNl hNi
      have HLI := Lib.hid hLi
      have HNI := Lib.hid hNi
      have HM := Lib.hid hM
      have HMM := Lib.hid hMM
      have HA8 := Lib.hid ha8
      have HB8 := Lib.hid hb8
      clear hE hE2 hL hN hLi hNi hM hMM h8 h9 ha hb ha8 hb8
      go_enter Tryd.func8, Tryd.ntmps8
      go_wp2_with fail
      refine cW.mono ?_
      rintro r w1 ⟨rfl, hb1⟩
      have cC1 := cC w1 hb1
      rw [show (((3 : Nat) : Int)) = 3 from rfl] at cC1
      have HB1 := Lib.hid hb1
      clear cW hb1 cC
      go_wp2_with fail
      refine cC1.mono ?_
      rintro r w2 ⟨vl, ss, rfl, hC, hb2⟩
      have hP2 := Pks.of hC
      obtain ⟨Al, cl, rfl⟩ := hC.slice
      rw [hLl] at hP2
      rw [hLl]
      have hB2 := HB1.out.trans (Joins.below_le hb2 HB1.out.size)
      have cD1 := cD w2 hB2
      rw [show (((4 : Nat) : Int)) = 4 from rfl] at cD1
      have HP2 := Lib.hid hP2
      have HB2 := Lib.hid hB2
      clear cC1 hC hb2 hP2 hB2 cD
      go_wp2_with fail
      refine cD1.mono ?_
      rintro r w3 ⟨vn, tt, rfl, hD, hb3⟩
      have hQ3 := Pks.of hD
      obtain ⟨An, cn, rfl⟩ := hD.slice
      rw [hNl] at hQ3
      rw [hNl]
      obtain ⟨C, hCe⟩ : ∃ C, C = w3.heap.size := ⟨_, rfl⟩
      rw [← hCe] at hQ3
      have hP3 := HP2.out.below hb3 (Nat.le_refl _)
      have hP3C : Pks w3 C (.slice Al M cl) L := hP3.wider (by rw [hCe]; exact hb3.size)
      have hB3 := HB2.out.trans (Joins.below_le hb3 HB2.out.size)
      have hwC : w.heap.size ≤ C := by rw [hCe]; exact hB3.size
      have HP3 := Lib.hid hP3C
      have HQ3 := Lib.hid hQ3
      have HB3 := Lib.hid hB3
      have HCE := Lib.hid hCe
      clear cD1 hD hb3 hP3 hP3C hB3 hCe hQ3
      go_wp2_with fail
      refine (jnew_any w3).mono ?_
      rintro r w4 ⟨j, mb, rfl, hJ4, hb4⟩
      rw [← HCE.out] at hJ4 hb4
      have HB4 := Lib.hid (HB3.out.trans (Joins.below_le hb4 hwC))
      have HP4 := Lib.hid (HP3.out.below (by rw [← HCE.out]; exact hb4) (by rw [HCE.out]; exact Nat.le_refl _))
      have HQ4 := Lib.hid (HQ3.out.below (by rw [← HCE.out]; exact hb4) (by rw [HCE.out]; exact Nat.le_refl _))
      have HJ4 : Hid (∃ J n, JHas w4 (fun b => C ≤ b) j mb n J ∧ n ≤ 2 * 0 ∧ look J (1, 3) = stP (1, 3) a 0 ∧ look J (1, 4) = stP (1, 4) b 0 ∧ ∀ q, q ≠ (1, 3) → q ≠ (1, 4) → look J q = none) := Lib.hid ⟨[], 0, hJ4, by omega, by rw [stP_zero]; rfl, by rw [stP_zero]; rfl, fun _ _ _ => rfl⟩
      have hs4 : C ≤ w4.heap.size := by rw [HCE.out]; exact hb4.size
      clear hJ4 hb4
      have hC0 : 0 < C := Nat.lt_of_lt_of_le HT.out.1 hwC
      have hne : ((1 : Int), (3 : Int)) ≠ (1, 4) := by decide
      go_wp2_with fail
      go_loopw [14, 15, 16, 17, 18, 19, 20] (fun s14 _ _ _ _ _ _ wr => ∃ i : Nat, s14 = .int .i64 (i : Int) ∧ i ≤ 22 ∧ Hid (∃ J n, JHas wr (fun b => C ≤ b) j mb n J ∧ n ≤ 2 * i ∧ look J (1, 3) = stP (1, 3) a i ∧ look J (1, 4) = stP (1, 4) b i ∧ ∀ q, q ≠ (1, 3) → q ≠ (1, 4) → look J q = none) ∧ Hid (Pks wr C (.slice Al M cl) L) ∧ Hid (Pks wr C (.slice An M2 cn) N) ∧ Hid (Below w.heap.size w wr) ∧ Hid (C ≤ wr.heap.size)) (fun s14 _ _ _ _ _ _ _ => 22 - (intOf s14).toNat)
      case atStart => exact ⟨0, rfl, Nat.zero_le _, HJ4, HP4, HQ4, HB4, Lib.hid hs4⟩
      case round =>
        clear HJ4 HP4 HQ4 HB4 hs4
        obtain ⟨i, rfl, hi, hJ, hP, hQ, hB, hS⟩ := hrel
        obtain ⟨wz, hwz⟩ : ∃ wz : World, wz = wr := ⟨_, rfl⟩
        subst hwz
        have b0 : (0 : Int) ≤ (i : Int) := by omega
        by_cases hor : i < M ∨ i < M2
        · have hi22 : i < 22 := by omega
          by_cases hiM : i < M
          · have b1 : (i : Int) < (M : Int) := by omega
            go_upto_if 68 with fail
            go_cut [14, 15, 16, 17] (fun s14 _ _ _ wx => s14 = .int .i64 (i : Int) ∧ Hid (∃ J n, JHas wx (fun b => C ≤ b) j mb n J ∧ n ≤ 2 * i + 1 ∧ look J (1, 3) = stP (1, 3) a (i + 1) ∧ look J (1, 4) = stP (1, 4) b i ∧ ∀ q, q ≠ (1, 3) → q ≠ (1, 4) → look J q = none) ∧ Hid (Pks wx C (.slice Al M cl) L) ∧ Hid (Pks wx C (.slice An M2 cn) N) ∧ Hid (Below w.heap.size w wx) ∧ Hid (C ≤ wx.heap.size))
            case first =>
              obtain ⟨J, n, hJH, hn, hka, hkb, hoth⟩ := hJ.out
              obtain ⟨b', o, n', k', Ai, ci, hvi, hci, hri⟩ := hP.out.at_ (HLI.out i hiM)
              injection hvi with e2 e3 e4
              subst e2
              have hpk := HLI.out i hiM
              rw [HM.out] at hri hci
              have cT := jtake_up hJH (by have := two_keys hJH.nodup hoth; omega) (f := 1) (nr := 3) (by unfold I64; omega) (by omega) hka (by rw [← HM.out]; exact hiM) HA8.out (.slice Ai (pkt 3 i (many a) (piece a i)).length ci) (HT.out.below hB.out HT.out.1) (hri.keep hS.out fun _ _ => rfl) (by unfold maxLen; omega) (fun b hb => Nat.le_trans hS.out hb)
              rw [← HM.out] at cT hci
              clear hri hpk e3 e4 hJH
              go_wp2_with fail
              refine cT.mono ?_
              rintro r w5 ⟨v5, k5, J5, rfl, ho5, hJ5, hK5, hl5⟩
              clear cT hci
              have HP5 := Lib.hid (hP.out.kept hK5 (fun b hb => by omega) hS.out)
              have HQ5 := Lib.hid (hQ.out.kept hK5 (fun b hb => by omega) hS.out)
              have HS5 := Lib.hid (Nat.le_trans hS.out hK5.size)
              have HB5 := Lib.hid (hB.out.trans (hK5.below (B := w.heap.size) hB.out.size (fun b hb => Nat.le_trans hwC hb)))
              obtain ⟨A5, c5, hv5⟩ := own_slice ho5
              subst hv5
              have HJ5 : Hid (∃ J n, JHas w5 (fun b => C ≤ b) j mb n J ∧ n ≤ 2 * i + 1 ∧ look J (1, 3) = stP (1, 3) a (i + 1) ∧ look J (1, 4) = stP (1, 4) b i ∧ ∀ q, q ≠ (1, 3) → q ≠ (1, 4) → look J q = none) := Lib.hid ⟨J5, n + 1, hJ5, by omega, by rw [hl5 (1, 3), if_pos (show ((1 : Int), ((3 : Nat) : Int)) = (1, 3) from rfl)]; rfl, by rw [hl5 (1, 4), if_neg (show ¬ ((1 : Int), ((3 : Nat) : Int)) = (1, 4) from hne)]; exact hkb, fun q h1 h2 => by rw [hl5 q, if_neg (fun e => h1 e.symm)]; exact hoth q h1 h2⟩
              by_cases hlast : i + 1 = M
              · rw [if_pos hlast] at ho5
                have hk5 := ho5.1
                rw [BS_length] at hk5
                have hcv : (convert 27 9 (.slice A5 k5 c5)).run Tryd.prog w5 = .ok (.string (tx a)) w5 := conv_str (Rd.own ho5)
                have hcw : (convert 27 9 (.slice A a.length c)).run Tryd.prog w5 = .ok (.string (tx a)) w5 := conv_str (HV.out.below HB5.out HB5.out.size)
                have d1 : (i : Int) = (M : Int) - 1 := by omega
                have d2 : ((i : Int) == (M : Int) - 1) = true := by rw [d1]; simp
                rw [decide_eq_true hlast]
                clear hJ5 hK5 hl5 ho5 hk5 hlast
                go_wp2_with fail
                go_meet
                exact ⟨by first | rfl | rw [d1], HJ5, HP5, HQ5, HB5, HS5⟩
              · have d1 : ¬ (i : Int) = (M : Int) - 1 := by omega
                have d2 : ((i : Int) == (M : Int) - 1) = false := by rw [beq_eq_false_iff_ne]; exact d1
                rw [decide_eq_false hlast]
                clear hJ5 hK5 hl5 ho5 hlast
                go_wp2_with fail
                go_meet
                exact ⟨by first | rfl | rw [d1], HJ5, HP5, HQ5, HB5, HS5⟩
            case rest =>
              clear hJ hP hQ hB hS
              obtain ⟨rfl, hJ, hP, hQ, hB, hS⟩ := hcut
              obtain ⟨wy, hwy⟩ : ∃ wy : World, wy = wc := ⟨_, rfl⟩
              subst hwy
              obtain ⟨J, n, hJH, hn, hka, hkb, hoth⟩ := hJ.out
              by_cases hiN : i < M2
              · have b3 : (i : Int) < (M2 : Int) := by omega
                obtain ⟨b', o, n', k', Ai, ci, hvi, hci, hri⟩ := hQ.out.at_ (HNI.out i hiN)
                injection hvi with e2 e3 e4
                subst e2
                have hpk := HNI.out i hiN
                rw [HMM.out] at hri hci
                have cT := jtake_up hJH (by have := two_keys hJH.nodup hoth; omega) (f := 1) (nr := 4) (by unfold I64; omega) (by omega) hkb (by rw [← HMM.out]; exact hiN) HB8.out (.slice Ai (pkt 4 i (many b) (piece b i)).length ci) (HT.out.below hB.out HT.out.1) (hri.keep hS.out fun _ _ => rfl) (by unfold maxLen; omega) (fun b hb => Nat.le_trans hS.out hb)
                rw [← HMM.out] at cT hci
                clear hri hpk e3 e4 hJH
                go_wp2_with fail
                refine cT.mono ?_
                rintro r w5 ⟨v5, k5, J5, rfl, ho5, hJ5, hK5, hl5⟩
                clear cT hci
                have HP5 := Lib.hid (hP.out.kept hK5 (fun b hb => by omega) hS.out)
                have HQ5 := Lib.hid (hQ.out.kept hK5 (fun b hb => by omega) hS.out)
                have HS5 := Lib.hid (Nat.le_trans hS.out hK5.size)
                have HB5 := Lib.hid (hB.out.trans (hK5.below (B := w.heap.size) hB.out.size (fun b hb => Nat.le_trans hwC hb)))
                obtain ⟨A5, c5, hv5⟩ := own_slice ho5
                subst hv5
                have HJ5 : Hid (∃ J n, JHas w5 (fun b => C ≤ b) j mb n J ∧ n ≤ 2 * (i + 1) ∧ look J (1, 3) = stP (1, 3) a (i + 1) ∧ look J (1, 4) = stP (1, 4) b (i + 1) ∧ ∀ q, q ≠ (1, 3) → q ≠ (1, 4) → look J q = none) := Lib.hid ⟨J5, n + 1, hJ5, by omega, by rw [hl5 (1, 3), if_neg (show ¬ ((1 : Int), ((4 : Nat) : Int)) = (1, 3) from Ne.symm hne)]; exact hka, by rw [hl5 (1, 4), if_pos (show ((1 : Int), ((4 : Nat) : Int)) = (1, 4) from rfl)]; rfl, fun q h1 h2 => by rw [hl5 q, if_neg (fun e => h2 e.symm)]; exact hoth q h1 h2⟩
                by_cases hlast : i + 1 = M2
                · rw [if_pos hlast] at ho5
                  have hk5 := ho5.1
                  rw [BS_length] at hk5
                  have hcv : (convert 27 9 (.slice A5 k5 c5)).run Tryd.prog w5 = .ok (.string (tx b)) w5 := conv_str (Rd.own ho5)
                  have hcw : (convert 27 9 (.slice A2 b.length c2)).run Tryd.prog w5 = .ok (.string (tx b)) w5 := conv_str (HU.out.below HB5.out HB5.out.size)
                  have d1 : (i : Int) = (M2 : Int) - 1 := by omega
                  have d2 : ((i : Int) == (M2 : Int) - 1) = true := by rw [d1]; simp
                  rw [decide_eq_true hlast]
                  clear hJ5 hK5 hl5 ho5 hk5 hlast
                  go_wp2_with fail
                  exact ⟨⟨i + 1, by go_num, by omega, HJ5, HP5, HQ5, HB5, HS5⟩, by simp [intOf]; omega⟩
                · have d1 : ¬ (i : Int) = (M2 : Int) - 1 := by omega
                  have d2 : ((i : Int) == (M2 : Int) - 1) = false := by rw [beq_eq_false_iff_ne]; exact d1
                  rw [decide_eq_false hlast]
                  clear hJ5 hK5 hl5 ho5 hlast
                  go_wp2_with fail
                  exact ⟨⟨i + 1, by go_num, by omega, HJ5, HP5, HQ5, HB5, HS5⟩, by simp [intOf]; omega⟩
              · have b3 : ¬ (i : Int) < (M2 : Int) := by omega
                have HJ5 : Hid (∃ J n, JHas wy (fun b => C ≤ b) j mb n J ∧ n ≤ 2 * (i + 1) ∧ look J (1, 3) = stP (1, 3) a (i + 1) ∧ look J (1, 4) = stP (1, 4) b (i + 1) ∧ ∀ q, q ≠ (1, 3) → q ≠ (1, 4) → look J q = none) := Lib.hid ⟨J, n, hJH, by omega, hka, by rw [hkb, stP_end (by rw [← HMM.out]; omega), stP_end (by rw [← HMM.out]; omega)], hoth⟩
                clear hJH hn hka hkb hoth
                go_wp2_with fail
                exact ⟨⟨i + 1, by go_num, by omega, HJ5, hP, hQ, hB, hS⟩, by simp [intOf]; omega⟩
          · have b1 : ¬ (i : Int) < (M : Int) := by omega
            have b2 : (i : Int) < (M2 : Int) := by omega
            go_upto_if 68 with fail
            go_cut [14, 15, 16, 17] (fun s14 _ _ _ wx => s14 = .int .i64 (i : Int) ∧ Hid (∃ J n, JHas wx (fun b => C ≤ b) j mb n J ∧ n ≤ 2 * i + 1 ∧ look J (1, 3) = stP (1, 3) a (i + 1) ∧ look J (1, 4) = stP (1, 4) b i ∧ ∀ q, q ≠ (1, 3) → q ≠ (1, 4) → look J q = none) ∧ Hid (Pks wx C (.slice Al M cl) L) ∧ Hid (Pks wx C (.slice An M2 cn) N) ∧ Hid (Below w.heap.size w wx) ∧ Hid (C ≤ wx.heap.size))
            case first =>
              obtain ⟨J, n, hJH, hn, hka, hkb, hoth⟩ := hJ.out
              have HJ5 : Hid (∃ J n, JHas wz (fun b => C ≤ b) j mb n J ∧ n ≤ 2 * i + 1 ∧ look J (1, 3) = stP (1, 3) a (i + 1) ∧ look J (1, 4) = stP (1, 4) b i ∧ ∀ q, q ≠ (1, 3) → q ≠ (1, 4) → look J q = none) := Lib.hid ⟨J, n, hJH, by omega, by rw [hka, stP_end (by rw [← HM.out]; omega), stP_end (by rw [← HM.out]; omega)], hkb, hoth⟩
              clear hJH hn hka hkb hoth
              go_wp2_with fail
              go_meet
              exact ⟨rfl, HJ5, hP, hQ, hB, hS⟩
            case rest =>
              clear hJ hP hQ hB hS
              obtain ⟨rfl, hJ, hP, hQ, hB, hS⟩ := hcut
              obtain ⟨wy, hwy⟩ : ∃ wy : World, wy = wc := ⟨_, rfl⟩
              subst hwy
              obtain ⟨J, n, hJH, hn, hka, hkb, hoth⟩ := hJ.out
              by_cases hiN : i < M2
              · have b3 : (i : Int) < (M2 : Int) := by omega
                obtain ⟨b', o, n', k', Ai, ci, hvi, hci, hri⟩ := hQ.out.at_ (HNI.out i hiN)
                injection hvi with e2 e3 e4
                subst e2
                have hpk := HNI.out i hiN
                rw [HMM.out] at hri hci
                have cT := jtake_up hJH (by have := two_keys hJH.nodup hoth; omega) (f := 1) (nr := 4) (by unfold I64; omega) (by omega) hkb (by rw [← HMM.out]; exact hiN) HB8.out (.slice Ai (pkt 4 i (many b) (piece b i)).length ci) (HT.out.below hB.out HT.out.1) (hri.keep hS.out fun _ _ => rfl) (by unfold maxLen; omega) (fun b hb => Nat.le_trans hS.out hb)
                rw [← HMM.out] at cT hci
                clear hri hpk e3 e4 hJH
                go_wp2_with fail
                refine cT.mono ?_
                rintro r w5 ⟨v5, k5, J5, rfl, ho5, hJ5, hK5, hl5⟩
                clear cT hci
                have HP5 := Lib.hid (hP.out.kept hK5 (fun b hb => by omega) hS.out)
                have HQ5 := Lib.hid (hQ.out.kept hK5 (fun b hb => by omega) hS.out)
                have HS5 := Lib.hid (Nat.le_trans hS.out hK5.size)
                have HB5 := Lib.hid (hB.out.trans (hK5.below (B := w.heap.size) hB.out.size (fun b hb => Nat.le_trans hwC hb)))
                obtain ⟨A5, c5, hv5⟩ := own_slice ho5
                subst hv5
                have HJ5 : Hid (∃ J n, JHas w5 (fun b => C ≤ b) j mb n J ∧ n ≤ 2 * (i + 1) ∧ look J (1, 3) = stP (1, 3) a (i + 1) ∧ look J (1, 4) = stP (1, 4) b (i + 1) ∧ ∀ q, q ≠ (1, 3) → q ≠ (1, 4) → look J q = none) := Lib.hid ⟨J5, n + 1, hJ5, by omega, by rw [hl5 (1, 3), if_neg (show ¬ ((1 : Int), ((4 : Nat) : Int)) = (1, 3) from Ne.symm hne)]; exact hka, by rw [hl5 (1, 4), if_pos (show ((1 : Int), ((4 : Nat) : Int)) = (1, 4) from rfl)]; rfl, fun q h1 h2 => by rw [hl5 q, if_neg (fun e => h2 e.symm)]; exact hoth q h1 h2⟩
                by_cases hlast : i + 1 = M2
                · rw [if_pos hlast] at ho5
                  have hk5 := ho5.1
                  rw [BS_length] at hk5
                  have hcv : (convert 27 9 (.slice A5 k5 c5)).run Tryd.prog w5 = .ok (.string (tx b)) w5 := conv_str (Rd.own ho5)
                  have hcw : (convert 27 9 (.slice A2 b.length c2)).run Tryd.prog w5 = .ok (.string (tx b)) w5 := conv_str (HU.out.below HB5.out HB5.out.size)
                  have d1 : (i : Int) = (M2 : Int) - 1 := by omega
                  have d2 : ((i : Int) == (M2 : Int) - 1) = true := by rw [d1]; simp
                  rw [decide_eq_true hlast]
                  clear hJ5 hK5 hl5 ho5 hk5 hlast
                  go_wp2_with fail
                  exact ⟨⟨i + 1, by go_num, by omega, HJ5, HP5, HQ5, HB5, HS5⟩, by simp [intOf]; omega⟩
                · have d1 : ¬ (i : Int) = (M2 : Int) - 1 := by omega
                  have d2 : ((i : Int) == (M2 : Int) - 1) = false := by rw [beq_eq_false_iff_ne]; exact d1
                  rw [decide_eq_false hlast]
                  clear hJ5 hK5 hl5 ho5 hlast
                  go_wp2_with fail
                  exact ⟨⟨i + 1, by go_num, by omega, HJ5, HP5, HQ5, HB5, HS5⟩, by simp [intOf]; omega⟩
              · exact absurd (show i < M2 by omega) hiN
        · have b1 : ¬ (i : Int) < (M : Int) := by omega
          have b2 : ¬ (i : Int) < (M2 : Int) := by omega
          obtain ⟨J, n, hJH, hn, hka, hkb, hoth⟩ := hJ.out
          have hJe : J = [] := no_keys fun q => by
            by_cases h1 : q = (1, 3)
            · rw [h1, hka]; exact stP_end (by rw [← HM.out]; omega)
            · by_cases h2 : q = (1, 4)
              · rw [h2, hkb]; exact stP_end (by rw [← HMM.out]; omega)
              · exact hoth q h1 h2
          have cL := jlen_any hJH
          rw [hJe] at cL
          clear hJH hn hka hkb hoth hJe
          go_wp2_with fail
          refine cL.mono ?_
          rintro r w9 ⟨rfl, rfl⟩
          clear cL
          go_wp2_with fail
          go_ret
          exact ⟨rfl, hB.out⟩
set_option maxHeartbeats 16000000 in
set_option maxRecDepth 100000 in
theorem apart_false (a b : List UInt8) (v u : Value) (w : World) (ht : Tab w) (hv : Rd w w.heap.size v a) (hu : Rd w w.heap.size u b) (ha : a.length ≤ 140737488351232) (hb : b.length ≤ 140737488351232) :
    Calls Tryd.prog 8 #[v, u, .bool false] w fun r w' => r = .returned (.bool true) ∧ Below w.heap.size w w' := by
  have cW := works_any w ht
  have HV := Lib.hid hv
  have HU := Lib.hid hu
  have HT := Lib.hid ht
  obtain ⟨A, c, rfl, -⟩ := hv
  obtain ⟨A2, c2, rfl, -⟩ := hu
  clear ht
  by_cases h8 : 8192 < a.length
  · have a1 : (8192 : Int) < (a.length : Int) := by omega
    go_enter Tryd.func8, Tryd.ntmps8
    go_wp2_with fail
    refine cW.mono ?_
    rintro r w1 ⟨rfl, hb1⟩
    have cW2 := works_any w1 (HT.out.below hb1 HT.out.1)
    have HB1 := Lib.hid hb1
    clear cW hb1
    go_wp2_with fail
    refine cW2.mono ?_
    rintro r w2 ⟨rfl, hb2⟩
    have HB2 := Lib.hid (HB1.out.trans (Joins.below_le hb2 HB1.out.size))
    clear cW2 hb2
    go_wp2_with fail
    go_ret
    exact ⟨rfl, HB2.out⟩
  · have a1 : ¬ (8192 : Int) < (a.length : Int) := by omega
    by_cases h9 : 8192 < b.length
    · have a2 : (8192 : Int) < (b.length : Int) := by omega
      go_enter Tryd.func8, Tryd.ntmps8
      go_wp2_with fail
      refine cW.mono ?_
      rintro r w1 ⟨rfl, hb1⟩
      have cW2 := works_any w1 (HT.out.below hb1 HT.out.1)
      have HB1 := Lib.hid hb1
      clear cW hb1
      go_wp2_with fail
      refine cW2.mono ?_
      rintro r w2 ⟨rfl, hb2⟩
      have HB2 := Lib.hid (HB1.out.trans (Joins.below_le hb2 HB1.out.size))
      clear cW2 hb2
      go_wp2_with fail
      go_ret
      exact ⟨rfl, HB2.out⟩
    · have a2 : ¬ (8192 : Int) < (b.length : Int) := by omega
      have ha8 : a.length ≤ 8192 := by omega
      have hb8 : b.length ≤ 8192 := by omega
      have hE := cutErr_ok (n := 3) (l := a) (by omega) ha8
      have hE2 := cutErr_ok (n := 3) (l := b) (by omega) hb8
      obtain ⟨hLl, hLi⟩ := cutP_ok (n := 3) (l := a) (by omega) ha8
      obtain ⟨hNl, hNi⟩ := cutP_ok (n := 3) (l := b) (by omega) hb8
      obtain ⟨M, hM⟩ : ∃ M, M = many a := ⟨_, rfl⟩
      obtain ⟨M2, hMM⟩ : ∃ M2, M2 = many b := ⟨_, rfl⟩
      have hM2 : M ≤ 22 := by rw [hM]; exact many_small ha8
      have hM3 : M2 ≤ 22 := by rw [hMM]; exact many_small hb8
      have cC := fun W (hb : Below w.heap.size w W) => cut_any ((3 : Nat) : Int) a (.slice A a.length c) W (HT.out.below hb HT.out.1) (HV.out.below hb hb.size) (by omega)
      have cD := fun W (hb : Below w.heap.size w W) => cut_any ((3 : Nat) : Int) b (.slice A2 b.length c2) W (HT.out.below hb HT.out.1) (HU.out.below hb hb.size) (by omega)
      rw [hE] at cC
      rw [hE2] at cD
      obtain ⟨L, hL⟩ : ∃ L, L = cutP ((3 : Nat) : Int) a := ⟨_, rfl⟩
      obtain ⟨N, hN⟩ : ∃ N, N = cutP ((3 : Nat) : Int) b := ⟨_, rfl⟩
      rw [← hL] at cC hLl hLi
      rw [← hN] at cD hNl hNi
      rw [← hM] at hLl hLi
      rw [← hMM] at hNl hNi
      have HLI := Lib.hid hLi
      have HNI := Lib.hid hNi
      have HM := Lib.hid hM
      have HMM := Lib.hid hMM
      have HA8 := Lib.hid ha8
      have HB8 := Lib.hid hb8
      clear hE hE2 hL hN hLi hNi hM hMM h8 h9 ha hb ha8 hb8
      go_enter Tryd.func8, Tryd.ntmps8
      go_wp2_with fail
      refine cW.mono ?_
      rintro r w1 ⟨rfl, hb1⟩
      have cC1 := cC w1 hb1
      rw [show (((3 : Nat) : Int)) = 3 from rfl] at cC1
      have HB1 := Lib.hid hb1
      clear cW hb1 cC
      go_wp2_with fail
      refine cC1.mono ?_
      rintro r w2 ⟨vl, ss, rfl, hC, hb2⟩
      have hP2 := Pks.of hC
      obtain ⟨Al, cl, rfl⟩ := hC.slice
      rw [hLl] at hP2
      rw [hLl]
      have hB2 := HB1.out.trans (Joins.below_le hb2 HB1.out.size)
      have cD1 := cD w2 hB2
      rw [show (((3 : Nat) : Int)) = 3 from rfl] at cD1
      have HP2 := Lib.hid hP2
      have HB2 := Lib.hid hB2
      clear cC1 hC hb2 hP2 hB2 cD
      go_wp2_with fail
      refine cD1.mono ?_
      rintro r w3 ⟨vn, tt, rfl, hD, hb3⟩
      have hQ3 := Pks.of hD
      obtain ⟨An, cn, rfl⟩ := hD.slice
      rw [hNl] at hQ3
      rw [hNl]
      obtain ⟨C, hCe⟩ : ∃ C, C = w3.heap.size := ⟨_, rfl⟩
      rw [← hCe] at hQ3
      have hP3 := HP2.out.below hb3 (Nat.le_refl _)
      have hP3C : Pks w3 C (.slice Al M cl) L := hP3.wider (by rw [hCe]; exact hb3.size)
      have hB3 := HB2.out.trans (Joins.below_le hb3 HB2.out.size)
      have hwC : w.heap.size ≤ C := by rw [hCe]; exact hB3.size
      have HP3 := Lib.hid hP3C
      have HQ3 := Lib.hid hQ3
      have HB3 := Lib.hid hB3
      have HCE := Lib.hid hCe
      clear cD1 hD hb3 hP3 hP3C hB3 hCe hQ3
      go_wp2_with fail
      refine (jnew_any w3).mono ?_
      rintro r w4 ⟨j, mb, rfl, hJ4, hb4⟩
      rw [← HCE.out] at hJ4 hb4
      have HB4 := Lib.hid (HB3.out.trans (Joins.below_le hb4 hwC))
      have HP4 := Lib.hid (HP3.out.below (by rw [← HCE.out]; exact hb4) (by rw [HCE.out]; exact Nat.le_refl _))
      have HQ4 := Lib.hid (HQ3.out.below (by rw [← HCE.out]; exact hb4) (by rw [HCE.out]; exact Nat.le_refl _))
      have HJ4 : Hid (∃ J n, JHas w4 (fun b => C ≤ b) j mb n J ∧ n ≤ 2 * 0 ∧ look J (1, 3) = stP (1, 3) a 0 ∧ look J (2, 3) = stP (2, 3) b 0 ∧ ∀ q, q ≠ (1, 3) → q ≠ (2, 3) → look J q = none) := Lib.hid ⟨[], 0, hJ4, by omega, by rw [stP_zero]; rfl, by rw [stP_zero]; rfl, fun _ _ _ => rfl⟩
      have hs4 : C ≤ w4.heap.size := by rw [HCE.out]; exact hb4.size
      clear hJ4 hb4
      have hC0 : 0 < C := Nat.lt_of_lt_of_le HT.out.1 hwC
      have hne : ((1 : Int), (3 : Int)) ≠ (2, 3) := by decide
      go_wp2_with fail
      go_loopw [14, 15, 16, 17, 18, 19, 20] (fun s14 _ _ _ _ _ _ wr => ∃ i : Nat, s14 = .int .i64 (i : Int) ∧ i ≤ 22 ∧ Hid (∃ J n, JHas wr (fun b => C ≤ b) j mb n J ∧ n ≤ 2 * i ∧ look J (1, 3) = stP (1, 3) a i ∧ look J (2, 3) = stP (2, 3) b i ∧ ∀ q, q ≠ (1, 3) → q ≠ (2, 3) → look J q = none) ∧ Hid (Pks wr C (.slice Al M cl) L) ∧ Hid (Pks wr C (.slice An M2 cn) N) ∧ Hid (Below w.heap.size w wr) ∧ Hid (C ≤ wr.heap.size)) (fun s14 _ _ _ _ _ _ _ => 22 - (intOf s14).toNat)
      case atStart => exact ⟨0, rfl, Nat.zero_le _, HJ4, HP4, HQ4, HB4, Lib.hid hs4⟩
      case round =>
        clear HJ4 HP4 HQ4 HB4 hs4
        obtain ⟨i, rfl, hi, hJ, hP, hQ, hB, hS⟩ := hrel
        obtain ⟨wz, hwz⟩ : ∃ wz : World, wz = wr := ⟨_, rfl⟩
        subst hwz
        have b0 : (0 : Int) ≤ (i : Int) := by omega
        by_cases hor : i < M ∨ i < M2
        · have hi22 : i < 22 := by omega
          by_cases hiM : i < M
          · have b1 : (i : Int) < (M : Int) := by omega
            go_upto_if 68 with fail
            go_cut [14, 15, 16, 17] (fun s14 _ _ _ wx => s14 = .int .i64 (i : Int) ∧ Hid (∃ J n, JHas wx (fun b => C ≤ b) j mb n J ∧ n ≤ 2 * i + 1 ∧ look J (1, 3) = stP (1, 3) a (i + 1) ∧ look J (2, 3) = stP (2, 3) b i ∧ ∀ q, q ≠ (1, 3) → q ≠ (2, 3) → look J q = none) ∧ Hid (Pks wx C (.slice Al M cl) L) ∧ Hid (Pks wx C (.slice An M2 cn) N) ∧ Hid (Below w.heap.size w wx) ∧ Hid (C ≤ wx.heap.size))
            case first =>
              obtain ⟨J, n, hJH, hn, hka, hkb, hoth⟩ := hJ.out
              obtain ⟨b', o, n', k', Ai, ci, hvi, hci, hri⟩ := hP.out.at_ (HLI.out i hiM)
              injection hvi with e2 e3 e4
              subst e2
              have hpk := HLI.out i hiM
              rw [HM.out] at hri hci
              have cT := jtake_up hJH (by have := two_keys hJH.nodup hoth; omega) (f := 1) (nr := 3) (by unfold I64; omega) (by omega) hka (by rw [← HM.out]; exact hiM) HA8.out (.slice Ai (pkt 3 i (many a) (piece a i)).length ci) (HT.out.below hB.out HT.out.1) (hri.keep hS.out fun _ _ => rfl) (by unfold maxLen; omega) (fun b hb => Nat.le_trans hS.out hb)
              rw [← HM.out] at cT hci
              clear hri hpk e3 e4 hJH
              go_wp2_with fail
              refine cT.mono ?_
              rintro r w5 ⟨v5, k5, J5, rfl, ho5, hJ5, hK5, hl5⟩
              clear cT hci
              have HP5 := Lib.hid (hP.out.kept hK5 (fun b hb => by omega) hS.out)
              have HQ5 := Lib.hid (hQ.out.kept hK5 (fun b hb => by omega) hS.out)
              have HS5 := Lib.hid (Nat.le_trans hS.out hK5.size)
              have HB5 := Lib.hid (hB.out.trans (hK5.below (B := w.heap.size) hB.out.size (fun b hb => Nat.le_trans hwC hb)))
              obtain ⟨A5, c5, hv5⟩ := own_slice ho5
              subst hv5
              have HJ5 : Hid (∃ J n, JHas w5 (fun b => C ≤ b) j mb n J ∧ n ≤ 2 * i + 1 ∧ look J (1, 3) = stP (1, 3) a (i + 1) ∧ look J (2, 3) = stP (2, 3) b i ∧ ∀ q, q ≠ (1, 3) → q ≠ (2, 3) → look J q = none) := Lib.hid ⟨J5, n + 1, hJ5, by omega, by rw [hl5 (1, 3), if_pos (show ((1 : Int), ((3 : Nat) : Int)) = (1, 3) from rfl)]; rfl, by rw [hl5 (2, 3), if_neg (show ¬ ((1 : Int), ((3 : Nat) : Int)) = (2, 3) from hne)]; exact hkb, fun q h1 h2 => by rw [hl5 q, if_neg (fun e => h1 e.symm)]; exact hoth q h1 h2⟩
              by_cases hlast : i + 1 = M
              · rw [if_pos hlast] at ho5
                have hk5 := ho5.1
                rw [BS_length] at hk5
                have hcv : (convert 27 9 (.slice A5 k5 c5)).run Tryd.prog w5 = .ok (.string (tx a)) w5 := conv_str (Rd.own ho5)
                have hcw : (convert 27 9 (.slice A a.length c)).run Tryd.prog w5 = .ok (.string (tx a)) w5 := conv_str (HV.out.below HB5.out HB5.out.size)
                have d1 : (i : Int) = (M : Int) - 1 := by omega
                have d2 : ((i : Int) == (M : Int) - 1) = true := by rw [d1]; simp
                rw [decide_eq_true hlast]
                clear hJ5 hK5 hl5 ho5 hk5 hlast
                go_wp2_with fail
                go_meet
                exact ⟨by first | rfl | rw [d1], HJ5, HP5, HQ5, HB5, HS5⟩
              · have d1 : ¬ (i : Int) = (M : Int) - 1 := by omega
                have d2 : ((i : Int) == (M : Int) - 1) = false := by rw [beq_eq_false_iff_ne]; exact d1
                rw [decide_eq_false hlast]
                clear hJ5 hK5 hl5 ho5 hlast
                go_wp2_with fail
                go_meet
                exact ⟨by first | rfl | rw [d1], HJ5, HP5, HQ5, HB5, HS5⟩
            case rest =>
              clear hJ hP hQ hB hS
              obtain ⟨rfl, hJ, hP, hQ, hB, hS⟩ := hcut
              obtain ⟨wy, hwy⟩ : ∃ wy : World, wy = wc := ⟨_, rfl⟩
              subst hwy
              obtain ⟨J, n, hJH, hn, hka, hkb, hoth⟩ := hJ.out
              by_cases hiN : i < M2
              · have b3 : (i : Int) < (M2 : Int) := by omega
                obtain ⟨b', o, n', k', Ai, ci, hvi, hci, hri⟩ := hQ.out.at_ (HNI.out i hiN)
                injection hvi with e2 e3 e4
                subst e2
                have hpk := HNI.out i hiN
                rw [HMM.out] at hri hci
                have cT := jtake_up hJH (by have := two_keys hJH.nodup hoth; omega) (f := 2) (nr := 3) (by unfold I64; omega) (by omega) hkb (by rw [← HMM.out]; exact hiN) HB8.out (.slice Ai (pkt 3 i (many b) (piece b i)).length ci) (HT.out.below hB.out HT.out.1) (hri.keep hS.out fun _ _ => rfl) (by unfold maxLen; omega) (fun b hb => Nat.le_trans hS.out hb)
                rw [← HMM.out] at cT hci
                clear hri hpk e3 e4 hJH
                go_wp2_with fail
                refine cT.mono ?_
                rintro r w5 ⟨v5, k5, J5, rfl, ho5, hJ5, hK5, hl5⟩
                clear cT hci
                have HP5 := Lib.hid (hP.out.kept hK5 (fun b hb => by omega) hS.out)
                have HQ5 := Lib.hid (hQ.out.kept hK5 (fun b hb => by omega) hS.out)
                have HS5 := Lib.hid (Nat.le_trans hS.out hK5.size)
                have HB5 := Lib.hid (hB.out.trans (hK5.below (B := w.heap.size) hB.out.size (fun b hb => Nat.le_trans hwC hb)))
                obtain ⟨A5, c5, hv5⟩ := own_slice ho5
                subst hv5
                have HJ5 : Hid (∃ J n, JHas w5 (fun b => C ≤ b) j mb n J ∧ n ≤ 2 * (i + 1) ∧ look J (1, 3) = stP (1, 3) a (i + 1) ∧ look J (2, 3) = stP (2, 3) b (i + 1) ∧ ∀ q, q ≠ (1, 3) → q ≠ (2, 3) → look J q = none) := Lib.hid ⟨J5, n + 1, hJ5, by omega, by rw [hl5 (1, 3), if_neg (show ¬ ((2 : Int), ((3 : Nat) : Int)) = (1, 3) from Ne.symm hne)]; exact hka, by rw [hl5 (2, 3), if_pos (show ((2 : Int), ((3 : Nat) : Int)) = (2, 3) from rfl)]; rfl, fun q h1 h2 => by rw [hl5 q, if_neg (fun e => h2 e.symm)]; exact hoth q h1 h2⟩
                by_cases hlast : i + 1 = M2
                · rw [if_pos hlast] at ho5
                  have hk5 := ho5.1
                  rw [BS_length] at hk5
                  have hcv : (convert 27 9 (.slice A5 k5 c5)).run Tryd.prog w5 = .ok (.string (tx b)) w5 := conv_str (Rd.own ho5)
                  have hcw : (convert 27 9 (.slice A2 b.length c2)).run Tryd.prog w5 = .ok (.string (tx b)) w5 := conv_str (HU.out.below HB5.out HB5.out.size)
                  have d1 : (i : Int) = (M2 : Int) - 1 := by omega
                  have d2 : ((i : Int) == (M2 : Int) - 1) = true := by rw [d1]; simp
                  rw [decide_eq_true hlast]
                  clear hJ5 hK5 hl5 ho5 hk5 hlast
                  go_wp2_with fail
                  exact ⟨⟨i + 1, by go_num, by omega, HJ5, HP5, HQ5, HB5, HS5⟩, by simp [intOf]; omega⟩
                · have d1 : ¬ (i : Int) = (M2 : Int) - 1 := by omega
                  have d2 : ((i : Int) == (M2 : Int) - 1) = false := by rw [beq_eq_false_iff_ne]; exact d1
                  rw [decide_eq_false hlast]
                  clear hJ5 hK5 hl5 ho5 hlast
                  go_wp2_with fail
                  exact ⟨⟨i + 1, by go_num, by omega, HJ5, HP5, HQ5, HB5, HS5⟩, by simp [intOf]; omega⟩
              · have b3 : ¬ (i : Int) < (M2 : Int) := by omega
                have HJ5 : Hid (∃ J n, JHas wy (fun b => C ≤ b) j mb n J ∧ n ≤ 2 * (i + 1) ∧ look J (1, 3) = stP (1, 3) a (i + 1) ∧ look J (2, 3) = stP (2, 3) b (i + 1) ∧ ∀ q, q ≠ (1, 3) → q ≠ (2, 3) → look J q = none) := Lib.hid ⟨J, n, hJH, by omega, hka, by rw [hkb, stP_end (by rw [← HMM.out]; omega), stP_end (by rw [← HMM.out]; omega)], hoth⟩
                clear hJH hn hka hkb hoth
                go_wp2_with fail
                exact ⟨⟨i + 1, by go_num, by omega, HJ5, hP, hQ, hB, hS⟩, by simp [intOf]; omega⟩
          · have b1 : ¬ (i : Int) < (M : Int) := by omega
            have b2 : (i : Int) < (M2 : Int) := by omega
            go_upto_if 68 with fail
            go_cut [14, 15, 16, 17] (fun s14 _ _ _ wx => s14 = .int .i64 (i : Int) ∧ Hid (∃ J n, JHas wx (fun b => C ≤ b) j mb n J ∧ n ≤ 2 * i + 1 ∧ look J (1, 3) = stP (1, 3) a (i + 1) ∧ look J (2, 3) = stP (2, 3) b i ∧ ∀ q, q ≠ (1, 3) → q ≠ (2, 3) → look J q = none) ∧ Hid (Pks wx C (.slice Al M cl) L) ∧ Hid (Pks wx C (.slice An M2 cn) N) ∧ Hid (Below w.heap.size w wx) ∧ Hid (C ≤ wx.heap.size))
            case first =>
              obtain ⟨J, n, hJH, hn, hka, hkb, hoth⟩ := hJ.out
              have HJ5 : Hid (∃ J n, JHas wz (fun b => C ≤ b) j mb n J ∧ n ≤ 2 * i + 1 ∧ look J (1, 3) = stP (1, 3) a (i + 1) ∧ look J (2, 3) = stP (2, 3) b i ∧ ∀ q, q ≠ (1, 3) → q ≠ (2, 3) → look J q = none) := Lib.hid ⟨J, n, hJH, by omega, by rw [hka, stP_end (by rw [← HM.out]; omega), stP_end (by rw [← HM.out]; omega)], hkb, hoth⟩
              clear hJH hn hka hkb hoth
              go_wp2_with fail
              go_meet
              exact ⟨rfl, HJ5, hP, hQ, hB, hS⟩
            case rest =>
              clear hJ hP hQ hB hS
              obtain ⟨rfl, hJ, hP, hQ, hB, hS⟩ := hcut
              obtain ⟨wy, hwy⟩ : ∃ wy : World, wy = wc := ⟨_, rfl⟩
              subst hwy
              obtain ⟨J, n, hJH, hn, hka, hkb, hoth⟩ := hJ.out
              by_cases hiN : i < M2
              · have b3 : (i : Int) < (M2 : Int) := by omega
                obtain ⟨b', o, n', k', Ai, ci, hvi, hci, hri⟩ := hQ.out.at_ (HNI.out i hiN)
                injection hvi with e2 e3 e4
                subst e2
                have hpk := HNI.out i hiN
                rw [HMM.out] at hri hci
                have cT := jtake_up hJH (by have := two_keys hJH.nodup hoth; omega) (f := 2) (nr := 3) (by unfold I64; omega) (by omega) hkb (by rw [← HMM.out]; exact hiN) HB8.out (.slice Ai (pkt 3 i (many b) (piece b i)).length ci) (HT.out.below hB.out HT.out.1) (hri.keep hS.out fun _ _ => rfl) (by unfold maxLen; omega) (fun b hb => Nat.le_trans hS.out hb)
                rw [← HMM.out] at cT hci
                clear hri hpk e3 e4 hJH
                go_wp2_with fail
                refine cT.mono ?_
                rintro r w5 ⟨v5, k5, J5, rfl, ho5, hJ5, hK5, hl5⟩
                clear cT hci
                have HP5 := Lib.hid (hP.out.kept hK5 (fun b hb => by omega) hS.out)
                have HQ5 := Lib.hid (hQ.out.kept hK5 (fun b hb => by omega) hS.out)
                have HS5 := Lib.hid (Nat.le_trans hS.out hK5.size)
                have HB5 := Lib.hid (hB.out.trans (hK5.below (B := w.heap.size) hB.out.size (fun b hb => Nat.le_trans hwC hb)))
                obtain ⟨A5, c5, hv5⟩ := own_slice ho5
                subst hv5
                have HJ5 : Hid (∃ J n, JHas w5 (fun b => C ≤ b) j mb n J ∧ n ≤ 2 * (i + 1) ∧ look J (1, 3) = stP (1, 3) a (i + 1) ∧ look J (2, 3) = stP (2, 3) b (i + 1) ∧ ∀ q, q ≠ (1, 3) → q ≠ (2, 3) → look J q = none) := Lib.hid ⟨J5, n + 1, hJ5, by omega, by rw [hl5 (1, 3), if_neg (show ¬ ((2 : Int), ((3 : Nat) : Int)) = (1, 3) from Ne.symm hne)]; exact hka, by rw [hl5 (2, 3), if_pos (show ((2 : Int), ((3 : Nat) : Int)) = (2, 3) from rfl)]; rfl, fun q h1 h2 => by rw [hl5 q, if_neg (fun e => h2 e.symm)]; exact hoth q h1 h2⟩
                by_cases hlast : i + 1 = M2
                · rw [if_pos hlast] at ho5
                  have hk5 := ho5.1
                  rw [BS_length] at hk5
                  have hcv : (convert 27 9 (.slice A5 k5 c5)).run Tryd.prog w5 = .ok (.string (tx b)) w5 := conv_str (Rd.own ho5)
                  have hcw : (convert 27 9 (.slice A2 b.length c2)).run Tryd.prog w5 = .ok (.string (tx b)) w5 := conv_str (HU.out.below HB5.out HB5.out.size)
                  have d1 : (i : Int) = (M2 : Int) - 1 := by omega
                  have d2 : ((i : Int) == (M2 : Int) - 1) = true := by rw [d1]; simp
                  rw [decide_eq_true hlast]
                  clear hJ5 hK5 hl5 ho5 hk5 hlast
                  go_wp2_with fail
                  exact ⟨⟨i + 1, by go_num, by omega, HJ5, HP5, HQ5, HB5, HS5⟩, by simp [intOf]; omega⟩
                · have d1 : ¬ (i : Int) = (M2 : Int) - 1 := by omega
                  have d2 : ((i : Int) == (M2 : Int) - 1) = false := by rw [beq_eq_false_iff_ne]; exact d1
                  rw [decide_eq_false hlast]
                  clear hJ5 hK5 hl5 ho5 hlast
                  go_wp2_with fail
                  exact ⟨⟨i + 1, by go_num, by omega, HJ5, HP5, HQ5, HB5, HS5⟩, by simp [intOf]; omega⟩
              · exact absurd (show i < M2 by omega) hiN
        · have b1 : ¬ (i : Int) < (M : Int) := by omega
          have b2 : ¬ (i : Int) < (M2 : Int) := by omega
          obtain ⟨J, n, hJH, hn, hka, hkb, hoth⟩ := hJ.out
          have hJe : J = [] := no_keys fun q => by
            by_cases h1 : q = (1, 3)
            · rw [h1, hka]; exact stP_end (by rw [← HM.out]; omega)
            · by_cases h2 : q = (2, 3)
              · rw [h2, hkb]; exact stP_end (by rw [← HMM.out]; omega)
              · exact hoth q h1 h2
          have cL := jlen_any hJH
          rw [hJe] at cL
          clear hJH hn hka hkb hoth hJe
          go_wp2_with fail
          refine cL.mono ?_
          rintro r w9 ⟨rfl, rfl⟩
          clear cL
          go_wp2_with fail
          go_ret
          exact ⟨rfl, hB.out⟩
theorem apart_walk (a b : List UInt8) (t : Bool) (v u : Value) (w : World) (ht : Tab w) (hv : Rd w w.heap.size v a) (hu : Rd w w.heap.size u b) (ha : a.length ≤ 140737488351232) (hb : b.length ≤ 140737488351232) :
    Calls Tryd.prog 8 #[v, u, .bool t] w fun r w' => r = .returned (.bool true) ∧ Below w.heap.size w w' := by
  cases t
  · exact apart_false a b v u w ht hv hu ha hb
  · exact apart_true a b v u w ht hv hu ha hb
end Go.Proofs.YtfmaocinckeagaaDoor
