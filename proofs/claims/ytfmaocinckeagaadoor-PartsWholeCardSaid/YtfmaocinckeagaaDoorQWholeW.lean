/-
  PartsWhole walked through. No statement is proved here. Condition: the table reads as the program lays it.
-/
import Derived.Test.YtfmaocinckeagaaDoorQWhole
namespace Go.Proofs.YtfmaocinckeagaaDoor
open Go.RowKit

/-- what PartsWhole's loop keeps -/
structure WInv (w wr : World) (C g j mb : Nat) (msg oth : List UInt8) (L N : List (List UInt8)) (al an : Value) (R i : Nat) (t7 t8 : Nat → Bool) : Prop where
  has : ∃ J n, JHas wr (fun b => C ≤ b ∧ b ≠ g) j mb n J ∧ n ≤ i ∧ look J (1, 7) = (if allT (many msg) t7 then none else hasP (1, 7) msg t7) ∧ look J (1, 8) = hasP (1, 8) oth t8 ∧ ∀ q, q ≠ (1, 7) → q ≠ (1, 8) → look J q = none
  t8 : allT (many oth) t8 = false
  come : ∀ k, k < many msg → R + k < i → t7 k = true
  there : ThAt wr g (many msg) t7
  pl : Pks wr C al L
  pn : Pks wr C an N
  bel : Below w.heap.size w wr
  size : C ≤ wr.heap.size
  gs : g < wr.heap.size
set_option maxHeartbeats 16000000 in
set_option maxRecDepth 100000 in
theorem whole_walk (msg oth : List UInt8) (zs : List Int) (v u z : Value) (w : World) (ht : Tab w) (hv : Rd w w.heap.size v msg) (hu : Rd w w.heap.size u oth) (hz : NumAt w w.heap.size z zs) (ha : msg.length ≤ 140737488351232) (hb : oth.length ≤ 140737488351232) :
    Calls Tryd.prog 7 #[v, u, z] w fun r w' => r = .returned (.bool true) ∧ Below w.heap.size w w' := by
  have cW := works_any w ht
  have HV := Lib.hid hv
  have HU := Lib.hid hu
  have HT := Lib.hid ht
  have HZ := Lib.hid hz
  obtain ⟨A, c, rfl, -⟩ := hv
  obtain ⟨A2, c2, rfl, -⟩ := hu
  obtain ⟨A3, c3, rfl, -⟩ := hz
  clear ht
  by_cases hbad : 8192 < msg.length ∨ 8192 < oth.length ∨ 300 < zs.length
  · have cW2 : ∀ W, Below w.heap.size w W → Calls Tryd.prog 10 #[] W fun r w' => r = .returned (.bool true) ∧ Below W.heap.size W w' := fun W hW => works_any W (HT.out.below hW HT.out.1)
    by_cases h8 : 8192 < msg.length
    · have a1 : (8192 : Int) < (msg.length : Int) := by omega
      go_enter Tryd.func7, Tryd.ntmps7
      go_wp2_with fail
      refine cW.mono ?_
      rintro r w1 ⟨rfl, hb1⟩
      have cW3 := cW2 w1 hb1
      have HB1 := Lib.hid hb1
      clear cW cW2 hb1
      go_wp2_with fail
      refine cW3.mono ?_
      rintro r w2 ⟨rfl, hb2⟩
      have HB2 := Lib.hid (HB1.out.trans (Joins.below_le hb2 HB1.out.size))
      clear cW3 hb2
      go_wp2_with fail
      go_ret
      exact ⟨rfl, HB2.out⟩
    · have a1 : ¬ (8192 : Int) < (msg.length : Int) := by omega
      by_cases h9 : 8192 < oth.length
      · have a2 : (8192 : Int) < (oth.length : Int) := by omega
        go_enter Tryd.func7, Tryd.ntmps7
        go_wp2_with fail
        refine cW.mono ?_
        rintro r w1 ⟨rfl, hb1⟩
        have cW3 := cW2 w1 hb1
        have HB1 := Lib.hid hb1
        clear cW cW2 hb1
        go_wp2_with fail
        refine cW3.mono ?_
        rintro r w2 ⟨rfl, hb2⟩
        have HB2 := Lib.hid (HB1.out.trans (Joins.below_le hb2 HB1.out.size))
        clear cW3 hb2
        go_wp2_with fail
        go_ret
        exact ⟨rfl, HB2.out⟩
      · have a2 : ¬ (8192 : Int) < (oth.length : Int) := by omega
        have a3 : (300 : Int) < (zs.length : Int) := by omega
        go_enter Tryd.func7, Tryd.ntmps7
        go_wp2_with fail
        refine cW.mono ?_
        rintro r w1 ⟨rfl, hb1⟩
        have cW3 := cW2 w1 hb1
        have HB1 := Lib.hid hb1
        clear cW cW2 hb1
        go_wp2_with fail
        refine cW3.mono ?_
        rintro r w2 ⟨rfl, hb2⟩
        have HB2 := Lib.hid (HB1.out.trans (Joins.below_le hb2 HB1.out.size))
        clear cW3 hb2
        go_wp2_with fail
        go_ret
        exact ⟨rfl, HB2.out⟩
  · have a1 : ¬ (8192 : Int) < (msg.length : Int) := by omega
    have a2 : ¬ (8192 : Int) < (oth.length : Int) := by omega
    have a3 : ¬ (300 : Int) < (zs.length : Int) := by omega
    have hR : zs.length ≤ 300 := by omega
    have ha8 : msg.length ≤ 8192 := by omega
    have hb8 : oth.length ≤ 8192 := by omega
    have hE := cutErr_ok (n := 7) (l := msg) (by omega) ha8
    have hE2 := cutErr_ok (n := 8) (l := oth) (by omega) hb8
    obtain ⟨hLl, hLi⟩ := cutP_ok (n := 7) (l := msg) (by omega) ha8
    obtain ⟨hNl, hNi⟩ := cutP_ok (n := 8) (l := oth) (by omega) hb8
    obtain ⟨M, hM⟩ : ∃ M, M = many msg := ⟨_, rfl⟩
    obtain ⟨M2, hMM⟩ : ∃ M2, M2 = many oth := ⟨_, rfl⟩
    have hM1 : 1 ≤ M := by rw [hM]; exact many_pos msg
    have hM2 : M ≤ 22 := by rw [hM]; exact many_small ha8
    have hN1 : 1 ≤ M2 := by rw [hMM]; exact many_pos oth
    have hN2 : M2 ≤ 22 := by rw [hMM]; exact many_small hb8
    have cC := fun W (hb : Below w.heap.size w W) => cut_any ((7 : Nat) : Int) msg (.slice A msg.length c) W (HT.out.below hb HT.out.1) (HV.out.below hb hb.size) (by omega)
    have cD := fun W (hb : Below w.heap.size w W) => cut_any ((8 : Nat) : Int) oth (.slice A2 oth.length c2) W (HT.out.below hb HT.out.1) (HU.out.below hb hb.size) (by omega)
    rw [hE] at cC
    rw [hE2] at cD
    obtain ⟨L, hL⟩ : ∃ L, L = cutP ((7 : Nat) : Int) msg := ⟨_, rfl⟩
    obtain ⟨N, hN⟩ : ∃ N, N = cutP ((8 : Nat) : Int) oth := ⟨_, rfl⟩
    rw [← hL] at cC hLl hLi
    rw [← hN] at cD hNl hNi
    rw [← hM] at hLl hLi
    rw [← hMM] at hNl hNi
    have HLI := Lib.hid hLi
    have HNI := Lib.hid hNi
    have HM := Lib.hid hM
    have HMM := Lib.hid hMM
    have HA8 := Lib.hid ha8
    have HB8 := Lib.hid hb8
    clear hE hE2 hL hN hLi hNi hM hMM hbad ha hb ha8 hb8
    go_enter Tryd.func7, Tryd.ntmps7
    go_wp2_with fail
    refine cW.mono ?_
    rintro r w1 ⟨rfl, hb1⟩
    have cC1 := cC w1 hb1
    rw [show (((7 : Nat) : Int)) = 7 from rfl] at cC1
    have HB1 := Lib.hid hb1
    clear cW hb1 cC
    go_wp2_with fail
    refine cC1.mono ?_
    rintro r w2 ⟨vl, ss, rfl, hC, hb2⟩
    have hP2 := Pks.of hC
    obtain ⟨Al, cl, rfl⟩ := hC.slice
    rw [hLl] at hP2
    rw [hLl]
    have hB2 := HB1.out.trans (Joins.below_le hb2 HB1.out.size)
    have cD1 := cD w2 hB2
    rw [show (((8 : Nat) : Int)) = 8 from rfl] at cD1
    have HP2 := Lib.hid hP2
    have HB2 := Lib.hid hB2
    clear cC1 hC hb2 hP2 hB2 cD
    go_wp2_with fail
    refine cD1.mono ?_
    rintro r w3 ⟨vn, tt, rfl, hD, hb3⟩
    have hQ3 := Pks.of hD
    obtain ⟨An, cn, rfl⟩ := hD.slice
    rw [hNl] at hQ3
    rw [hNl]
    obtain ⟨C, hCe⟩ : ∃ C, C = w3.heap.size := ⟨_, rfl⟩
    rw [← hCe] at hQ3
    have hP3 := HP2.out.below hb3 (Nat.le_refl _)
    have hP3C : Pks w3 C (.slice Al M cl) L := hP3.wider (by rw [hCe]; exact hb3.size)
    have hB3 := HB2.out.trans (Joins.below_le hb3 HB2.out.size)
    have hwC : w.heap.size ≤ C := by rw [hCe]; exact hB3.size
    have HP3 := Lib.hid hP3C
    have HQ3 := Lib.hid hQ3
    have HB3 := Lib.hid hB3
    have HCE := Lib.hid hCe
    clear cD1 hD hb3 hP3 hP3C hB3 hCe hQ3
    go_wp2_with fail
    refine (jnew_any w3).mono ?_
    rintro r w4 ⟨j, mb, rfl, hJ4, hb4⟩
    rw [← HCE.out] at hJ4 hb4
    have hB4 := HB3.out.trans (Joins.below_le hb4 hwC)
    have hP4 := HP3.out.below (by rw [← HCE.out]; exact hb4) (by rw [HCE.out]; exact Nat.le_refl _)
    have hQ4 := HQ3.out.below (by rw [← HCE.out]; exact hb4) (by rw [HCE.out]; exact Nat.le_refl _)
    have hs4 : C ≤ w4.heap.size := by rw [HCE.out]; exact hb4.size
    obtain ⟨w5, hmk, hth, hb5, hz5⟩ := ThAt.made w4 M (by omega)
    obtain ⟨g, hg⟩ : ∃ g, g = w4.heap.size := ⟨_, rfl⟩
    rw [← hg] at hmk hth hz5
    have hJ5 : JHas w5 (fun b => C ≤ b ∧ b ≠ g) j mb 0 [] := (hJ4.mono (fun b hb hc => ⟨hc, by omega⟩)).grow hb5
    have hI : WInv w w5 C g j mb msg oth L N (.slice Al M cl) (.slice An M2 cn) zs.length 0 noT noT := by
      refine ⟨⟨[], 0, hJ5, Nat.le_refl _, ?_, by rw [hasP_no]; rfl, fun _ _ _ => rfl⟩, ?_, fun k _ h => by omega, by rw [← HM.out]; exact hth, hP4.below hb5 hs4, hQ4.below hb5 hs4, hB4.trans (Joins.below_le hb5 hB4.size), Nat.le_trans hs4 hb5.size, hz5⟩
      · rw [hasP_no]; split <;> rfl
      · rw [← upT_zero]; exact upT_not (by rw [← HMM.out]; omega)
    have HI := Lib.hid hI
    have hC0 : 0 < C := Nat.lt_of_lt_of_le HT.out.1 hwC
    have hg0 : C ≤ g := by rw [hg]; exact hs4
    have hcn : cntT M noT = M := cnt_no M
    have HCN := Lib.hid hcn
    clear hJ4 hb4 hB4 hP4 hQ4 hs4 hth hb5 hz5 hJ5 hI hg hcn
    go_upto_region 9 with fail
    clear hmk
    go_wp2_with fail
    go_loopw [13, 14, 15, 16, 17, 18] (fun s13 s14 _ _ _ _ wr => ∃ (i : Nat) (t7 t8 : Nat → Bool), s13 = .int .i64 (cntT M t7 : Int) ∧ s14 = .int .i64 (i : Int) ∧ i ≤ zs.length + M ∧ Hid (WInv w wr C g j mb msg oth L N (.slice Al M cl) (.slice An M2 cn) zs.length i t7 t8)) (fun _ s14 _ _ _ _ _ => zs.length + M - (intOf s14).toNat)
    case atStart => exact ⟨0, noT, noT, by rw [HCN.out], rfl, by omega, HI⟩
    case round =>
      clear HI HCN
      obtain ⟨i, t7, t8, rfl, rfl, hi, hI⟩ := hrel
      obtain ⟨wz, hwz⟩ : ∃ wz : World, wz = wr := ⟨_, rfl⟩
      subst hwz
      have b0 : (0 : Int) ≤ (i : Int) := by omega
      by_cases hgo : i < zs.length + M ∧ 0 < cntT M t7
      · have b1 : (i : Int) < (zs.length : Int) + (M : Int) := by omega
        have b2 : (0 : Int) < (cntT M t7 : Int) := by omega
        have hnall : allT (many msg) t7 = false := cnt_pos.1 (by rw [← HM.out]; exact hgo.2)
        go_upto_if 77 with fail
        go_cut [15] (fun s15 wx => ∃ K : Nat, s15 = .int .i64 (K : Int) ∧ K < M + M2 ∧ (zs.length ≤ i → K = i - zs.length) ∧ wx = wz)
        case first =>
          by_cases hiR : i < zs.length
          · have d1 : (i : Int) < (zs.length : Int) := by omega
            have d2 : (i : Int) - (zs.length : Int) < 0 := by omega
            obtain ⟨zi, hzi⟩ : ∃ zi, zs[i]? = some zi := ⟨_, List.getElem?_eq_getElem hiR⟩
            obtain ⟨Az, cz, hze, hzI, hzc⟩ := HZ.out.kept hI.out.bel
            injection hze with e1 e2 e3
            subst e1
            obtain ⟨b, o, hA, hbl, hcell⟩ := hzc (fun h => by rw [h] at hiR; simp at hiR)
            subst hA
            have hci := hcell i zi hzi
            obtain ⟨K, hK, hmod⟩ := mod_of zi ((M : Int) + (M2 : Int)) (M + M2) (by omega) (by omega) (by omega)
            have hw : IntKind.u64.wrap ((M : Int) + (M2 : Int)) = (M : Int) + (M2 : Int) := by rw [IntKind.wrap_u64]; omega
            clear hzc hcell e2 e3 hzI
            go_wp2_with fail
            go_meet
            exact ⟨K, by rw [hmod], hK, fun h => by omega, rfl⟩
          · have d1 : ¬ (i : Int) - (zs.length : Int) < 0 := by omega
            have hmi : i < zs.length + M := hgo.1
            obtain ⟨K, hK⟩ : ∃ K, K = i - zs.length := ⟨_, rfl⟩
            have d2 : (i : Int) - (zs.length : Int) = (K : Int) := by omega
            have HKK := Lib.hid hK
            have hKM : K < M + M2 := by omega
            clear hK hmi
            go_wp2_with fail
            go_meet
            exact ⟨K, by first | rfl | rw [d2], hKM, fun h => HKK.out, rfl⟩
        case rest =>
          obtain ⟨K, rfl, hK, hKi, hwc⟩ := hcut
          subst hwc
          have c0 : (0 : Int) ≤ (K : Int) := by omega
          obtain ⟨J, n, hJH, hn, h7, h8, hoth⟩ := hI.out.has
          have hG0 : ¬ (C ≤ 0 ∧ 0 ≠ g) := by omega
          have hfr : ∀ b, wc.heap.size ≤ b → C ≤ b ∧ b ≠ g := fun b hb => ⟨Nat.le_trans hI.out.size hb, by have := hI.out.gs; omega⟩
          have hTw := HT.out.below hI.out.bel HT.out.1
          by_cases hKM : M ≤ K
          · -- a packet of the other message
            have d1 : (M : Int) ≤ (K : Int) := by omega
            obtain ⟨K2, hK2⟩ : ∃ K2, K2 = K - M := ⟨_, rfl⟩
            have d2 : (K : Int) - (M : Int) = (K2 : Int) := by omega
            have hK2M : K2 < M2 := by omega
            have d3 : (0 : Int) ≤ (K2 : Int) := by omega
            have d4 : (K2 : Int) < (M2 : Int) := by omega
            have hpk := HNI.out K2 hK2M
            obtain ⟨b', o, n', k', Ai, ci, hvi, hci, hri⟩ := hI.out.pn.at_ hpk
            injection hvi with e2 e3 e4
            subst e2
            rw [HMM.out] at hri hci
            have cT := jtake_cut hJH (by have := two_keys hJH.nodup hoth; omega) (f := 1) (nr := 8) (by unfold I64; omega) (by omega) h8 (by rw [← HMM.out]; exact hK2M) hI.out.t8 HB8.out (.slice Ai (pkt 8 K2 (many oth) (piece oth K2)).length ci) hTw (hri.keep hI.out.size fun _ _ => rfl) (by unfold maxLen; omega) hfr
            rw [← HMM.out] at cT hci
            have HK2 := Lib.hid hK2
            clear hri hpk e3 e4 hJH h8 hK2
            go_wp2_with fail
            refine cT.mono ?_
            rintro r w5 ⟨v5, k5, J5, rfl, -, hJ5, hK5, hl5⟩
            clear cT hci
            have hI5 : ∃ t8', WInv w w5 C g j mb msg oth L N (.slice Al M cl) (.slice (some ⟨b', o, none⟩) M2 cn) zs.length (i + 1) t7 t8' := by
              have hbel := hI.out.bel.trans (hK5.below (B := w.heap.size) hI.out.bel.size (fun b hb => Nat.le_trans hwC hb.1))
              have hot : ∀ q, q ≠ (1, 7) → q ≠ (1, 8) → look J5 q = none := fun q h1 h2 => by
                rw [hl5 q, if_neg (fun e => h2 e.symm)]
                exact hoth q h1 h2
              have h75 : look J5 (1, 7) = if allT (many msg) t7 then none else hasP (1, 7) msg t7 := by
                rw [hl5 (1, 7), if_neg (show ¬ ((1 : Int), ((8 : Nat) : Int)) = (1, 7) by decide)]
                exact h7
              have h85 := hl5 (1, 8)
              rw [if_pos (show ((1 : Int), ((8 : Nat) : Int)) = (1, 8) from rfl)] at h85
              have hcome : ∀ k, k < many msg → zs.length + k < i + 1 → t7 k = true := fun k hk hki => by
                refine hI.out.come k hk ?_
                apply Classical.byContradiction
                intro hno
                have := hKi (by omega)
                rw [← HM.out] at hk
                omega
              have rest := fun t8' (h8' : look J5 (1, 8) = hasP (1, 8) oth t8') (hn8 : allT (many oth) t8' = false) => (⟨⟨J5, n + 1, hJ5, by omega, h75, h8', hot⟩, hn8, hcome, hI.out.there.kept hK5 (fun h => h.2 rfl), hI.out.pl.kept hK5 (fun b hb h => by omega) hI.out.size, hI.out.pn.kept hK5 (fun b hb h => by omega) hI.out.size, hbel, Nat.le_trans hI.out.size hK5.size, Nat.lt_of_lt_of_le hI.out.gs hK5.size⟩ : WInv w w5 C g j mb msg oth L N (.slice Al M cl) (.slice (some ⟨b', o, none⟩) M2 cn) zs.length (i + 1) t7 t8')
              cases hA : allT M2 (addT t8 K2) with
              | true =>
                rw [hA] at h85
                exact ⟨noT, rest noT (by rw [hasP_no]; simpa using h85) (by rw [← upT_zero]; exact upT_not (by rw [← HMM.out]; omega))⟩
              | false =>
                rw [hA] at h85
                exact ⟨addT t8 K2, rest _ (by simpa using h85) (by rw [← HMM.out]; exact hA)⟩
            obtain ⟨t8', hI5⟩ := hI5
            have HI5 := Lib.hid hI5
            clear hI5 hJ5 hK5 hl5
            go_wp2_with fail
            exact ⟨⟨i + 1, t7, t8', rfl, by go_num, by omega, HI5⟩, by simp [intOf]; omega⟩
          · -- a packet of the message
            have d1 : ¬ (M : Int) ≤ (K : Int) := by omega
            have hKM' : K < M := by omega
            have d4 : (K : Int) < (M : Int) := by omega
            have hpk := HLI.out K hKM'
            have hps := pkt_small (n := 7) (p := K) (m := M) (d := piece msg K) (by omega) (by omega) (by omega) (piece_length _ _)
            obtain ⟨b', o, n', k', Ai, ci, hvi, hci, hri⟩ := hI.out.pl.at_ hpk
            injection hvi with e2 e3 e4
            subst e2
            have d5 : ¬ (400 : Int) < ((pkt 7 K M (piece msg K)).length : Int) := by omega
            rw [hnall] at h7
            have h7' : look J (1, 7) = hasP (1, 7) msg t7 := by simpa using h7
            rw [HM.out] at hri hci d5
            have cT := jtake_cut hJH (by have := two_keys hJH.nodup hoth; omega) (f := 1) (nr := 7) (by unfold I64; omega) (by omega) h7' (by rw [← HM.out]; exact hKM') hnall HA8.out (.slice Ai (pkt 7 K (many msg) (piece msg K)).length ci) hTw (hri.keep hI.out.size fun _ _ => rfl) (by unfold maxLen; omega) hfr
            rw [← HM.out] at cT hci d5
            clear hri hpk e3 e4 hJH h7 h7' hps
            go_wp2_with fail
            refine cT.mono ?_
            rintro r w5 ⟨v5, k5, J5, rfl, ho5, hJ5, hK5, hl5⟩
            clear cT hci d5
            have hth5 := hI.out.there.kept hK5 (fun h => h.2 rfl)
            rw [← HM.out] at hth5
            obtain ⟨hc5, hf5, hset5⟩ := hth5.at_ hKM'
            obtain ⟨A5, c5, hv5⟩ := own_slice ho5
            have hbel5 := hI.out.bel.trans (hK5.below (B := w.heap.size) hI.out.bel.size (fun b hb => Nat.le_trans hwC hb.1))
            have hP5 := hI.out.pl.kept hK5 (fun b hb h => by omega) hI.out.size
            have hQ5 := hI.out.pn.kept hK5 (fun b hb h => by omega) hI.out.size
            have hs5 := Nat.le_trans hI.out.size hK5.size
            have hg5 := Nat.lt_of_lt_of_le hI.out.gs hK5.size
            have hgw := hI.out.gs
            have hot : ∀ q, q ≠ (1, 7) → q ≠ (1, 8) → look J5 q = none := fun q h1 h2 => by
              rw [hl5 q, if_neg (fun e => h1 e.symm)]
              exact hoth q h1 h2
            have h85 : look J5 (1, 8) = hasP (1, 8) oth t8 := by
              rw [hl5 (1, 8), if_neg (show ¬ ((1 : Int), ((7 : Nat) : Int)) = (1, 8) by decide)]
              exact h8
            have h75 := hl5 (1, 7)
            rw [if_pos (show ((1 : Int), ((7 : Nat) : Int)) = (1, 7) from rfl)] at h75
            have hcome : ∀ k, k < many msg → zs.length + k < i + 1 → addT t7 K k = true := fun k hk hki => by
              unfold addT
              by_cases hkK : k = K
              · subst hkK; simp
              · have : t7 k = true := by
                  refine hI.out.come k hk ?_
                  apply Classical.byContradiction
                  intro hno
                  have := hKi (by omega)
                  omega
                rw [this]; rfl
            cases ht : t7 K with
            | true =>
              have hadd := addT_there ht
              rw [hadd] at h75 ho5 hcome ⊢
              rw [← HM.out] at hnall
              rw [hnall] at ho5 h75 ⊢
              have hk5 := ho5.1
              rw [BS_length] at hk5
              have hk0 : k5 = 0 := by simpa using hk5.symm
              subst hv5
              subst hk0
              have HI5 : Hid (WInv w w5 C g j mb msg oth L N (.slice (some ⟨b', o, none⟩) M cl) (.slice An M2 cn) zs.length (i + 1) t7 t8) := Lib.hid ⟨⟨J5, n + 1, hJ5, by omega, by rw [← HM.out, hnall]; simpa using h75, h85, hot⟩, hI.out.t8, hcome, by rw [← HM.out]; exact hth5, hP5, hQ5, hbel5, hs5, hg5⟩
              rw [ht] at hc5
              have e0 : ((cntT M t7 : Int) == 0) = false := by rw [beq_eq_false_iff_ne]; omega
              have e1 : ¬ (cntT M t7 : Int) = 0 := by omega
              clear hJ5 hK5 hl5 hset5 ho5 hk5 hP5 hQ5 hth5 hot h85 h75 hcome hbel5 hadd
              go_wp2_with fail
              exact ⟨⟨i + 1, t7, t8, rfl, by go_num, by omega, HI5⟩, by simp [intOf]; omega⟩
            | false =>
              have hcnt := cnt_add hKM' ht
              have hcb : cntT M (addT t7 K) ≤ M := by unfold cntT; have := List.countP_le_length (p := fun i => !addT t7 K i) (l := List.range M); rw [List.length_range] at this; exact this
              obtain ⟨t7', ht7'⟩ : ∃ t7', t7' = addT t7 K := ⟨_, rfl⟩
              rw [← ht7'] at h75 ho5 hcome hset5 hcnt hcb ⊢
              rw [ht] at hc5
              have e1 : (cntT M t7 : Int) - 1 = (cntT M t7' : Int) := by omega
              have hKs : Kept w5 (w5.setCell ⟨g, K, none⟩ (.bool true)) (fun b => b = g) := Kept.setCell _ ⟨g, K, none⟩ _ _ rfl
              have HI5 : Hid (WInv w (w5.setCell ⟨g, K, none⟩ (.bool true)) C g j mb msg oth L N (.slice (some ⟨b', o, none⟩) M cl) (.slice An M2 cn) zs.length (i + 1) t7' t8) := Lib.hid ⟨⟨J5, n + 1, hJ5.kept hKs (fun b hb h => hb.2 h), by omega, by rw [h75, ← HM.out]; rfl, h85, hot⟩, hI.out.t8, hcome, by rw [← HM.out]; exact hset5, hP5.kept hKs (fun b hb h => by omega) hs5, hQ5.kept hKs (fun b hb h => by omega) hs5, hbel5.setCell (p := ⟨g, K, none⟩) (Nat.le_trans hwC hg0) _, Nat.le_trans hs5 hKs.size, Nat.lt_of_lt_of_le hg5 hKs.size⟩
              have hbel6 : Below w.heap.size w (w5.setCell ⟨g, K, none⟩ (.bool true)) := hbel5.setCell (p := ⟨g, K, none⟩) (Nat.le_trans hwC hg0) _
              cases hA : allT M t7' with
              | true =>
                have hz0 : cntT M t7' = 0 := by
                  rcases Nat.eq_zero_or_pos (cntT M t7') with h | h
                  · exact h
                  · rw [HM.out] at h hA
                    rw [cnt_pos.1 h] at hA
                    cases hA
                rw [hA, if_pos rfl] at ho5
                have ho6 := row_same (w' := w5.setCell ⟨g, K, none⟩ (.bool true)) ho5 fun p hp => set_far (by have := (ho5.lt p hp).1; omega)
                subst hv5
                have hcv : (convert 27 9 (.slice A5 k5 c5)).run Tryd.prog (w5.setCell ⟨g, K, none⟩ (.bool true)) = .ok (.string (tx msg)) (w5.setCell ⟨g, K, none⟩ (.bool true)) := conv_str (Rd.own ho6)
                have hcw : (convert 27 9 (.slice A msg.length c)).run Tryd.prog (w5.setCell ⟨g, K, none⟩ (.bool true)) = .ok (.string (tx msg)) (w5.setCell ⟨g, K, none⟩ (.bool true)) := conv_str (HV.out.below hbel6 hbel6.size)
                have e2 : (cntT M t7' : Int) = 0 := by omega
                rw [e2] at e1
                clear hJ5 hK5 hl5 hset5 ho5 ho6 hP5 hQ5 hth5 hot h85 h75 hcome hbel5 hbel6 hA hKs hcnt ht7'
                go_wp2_with fail
                exact ⟨⟨i + 1, t7', t8, by rw [e2], by go_num, by omega, HI5⟩, by simp [intOf]; omega⟩
              | false =>
                have hz0 : 0 < cntT M t7' := by rw [HM.out]; exact cnt_pos.2 (by rw [← HM.out]; exact hA)
                rw [hA, if_neg (by simp)] at ho5
                have hk5 := ho5.1
                rw [BS_length] at hk5
                have hk0 : k5 = 0 := by simpa using hk5.symm
                subst hv5
                subst hk0
                have e2 : ¬ (cntT M t7' : Int) = 0 := by omega
                have e3 : ((cntT M t7' : Int) == 0) = false := by rw [beq_eq_false_iff_ne]; exact e2
                clear hJ5 hK5 hl5 hset5 ho5 hk5 hP5 hQ5 hth5 hot h85 h75 hcome hbel5 hbel6 hA hKs hcnt ht7'
                go_wp2_with fail
                exact ⟨⟨i + 1, t7', t8, by first | rfl | rw [e1], by go_num, by omega, HI5⟩, by simp [intOf]; omega⟩
      · have hall : allT (many msg) t7 = true := by
          apply Classical.byContradiction
          intro hn
          have hn : allT (many msg) t7 = false := by simpa using hn
          have hc : 0 < cntT M t7 := by rw [HM.out]; exact cnt_pos.2 hn
          have hie : i = zs.length + M := by omega
          have := allT_iff.2 (fun k hk => hI.out.come k hk (by rw [hie, HM.out]; omega))
          rw [hn] at this
          cases this
        have hc0 : cntT M t7 = 0 := by
          rcases Nat.eq_zero_or_pos (cntT M t7) with h | h
          · exact h
          · rw [HM.out] at h
            rw [cnt_pos.1 h] at hall
            cases hall
        obtain ⟨J, n, hJH, hn, h7, h8, hoth⟩ := hI.out.has
        rw [if_pos hall] at h7
        have hJl : J.length ≤ 1 := one_key (a := (1, 8)) hJH.nodup (fun q hq => by
          by_cases hq7 : q = (1, 7)
          · rw [hq7]; exact h7
          · exact hoth q hq7 hq)
        have cL := jlen_any hJH
        have b2 : ¬ (0 : Int) < (cntT M t7 : Int) := by omega
        have b3 : (J.length : Int) ≤ 1 := by omega
        rw [hc0]
        clear hJH hn h7 h8 hoth hall
        by_cases b1 : (i : Int) < (zs.length : Int) + (M : Int)
        · go_wp2_with fail
          refine cL.mono ?_
          rintro r w9 ⟨rfl, rfl⟩
          clear cL
          go_wp2_with fail
          go_ret
          exact ⟨rfl, hI.out.bel⟩
        · go_wp2_with fail
          refine cL.mono ?_
          rintro r w9 ⟨rfl, rfl⟩
          clear cL
          go_wp2_with fail
          go_ret
          exact ⟨rfl, hI.out.bel⟩
end Go.Proofs.YtfmaocinckeagaaDoor
