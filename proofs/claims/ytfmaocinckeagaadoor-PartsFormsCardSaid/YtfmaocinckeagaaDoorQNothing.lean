/-
  PartsNothing walked. No statement is proved here. Condition: the table reads as the program lays it.
-/
import Derived.Test.YtfmaocinckeagaaDoorQAwake
namespace Go.Proofs.YtfmaocinckeagaaDoor
open Go.RowKit

theorem cutErr_ok {n : Nat} {l : List UInt8} (hn : n ≤ 2147483647) (hl : l.length ≤ 8192) : cutErr (n : Int) l = 0 := by unfold cutErr; rw [if_neg (by omega), if_neg (by omega)]
theorem cutP_ok {n : Nat} {l : List UInt8} (hn : n ≤ 2147483647) (hl : l.length ≤ 8192) : (cutP (n : Int) l).length = many l ∧ ∀ i, i < many l → (cutP (n : Int) l)[i]? = some (pkt n i (many l) (piece l i)) := by
  unfold cutP
  rw [if_pos (cutErr_ok hn hl)]
  refine ⟨by simp, fun i hi => ?_⟩
  rw [List.getElem?_map, List.getElem?_range hi]
  rfl
/-- the first i parts are there -/
def upT (i : Nat) : Nat → Bool := fun k => decide (k < i)
theorem upT_zero : upT 0 = noT := by funext k; simp [upT, noT]
theorem upT_succ (i : Nat) : addT (upT i) i = upT (i + 1) := by
  funext k
  unfold addT upT
  rw [Bool.eq_iff_iff]
  simp
  omega
theorem upT_not {m i : Nat} (h : i < m) : allT m (upT i) = false := by
  cases ha : allT m (upT i) with
  | false => rfl
  | true =>
    have := allT_iff.1 ha i h
    simp [upT] at this
theorem upT_all (m : Nat) : allT m (upT m) = true := allT_iff.2 fun k hk => by simpa [upT] using hk
theorem anyT_no (m : Nat) : anyT m noT = false := by
  cases ha : anyT m noT with
  | false => rfl
  | true => obtain ⟨i, -, h⟩ := anyT_iff.1 ha; cases h
theorem hasP_no (key : Key) (l : List UInt8) : hasP key l noT = none := by unfold hasP; rw [anyT_no]; rfl
set_option maxHeartbeats 8000000 in
set_option maxRecDepth 100000 in
theorem nothing_walk (l m : List UInt8) (frm : Int) (v u : Value) (w : World) (hf : I64 frm) (ht : Tab w) (hv : Rd w w.heap.size v l) (hu : Rd w w.heap.size u m) (hl : l.length ≤ 140737488351232) (hm : m.length ≤ 140737488351232) :
    Calls Tryd.prog 9 #[v, u, .int .i64 frm] w fun r w' => r = .returned (.bool true) ∧ Below w.heap.size w w' := by
  have cW := works_any w ht
  have HV := Lib.hid hv
  have HU := Lib.hid hu
  have HT := Lib.hid ht
  obtain ⟨A, c, rfl, -⟩ := hv
  obtain ⟨A2, c2, rfl, -⟩ := hu
  clear ht
  by_cases h8 : 8192 < l.length
  · have a1 : (8192 : Int) < (l.length : Int) := by omega
    go_enter Tryd.func9, Tryd.ntmps9
    go_wp2_with fail
    refine cW.mono ?_
    rintro r w1 ⟨rfl, hb1⟩
    have cW2 := works_any w1 (HT.out.below hb1 HT.out.1)
    have HB1 := Lib.hid hb1
    clear cW hb1
    go_wp2_with fail
    refine cW2.mono ?_
    rintro r w2 ⟨rfl, hb2⟩
    have HB2 := Lib.hid (HB1.out.trans (Joins.below_le hb2 HB1.out.size))
    clear cW2 hb2
    go_wp2_with fail
    go_ret
    exact ⟨rfl, HB2.out⟩
  · have a1 : ¬ (8192 : Int) < (l.length : Int) := by omega
    by_cases h1 : 1000 < m.length
    · have a2 : (1000 : Int) < (m.length : Int) := by omega
      go_enter Tryd.func9, Tryd.ntmps9
      go_wp2_with fail
      refine cW.mono ?_
      rintro r w1 ⟨rfl, hb1⟩
      have cW2 := works_any w1 (HT.out.below hb1 HT.out.1)
      have HB1 := Lib.hid hb1
      clear cW hb1
      go_wp2_with fail
      refine cW2.mono ?_
      rintro r w2 ⟨rfl, hb2⟩
      have HB2 := Lib.hid (HB1.out.trans (Joins.below_le hb2 HB1.out.size))
      clear cW2 hb2
      go_wp2_with fail
      go_ret
      exact ⟨rfl, HB2.out⟩
    · have a2 : ¬ (1000 : Int) < (m.length : Int) := by omega
      have hl8 : l.length ≤ 8192 := by omega
      have hE := cutErr_ok (n := 7) (l := l) (by omega) hl8
      obtain ⟨hLl, hLi⟩ := cutP_ok (n := 7) (l := l) (by omega) hl8
      obtain ⟨M, hM⟩ : ∃ M, M = many l := ⟨_, rfl⟩
      have hM1 : 1 ≤ M := by rw [hM]; exact many_pos l
      have hM2 : M ≤ 22 := by rw [hM]; exact many_small hl8
      have cC := fun W (hb : Below w.heap.size w W) => cut_any ((7 : Nat) : Int) l (.slice A l.length c) W (HT.out.below hb HT.out.1) (HV.out.below hb hb.size) (by omega)
      rw [hE] at cC
      obtain ⟨L, hL⟩ : ∃ L, L = cutP ((7 : Nat) : Int) l := ⟨_, rfl⟩
      rw [← hL] at cC hLl hLi
      rw [← hM] at hLl hLi
      have HLI := Lib.hid hLi
      have HM := Lib.hid hM
      have H8 := Lib.hid hl8
      clear hE hL hLi hM h8 h1 hl hm hl8
      go_enter Tryd.func9, Tryd.ntmps9
      go_wp2_with fail
      refine cW.mono ?_
      rintro r w1 ⟨rfl, hb1⟩
      have cC1 := cC w1 hb1
      rw [show (((7 : Nat) : Int)) = 7 from rfl] at cC1
      have HB1 := Lib.hid hb1
      clear cW hb1 cC
      go_wp2_with fail
      refine cC1.mono ?_
      rintro r w2 ⟨vl, ss, rfl, hC, hb2⟩
      have hP2 := Pks.of hC
      obtain ⟨Al, cl, rfl⟩ := hC.slice
      rw [hLl] at hP2
      rw [hLl]
      obtain ⟨C, hCe⟩ : ∃ C, C = w2.heap.size := ⟨_, rfl⟩
      rw [← hCe] at hP2
      have hB2 := HB1.out.trans (Joins.below_le hb2 HB1.out.size)
      have hwC : w.heap.size ≤ C := by rw [hCe]; exact hB2.size
      have HP2 := Lib.hid hP2
      have HB2 := Lib.hid hB2
      have HCE := Lib.hid hCe
      clear cC1 hC hb2 hP2 hB2 hCe
      go_wp2_with fail
      refine (jnew_any w2).mono ?_
      rintro r w3 ⟨j, mb, rfl, hJ3, hb3⟩
      rw [← HCE.out] at hJ3 hb3
      have HB3 := Lib.hid (HB2.out.trans (Joins.below_le hb3 hwC))
      have HP3 := Lib.hid (HP2.out.below (by rw [← HCE.out]; exact hb3) (by rw [HCE.out]; exact Nat.le_refl _))
      have HJ3 : Hid (∃ J, JHas w3 (fun b => C ≤ b) j mb 0 J ∧ (0 < M → look J (1, 7) = hasP (1, 7) l (upT 0)) ∧ ∀ q, q ≠ (1, 7) → look J q = none) := Lib.hid ⟨[], hJ3, fun _ => by rw [upT_zero, hasP_no]; rfl, fun _ _ => rfl⟩
      have hs3 : C ≤ w3.heap.size := by rw [HCE.out]; exact hb3.size
      clear hJ3 hb3
      have hC0 : 0 < C := Nat.lt_of_lt_of_le HT.out.1 hwC
      go_wp2_with fail
      go_loopw [10, 11, 12, 13, 14, 15, 16, 17] (fun s10 _ _ _ _ _ _ _ wr => ∃ i : Nat, s10 = .int .i64 (i : Int) ∧ i ≤ M ∧ Hid (∃ J, JHas wr (fun b => C ≤ b) j mb i J ∧ (i < M → look J (1, 7) = hasP (1, 7) l (upT i)) ∧ ∀ q, q ≠ (1, 7) → look J q = none) ∧ Hid (Pks wr C (.slice Al M cl) L) ∧ Hid (Below w.heap.size w wr) ∧ Hid (C ≤ wr.heap.size)) (fun s10 _ _ _ _ _ _ _ _ => M - (intOf s10).toNat)
      case atStart => exact ⟨0, rfl, Nat.zero_le _, HJ3, HP3, HB3, Lib.hid hs3⟩
      case round =>
        clear HJ3 HP3 HB3 hs3
        obtain ⟨i, rfl, hi, hJ, hP, hB, hS⟩ := hrel
        obtain ⟨wz, hwz⟩ : ∃ wz : World, wz = wr := ⟨_, rfl⟩
        subst hwz
        by_cases hiM : i < M
        · have b1 : (i : Int) < (M : Int) := by omega
          have b0 : (0 : Int) ≤ (i : Int) := by omega
          obtain ⟨J, hJH, hlk, hoth⟩ := hJ.out
          have hlk := hlk hiM
          have hJl := one_key hJH.nodup hoth
          have cL := jlen_any hJH
          have hTz := HT.out.below hB.out HT.out.1
          have huz := HU.out.below hB.out hB.out.size
          rcases readP_cases m with ⟨p, hp⟩ | ⟨er, he, hp⟩
          · have cT := jtake_any hJH m (.slice A2 m.length c2) frm hf p hTz huz (by omega) hp (by unfold maxLen; omega) (fun b hb => Nat.le_trans hS.out hb)
            clear hlk hJH hTz huz hp
            go_wp2_with fail
            refine cL.mono ?_
            rintro r w4' ⟨rfl, rfl⟩
            clear cL
            go_wp2_with fail
            refine cT.mono ?_
            rintro r w4 ⟨v', k, rfl, ho, -, hK4⟩
            obtain ⟨A4, c4, hv4⟩ := own_slice ho
            subst hv4
            obtain ⟨bb, hbb⟩ : ∃ bb, bb = (stepJ J (frm, (p.number : Int)) p).1.isSome := ⟨_, rfl⟩
            rw [← hbb]
            have HB4 := Lib.hid (hB.out.trans (hK4.below (B := w.heap.size) hB.out.size (fun b hb => Nat.le_trans hwC hb)))
            clear cT ho hK4 hbb
            go_wp2_with fail
            go_ret
            exact ⟨rfl, HB4.out⟩
          · have cN := ptake_no m (.slice A2 m.length c2) frm j er wz hTz huz (by omega) hp he
            have e0 : (er != 0) = true := by simpa using he
            have e1 : (er == 0) = false := by simpa using he
            have HJH := Lib.hid hJH
            clear hJH hTz huz hp
            go_wp2_with fail
            refine cL.mono ?_
            rintro r w4' ⟨rfl, rfl⟩
            clear cL
            go_wp2_with fail
            refine cN.mono ?_
            rintro r w4 ⟨rfl, hb4⟩
            clear cN
            have hJ4 := HJH.out.grow hb4
            have cL2 := jlen_any hJ4
            have hP4 := hP.out.below hb4 hS.out
            have hs4 := Nat.le_trans hS.out hb4.size
            have hB4 := hB.out.trans (Joins.below_le hb4 hB.out.size)
            have hpk := HLI.out i hiM
            obtain ⟨b, o, n', k', Ai, ci, hvi, hci, hri⟩ := hP4.at_ hpk
            injection hvi with e2 e3 e4
            subst e2
            have hnA := upT_not (m := M) hiM
            rw [HM.out] at hnA hpk hri hci
            have cT := jtake_cut hJ4 (by omega) (f := 1) (nr := 7) (by unfold I64; omega) (by omega) hlk (by rw [← HM.out]; exact hiM) hnA H8.out (.slice Ai (pkt 7 i (many l) (piece l i)).length ci) (HT.out.below hB4 HT.out.1) (hri.keep hs4 fun _ _ => rfl) (by unfold maxLen; omega) (fun b hb => Nat.le_trans hs4 hb)
            rw [upT_succ, ← HM.out] at cT
            rw [← HM.out] at hci
            have HP4 := Lib.hid hP4
            have HB4 := Lib.hid hB4
            have HS4 := Lib.hid hs4
            have hvm : Rd w4 w4.heap.size (.slice A l.length c) l := HV.out.below hB4 hB4.size
            have HVM := Lib.hid hvm
            clear hvm hJ4 hP4 hB4 hs4 hb4 e3 e4 hpk hri hlk hnA
            go_wp2_with fail
            refine cL2.mono ?_
            rintro r w4' ⟨rfl, rfl⟩
            clear cL2
            go_wp2_with fail
            refine cT.mono ?_
            rintro r w5 ⟨v5, k5, J5, rfl, ho5, hJ5, hK5, hl5⟩
            clear cT hci
            have hP5 := HP4.out.kept hK5 (fun b hb => by omega) HS4.out
            have HS5 := Lib.hid (Nat.le_trans HS4.out hK5.size)
            have HB5 := Lib.hid (HB4.out.trans (hK5.below (B := w.heap.size) HB4.out.size (fun b hb => Nat.le_trans hwC hb)))
            have HP5 := Lib.hid hP5
            obtain ⟨A5, c5, hv5⟩ := own_slice ho5
            have hot : ∀ q, q ≠ (1, 7) → look J5 q = none := fun q hq => by
              rw [hl5 q, if_neg (fun e => hq e.symm)]
              exact hoth q hq
            by_cases hlast : i + 1 = M
            · have hA : allT M (upT (i + 1)) = true := by rw [hlast]; exact upT_all M
              rw [hA, if_pos rfl] at ho5
              have hk5 := ho5.1
              rw [BS_length] at hk5
              subst hv5
              have hcv : (convert 27 9 (.slice A5 k5 c5)).run Tryd.prog w5 = .ok (.string (tx l)) w5 := conv_str (Rd.own ho5)
              have hcw : (convert 27 9 (.slice A l.length c)).run Tryd.prog w5 = .ok (.string (tx l)) w5 := conv_str (HV.out.below HB5.out HB5.out.size)
              have HJ5 : Hid (∃ J, JHas w5 (fun b => C ≤ b) j mb (i + 1) J ∧ (i + 1 < M → look J (1, 7) = hasP (1, 7) l (upT (i + 1))) ∧ ∀ q, q ≠ (1, 7) → look J q = none) := Lib.hid ⟨J5, hJ5, fun h => by omega, hot⟩
              have d1 : (i : Int) = (M : Int) - 1 := by omega
              have d2 : ((i : Int) == (M : Int) - 1) = true := by rw [d1]; simp
              rw [hA]
              clear hJ5 hK5 hl5 hot ho5 hk5 hP5 hA hlast
              go_wp2_with fail
              exact ⟨⟨i + 1, by go_num, hiM, HJ5, HP5, HB5, HS5⟩, by simp [intOf]; omega⟩
            · have hA : allT M (upT (i + 1)) = false := upT_not (by omega)
              subst hv5
              have HJ5 : Hid (∃ J, JHas w5 (fun b => C ≤ b) j mb (i + 1) J ∧ (i + 1 < M → look J (1, 7) = hasP (1, 7) l (upT (i + 1))) ∧ ∀ q, q ≠ (1, 7) → look J q = none) := Lib.hid ⟨J5, hJ5, fun _ => by
                have := hl5 (1, 7)
                rw [if_pos (show ((1 : Int), ((7 : Nat) : Int)) = (1, 7) from rfl), hA] at this
                simpa using this, hot⟩
              have d1 : ¬ (i : Int) = (M : Int) - 1 := by omega
              have d2 : ((i : Int) == (M : Int) - 1) = false := by rw [beq_eq_false_iff_ne]; exact d1
              rw [hA]
              clear hJ5 hK5 hl5 hot ho5 hP5 hA hlast
              go_wp2_with fail
              exact ⟨⟨i + 1, by go_num, hiM, HJ5, HP5, HB5, HS5⟩, by simp [intOf]; omega⟩
        · have b1 : ¬ (i : Int) < (M : Int) := by omega
          go_wp2_with fail
          go_ret
          exact ⟨rfl, hB.out⟩
end Go.Proofs.YtfmaocinckeagaaDoor
