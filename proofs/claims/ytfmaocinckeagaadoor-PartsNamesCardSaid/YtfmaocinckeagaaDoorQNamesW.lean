/-
  PartsNames walked. No statement is proved here. Condition: the table reads as the program lays it.
-/
import Derived.Test.YtfmaocinckeagaaDoorQNames
namespace Go.Proofs.YtfmaocinckeagaaDoor
open Go.RowKit

set_option maxHeartbeats 16000000 in
set_option maxRecDepth 100000 in
theorem names_walk (w : World) (ht : Tab w) : Calls Tryd.prog 3 #[] w fun r w' => r = .returned (.bool true) ∧ Below w.heap.size w w' := by
  have cW := works_any w ht
  have HT := Lib.hid ht
  have h0 := ht.1
  have cut := fun (n : Int) (l : List UInt8) (v : Value) W (hb : Below w.heap.size w W) (hr : Rd W W.heap.size v l) (hl : l.length ≤ 140737488355328) => cut_any n l v W (HT.out.below hb h0) hr hl
  clear ht
  go_enter Tryd.func3, Tryd.ntmps3
  go_wp2_with fail
  refine cW.mono ?_
  rintro r w1 ⟨rfl, hb1⟩
  have c1 := cut (-1) [] (.slice none 0 0) w1 hb1 (Rd.nil _ _) (by simp)
  rw [cut_a] at c1
  have HB1 := Lib.hid hb1
  clear cW hb1
  go_wp2_with fail
  refine c1.mono ?_
  rintro r w2 ⟨v2, ss2, rfl, hC, hb2⟩
  obtain ⟨A2, n2, rfl⟩ := hC.slice
  generalize (cutP (-1) []).length = k2
  have hB2 := HB1.out.trans (Joins.below_le hb2 HB1.out.size)
  have c2 := cut 2147483648 [] (.slice none 0 0) w2 hB2 (Rd.nil _ _) (by simp)
  rw [cut_b] at c2
  have HB2 := Lib.hid hB2
  clear c1 hC hb2 hB2
  go_wp2_with fail
  refine c2.mono ?_
  rintro r w3 ⟨v3, ss3, rfl, hC, hb3⟩
  obtain ⟨A3, n3, rfl⟩ := hC.slice
  generalize (cutP 2147483648 []).length = k3
  have hB3 := HB2.out.trans (Joins.below_le hb3 HB2.out.size)
  obtain ⟨w4, hmk4, hrd4, hb4⟩ := noughts_rd 8193 (by omega) w3
  have hmk : (Instr.makeSlice 27 (.int .i64 8193) (.int .i64 8193)).run Tryd.prog w3 = .ok (.slice (some ⟨w3.heap.size, 0, none⟩) 8193 8193) w4 := hmk4
  have hB4 := hB3.trans (Joins.below_le hb4 hB3.size)
  have c3 := cut 0 (List.replicate 8193 0) _ w4 hB4 hrd4 (by rw [List.length_replicate]; omega)
  rw [cut_c] at c3
  have HB4 := Lib.hid hB4
  clear c2 hC hb3 hB3 hmk4 hrd4 hb4 hB4
  go_wp2_with fail
  refine c3.mono ?_
  rintro r w5 ⟨v5, ss5, rfl, hC, hb5⟩
  obtain ⟨A5, n5, rfl⟩ := hC.slice
  generalize (cutP 0 (List.replicate 8193 0)).length = k5
  have hB5 := HB4.out.trans (Joins.below_le hb5 HB4.out.size)
  obtain ⟨w6, hmk6, hrd6, hb6⟩ := noughts_rd 8192 (by omega) w5
  have hmk' : (Instr.makeSlice 27 (.int .i64 8192) (.int .i64 8192)).run Tryd.prog w5 = .ok (.slice (some ⟨w5.heap.size, 0, none⟩) 8192 8192) w6 := hmk6
  have hB6 := hB5.trans (Joins.below_le hb6 hB5.size)
  have c4 := cut 2147483647 (List.replicate 8192 0) _ w6 hB6 hrd6 (by rw [List.length_replicate]; omega)
  rw [cut_d.1] at c4
  have HB6 := Lib.hid hB6
  clear c3 hC hb5 hB5 hmk6 hrd6 hb6 hB6 hmk
  go_wp2_with fail
  refine c4.mono ?_
  rintro r w7 ⟨v7, ss7, rfl, hC, hb7⟩
  obtain ⟨A7, n7, rfl⟩ := hC.slice
  rw [cut_d.2]
  have hB7 := HB6.out.trans (Joins.below_le hb7 HB6.out.size)
  have c5 := cut 0 [] (.slice none 0 0) w7 hB7 (Rd.nil _ _) (by simp)
  rw [nil_cut.1, nil_cut.2] at c5
  have HB7 := Lib.hid hB7
  clear c4 hC hb7 hB7 hmk'
  go_wp2_with fail
  refine c5.mono ?_
  rintro r w8 ⟨v8, ss8, rfl, hC, hb8⟩
  have hP8 := Pks.of hC
  obtain ⟨A8, n8, rfl⟩ := hC.slice
  rw [show ([pkt 0 0 1 []] : List (List UInt8)).length = 1 from rfl] at hP8 ⊢
  obtain ⟨C, hCe⟩ : ∃ C, C = w8.heap.size := ⟨_, rfl⟩
  rw [← hCe] at hP8
  have hB8 := HB7.out.trans (Joins.below_le hb8 HB7.out.size)
  have hwC : w.heap.size ≤ C := by rw [hCe]; exact hB8.size
  have HP8 := Lib.hid hP8
  have HB8 := Lib.hid hB8
  have HCE := Lib.hid hCe
  have hC0 : 0 < C := by omega
  clear c5 hC hb8 hP8 hB8 hCe
  go_wp2_with fail
  refine (jnew_any w8).mono ?_
  rintro r w9 ⟨j, mb, rfl, hJ9, hb9⟩
  rw [← HCE.out] at hJ9 hb9
  have hB9 := HB8.out.trans (Joins.below_le hb9 hwC)
  have hP9 := HP8.out.below (by rw [← HCE.out]; exact hb9) (by rw [HCE.out]; exact Nat.le_refl _)
  have hs9 : C ≤ w9.heap.size := by rw [HCE.out]; exact hb9.size
  have HJ9 := Lib.hid hJ9
  have HB9 := Lib.hid hB9
  have HP9 := Lib.hid hP9
  clear hJ9 hb9 hB9 hP9
  have hcv := Go.Joins.run_convert_bytes_const_at (P := Tryd.prog) w9 27 5 #[.int .u8 120] 1 1 w9.heap.size rfl Tryd.underlying27 Tryd.underlying5
  obtain ⟨w10, hw10⟩ : ∃ w10, w10 = w9.alloc (.cells #[.int .u8 120] 5 ((#[.int .u8 120] : Array Value).size, (#[.int .u8 120] : Array Value).size + 1)) := ⟨_, rfl⟩
  rw [← hw10] at hcv
  have hb10 : Below w9.heap.size w9 w10 := by rw [hw10]; exact (Below.refl _ _).alloc (Nat.le_refl _) _
  have hrd10 : Rd w10 w10.heap.size (.slice (some ⟨w9.heap.size, 0, none⟩) 1 1) [120] := by
    have := Rd.litsF w9 5 #[.int .u8 120] ((#[.int .u8 120] : Array Value).size, (#[.int .u8 120] : Array Value).size + 1) [120] 1 rfl rfl (by unfold maxLen; simp)
    rw [← hw10] at this
    exact this.keep (by rw [hw10]; simp) fun _ _ => rfl
  have hB10 := HB9.out.trans (Joins.below_le hb10 HB9.out.size)
  have cX := ptake_no [120] _ 1 j 4 w10 (HT.out.below hB10 h0) hrd10 (by simp) x_read (by decide)
  have HW10 := Lib.hid hw10
  have HB10 := Lib.hid hB10
  have HJ10 := Lib.hid (HJ9.out.grow hb10)
  have HP10 := Lib.hid (HP9.out.below hb10 hs9)
  have hs10 := Nat.le_trans hs9 hb10.size
  clear hb10 hrd10 hB10 hw10 
  go_wp2_with fail
  refine cX.mono ?_
  rintro r w11 ⟨rfl, hb11⟩
  have hP11 := HP10.out.below hb11 hs10
  have hJ11 := HJ10.out.grow hb11
  have hs11 := Nat.le_trans hs10 hb11.size
  have hB11 := HB10.out.trans (Joins.below_le hb11 HB10.out.size)
  obtain ⟨b, o, n', k', Ai, ci, hvi, hci, hri⟩ := hP11.at_ (i := 0) (l := pkt 0 0 1 []) rfl
  injection hvi with e2 e3 e4
  subst e2
  rw [Nat.add_zero] at hci
  have cT := jtake_any hJ11 _ (.slice Ai (pkt 0 0 1 []).length ci) 1 (by unfold I64; omega) _ (HT.out.below hB11 h0) (hri.keep hs11 fun _ _ => rfl) (by rw [nil_len]; omega) nil_read (by unfold maxLen; omega) (fun b hb => Nat.le_trans hs11 hb)
  dsimp only at cT
  rw [show (((0 : Nat) : Int)) = 0 from rfl, nil_step] at cT
  have HP11 := Lib.hid hP11
  have HB11 := Lib.hid hB11
  clear cX hb11 hP11 hJ11 hB11 hri e3 e4
  go_wp2_with fail
  refine cT.mono ?_
  rintro r w12 ⟨v12, k12, rfl, ho12, hJ12, hK12⟩
  have hk12 := ho12.1
  rw [BS_length] at hk12
  have hk0 : k12 = 0 := by simpa using hk12.symm
  obtain ⟨A12, c12, hv12⟩ := own_slice ho12
  subst hv12
  subst hk0
  have hP12 := HP11.out.kept hK12 (fun b hb => by omega) hs11
  have hs12 := Nat.le_trans hs11 hK12.size
  have hB12 := HB11.out.trans (hK12.below (B := w.heap.size) HB11.out.size (fun b hb => Nat.le_trans hwC hb))
  obtain ⟨b, o', n', k', Aj, cj, hvj, hcj, hrj⟩ := hP12.at_ (i := 0) (l := pkt 0 0 1 []) rfl
  injection hvj with e2 e3 e4
  injection e2 with e2
  injection e2 with e0 e1
  subst e0 e1
  rw [Nat.add_zero] at hcj
  have hcj2 : (w12.alloc (.cells #[] 5)).cell? ⟨b, o, none⟩ = some (.slice Aj (pkt 0 0 1 []).length cj) := (World.cell?_alloc_lt w12 _ ⟨b, o, none⟩ (World.block_lt_of_cell? w12 _ hcj)).trans hcj
  obtain ⟨S, hS⟩ : ∃ S, S = w12.heap.size := ⟨_, rfl⟩
  have hJ12' : JHas w12 (fun b => C ≤ b ∧ b < S) j mb (0 + 1) [] := hJ12.mono fun b hb h => ⟨h, by rw [hS]; exact hb⟩
  obtain ⟨v13, w13, hap, ho13, hb13⟩ := copy_new (hrj.keep hs12 fun _ _ => rfl) (by rw [nil_len]; omega)
  obtain ⟨A13, c13, hv13⟩ := own_slice ho13
  subst hv13
  have HAP := Lib.hid hap
  have HO13 := Lib.hid ho13
  have HP13 := Lib.hid (hP12.below hb13 hs12)
  have HB13 := Lib.hid (hB12.trans (Joins.below_le hb13 hB12.size))
  have HJ13 := Lib.hid (hJ12'.grow hb13)
  have hs13 := Nat.le_trans hs12 hb13.size
  have HS := Lib.hid hS
  have HB13' := Lib.hid hb13
  clear cT hci hJ12 hJ12' hK12 ho12 hk12 hP12 hB12 hrj e3 e4 hap ho13 hb13 hS
  go_upto_region 14 with (at_builtin; go_must (refine Lib.wpList_append_run _ rfl (.tmp 131) (.tmp 134) 27 27 rfl _ _ rfl rfl _ _ HAP.out ?_))
  clear HAP hcj hcj2 hcv
  have hd0 : 3 < (pkt 0 0 1 []).length := by rw [nil_len]; omega
  obtain ⟨g, cap, hvg, hgB, hgl, hgn, hgc, hcell, hfz, hupd⟩ := own_upd (byR_own HO13.out) hd0
  injection hvg with e1 e2 e3
  subst e1
  have hc0 := hcell 0 _ rfl
  rw [show 3 * byR.size + 0 = 3 from rfl] at hc0
  have hf0 := hfz 3
  obtain ⟨hu, -⟩ := hupd 77
  obtain ⟨w14, hw14⟩ : ∃ w14, w14 = w13.setCell ⟨g, 3, none⟩ (.int .u8 77) := ⟨_, rfl⟩
  have hu14 : byR.Own w14 w12.heap.size 5 (.slice (some ⟨g, 0, none⟩) (pkt 0 0 1 []).length c13) ((pkt 0 0 1 []).set 3 77) := by rw [hw14]; exact hu
  have hrd14 := Rd.own (byR_back hu14)
  have hK14 : Kept w13 w14 (fun b => b = g) := by rw [hw14]; exact Kept.setCell _ ⟨g, 3, none⟩ _ _ rfl
  have hJ14 := HJ13.out.kept hK14 (fun b hb h => by have := HS.out; omega)
  have hgw : w.heap.size ≤ g := by have := HS.out; have := hs12; omega
  have hB14 := HB13.out.trans (hK14.below (B := w.heap.size) HB13.out.size (fun b hb => by omega))
  have hP14 := HP13.out.kept hK14 (fun b hb h => by have := hs12; omega) hs13
  have hs14 := Nat.le_trans hs13 hK14.size
  have cB := ptake_no ((pkt 0 0 1 []).set 3 77) _ 1 j 30 w14 (HT.out.below hB14 h0) hrd14 (by rw [List.length_set, nil_len]; omega) bad_read (by decide)
  have d3 : (3 : Int) < ((pkt 0 0 1 []).length : Int) := by omega
  have HW14 := Lib.hid hw14
  have HJ14 := Lib.hid hJ14
  have HB14 := Lib.hid hB14
  have HP14 := Lib.hid hP14
  clear hcell hfz hupd hu hu14 hrd14 hK14 hJ14 hB14 hP14 e2 e3 hw14 HO13
  go_upto_region 15 with fail
  rw [← HW14.out]
  clear hc0 hf0 d3
  go_wp2_with fail
  refine cB.mono ?_
  rintro r w15 ⟨rfl, hb15⟩
  have hP15 := HP14.out.below hb15 hs14
  have hs15 := Nat.le_trans hs14 hb15.size
  have HB15 := Lib.hid (HB14.out.trans (Joins.below_le hb15 HB14.out.size))
  have HJ15 := Lib.hid ((HJ14.out.grow hb15).mono (G' := fun b => C ≤ b) fun b _ h => h.1)
  obtain ⟨b, o', n', k', Aj, cj, hvj, hcj, -⟩ := hP15.at_ (i := 0) (l := pkt 0 0 1 []) rfl
  injection hvj with e2 e3 e4
  injection e2 with e2
  injection e2 with e0 e1
  subst e0 e1
  rw [Nat.add_zero] at hcj
  have cN := ptake_nil 1 (.slice Aj (pkt 0 0 1 []).length cj) w15
  have cL := plen_nil w15
  clear cB hb15 hP15 e3 e4
  go_wp2_with fail
  refine cN.mono ?_
  rintro r w15' ⟨rfl, rfl⟩
  clear cN hcj
  go_wp2_with fail
  refine cL.mono ?_
  rintro r w15' ⟨rfl, rfl⟩
  clear cL
  have HJL : Hid (JHas w15' (fun b => C ≤ b) j mb (0 + 1) (jN 0)) := HJ15
  have HSL := Lib.hid hs15
  clear HJ15 HJ14 HJ13 HP14 HP13 HP11 HP10 HP9 HP8 HB14 HB13 HB13' hs14 hs13 hs12 hs11 hs10 hs9 hs15
  go_wp2_with fail
  go_loopw [26, 27, 28] (fun s26 _ _ wr => ∃ k : Nat, s26 = .int .i64 (k : Int) ∧ k ≤ 17 ∧ Hid (JHas wr (fun b => C ≤ b) j mb (k + 1) (jN k)) ∧ Hid (Below w.heap.size w wr) ∧ Hid (C ≤ wr.heap.size)) (fun s26 _ _ _ => 17 - (intOf s26).toNat)
  case atStart => exact ⟨0, rfl, by omega, HJL, HB15, HSL⟩
  case round =>
    clear HJL HB15 HSL
    obtain ⟨k, rfl, hk, hJ, hB, hS⟩ := hrel
    obtain ⟨wz, hwz⟩ : ∃ wz : World, wz = wr := ⟨_, rfl⟩
    subst hwz
    obtain ⟨w16, hmk16, hrd16, hb16⟩ := noughts_rd 400 (by omega) wz
    have hmk : (Instr.makeSlice 27 (.int .i64 400) (.int .i64 400)).run Tryd.prog wz = .ok (.slice (some ⟨wz.heap.size, 0, none⟩) 400 400) w16 := hmk16
    have hB16 := hB.out.trans (Joins.below_le hb16 hB.out.size)
    have HRD := Lib.hid (show Rd w16 w16.heap.size (.slice (some ⟨wz.heap.size, 0, none⟩) 400 400) zz400 from hrd16)
    have HB16 := Lib.hid hB16
    have HJ16 := Lib.hid (hJ.out.grow hb16)
    have hs16 := Nat.le_trans hS.out hb16.size
    by_cases hk17 : k < 17
    · have b1 : (k : Int) < 17 := by omega
      have cc := cut (k : Int) zz400 _ w16 hB16 HRD.out (by rw [zz400_len]; omega)
      rw [(zz400_cut k (by omega)).1, (zz400_cut k (by omega)).2] at cc
      clear hmk16 hrd16 hb16 hB16
      go_wp2_with fail
      refine cc.mono ?_
      rintro r w17 ⟨v17, ss17, rfl, hC, hb17⟩
      have hP17 := Pks.of hC
      obtain ⟨A17, n17, rfl⟩ := hC.slice
      obtain ⟨b', o, n', k', Ai, ci, hvi, hci, hri⟩ := hP17.at_ (i := 0) (l := pkt k 0 2 (piece zz400 0)) rfl
      injection hvi with e2 e3 e4
      subst e2
      rw [Nat.add_zero] at hci
      rw [show ([pkt k 0 2 (piece zz400 0), pkt k 1 2 (piece zz400 1)] : List (List UInt8)).length = 2 from rfl]
      have hB17 := HB16.out.trans (Joins.below_le hb17 HB16.out.size)
      have hs17 := Nat.le_trans hs16 hb17.size
      have cT := jtake_any (HJ16.out.grow hb17) _ (.slice Ai (pkt k 0 2 (piece zz400 0)).length ci) 1 (by unfold I64; omega) _ (HT.out.below hB17 h0) hri (by have := zz400_small k 0 (by omega) (by omega); omega) (zz400_read k 0 (by omega) (by omega)) (by unfold maxLen; omega) (fun b hb => Nat.le_trans hs17 hb)
      have HB17 := Lib.hid hB17
      clear cc hC hP17 hri e3 e4 hb17 hB17 hmk
      go_wp2_with fail
      refine cT.mono ?_
      rintro r w18 ⟨v18, k18, rfl, -, hJ18, hK18⟩
      have HJ18 : Hid (JHas w18 (fun b => C ≤ b) j mb (k + 1 + 1) (jN (k + 1))) := Lib.hid hJ18
      have HB18 := Lib.hid (HB17.out.trans (hK18.below (B := w.heap.size) HB17.out.size (fun b hb => Nat.le_trans hwC hb)))
      have HS18 := Lib.hid (Nat.le_trans hs17 hK18.size)
      clear cT hci hJ18 hK18
      go_wp2_with fail
      exact ⟨⟨k + 1, by go_num, by omega, HJ18, HB18, HS18⟩, by simp [intOf]; omega⟩
    · have b1 : ¬ (k : Int) < 17 := by omega
      have hke : k = 17 := by omega
      have cc := cut 0 zz400 _ w16 hB16 HRD.out (by rw [zz400_len]; omega)
      have z0 := zz400_cut 0 (by omega)
      rw [show (((0 : Nat) : Int)) = 0 from rfl] at z0
      rw [z0.1, z0.2] at cc
      clear hmk16 hrd16 hb16 hB16 z0
      rw [hke] at HJ16
      obtain ⟨S2, hS2⟩ : ∃ S2, S2 = w16.heap.size := ⟨_, rfl⟩
      have hJ16 := HJ16.out.mono (G' := fun b => C ≤ b ∧ b < S2) fun b hb h => ⟨h, by rw [hS2]; exact hb⟩
      have HJ16' := Lib.hid hJ16
      have HS2 := Lib.hid hS2
      clear hS2 hJ16
      go_wp2_with fail
      refine cc.mono ?_
      rintro r w17 ⟨v17, ss17, rfl, hC, hb17⟩
      obtain ⟨A17, n17, rfl⟩ := hC.slice
      rw [show ([pkt 0 0 2 (piece zz400 0), pkt 0 1 2 (piece zz400 1)] : List (List UInt8)).length = 2 from rfl] at hC ⊢
      have hB17 := HB16.out.trans (Joins.below_le hb17 HB16.out.size)
      obtain ⟨w18, hmk18, hrd18, hb18⟩ := noughts_rd 400 (by omega) w17
      have hmk2 : (Instr.makeSlice 27 (.int .i64 400) (.int .i64 400)).run Tryd.prog w17 = .ok (.slice (some ⟨w17.heap.size, 0, none⟩) 400 400) w18 := hmk18
      have hrdz : Rd w18 w18.heap.size (.slice (some ⟨w17.heap.size, 0, none⟩) 400 400) zz400 := hrd18
      have hB18 := hB17.trans (Joins.below_le hb18 hB17.size)
      have hCx := hC.below hb18
      rw [← HS2.out] at hCx
      have c6 := cut 1 zz400 _ w18 hB18 hrdz (by rw [zz400_len]; omega)
      have z1 := zz400_cut 1 (by omega)
      rw [show (((1 : Nat) : Int)) = 1 from rfl] at z1
      rw [z1.1, z1.2] at c6
      have HCX := Lib.hid hCx
      have HB18 := Lib.hid hB18
      have HJ18 := Lib.hid ((HJ16'.out.grow hb17).grow hb18)
      have hs18 : S2 ≤ w18.heap.size := by rw [HS2.out]; exact Nat.le_trans hb17.size hb18.size
      clear cc hC hb17 hB17 hmk18 hrd18 hrdz hb18 hB18 hCx z1 hmk
      go_wp2_with fail
      refine c6.mono ?_
      rintro r w19 ⟨v19, ss19, rfl, hC, hb19⟩
      have hPy := Pks.of hC
      obtain ⟨A19, n19, rfl⟩ := hC.slice
      rw [show ([pkt 1 0 2 (piece zz400 0), pkt 1 1 2 (piece zz400 1)] : List (List UInt8)).length = 2 from rfl] at hPy ⊢
      obtain ⟨b', o, n', k', Ai, ci, hvi, hci, hri⟩ := hPy.at_ (i := 1) (l := pkt 1 1 2 (piece zz400 1)) rfl
      injection hvi with e2 e3 e4
      subst e2
      have hB19 := HB18.out.trans (Joins.below_le hb19 HB18.out.size)
      have hCx := HCX.out.below hb19
      obtain ⟨T, hTe⟩ : ∃ T, T = w19.heap.size := ⟨_, rfl⟩
      have hs19 : S2 ≤ T := by rw [hTe]; exact Nat.le_trans hs18 hb19.size
      have hCS : C ≤ S2 := by rw [HS2.out]; exact hs16
      have hJ19 : JHas w19 (fun b => (C ≤ b ∧ b < S2) ∨ T ≤ b) j mb (17 + 1) (jN 17) := (HJ18.out.grow hb19).mono fun b _ h => .inl h
      have cT := jtake_any hJ19 _ (.slice Ai (pkt 1 1 2 (piece zz400 1)).length ci) 1 (by unfold I64; omega) _ (HT.out.below hB19 h0) hri (by have := zz400_small 1 1 (by omega) (by omega); omega) (zz400_read 1 1 (by omega) (by omega)) (by unfold maxLen; omega) (fun b hb => .inr (by rw [hTe]; exact hb))
      obtain ⟨f1, f2, f3⟩ := n_facts
      dsimp only at cT
      rw [show (((1 : Nat) : Int)) = 1 from rfl, f1] at cT
      have HF := Lib.hid (And.intro f2 f3)
      have HB19 := Lib.hid hB19
      have HCX19 := Lib.hid hCx
      have HTE := Lib.hid hTe
      clear c6 hC hPy hri e3 e4 hb19 hB19 hCx hJ19 f1 f2 f3 hTe hmk2
      go_wp2_with fail
      refine cT.mono ?_
      rintro r w20 ⟨v20, k20, rfl, -, hJ20, hK20⟩
      clear cT hci
      have hCx20 := HCX19.out.same (w' := w20) (fun b hb hl => hK20.block b hl (fun h => by have := HTE.out; omega))
      have hPx := Pks.of hCx20
      have hB20 := HB19.out.trans (hK20.below (B := w.heap.size) HB19.out.size (fun b hb => by have := HB19.out.size; have := HTE.out; omega))
      obtain ⟨b'', o2, n2', k2', Aj, cj, hvj, hcj, hrj⟩ := hPx.at_ (i := 1) (l := pkt 0 1 2 (piece zz400 1)) rfl
      injection hvj with e2 e3 e4
      subst e2
      have cU := jtake_any (J := jX) hJ20 _ (.slice Aj (pkt 0 1 2 (piece zz400 1)).length cj) 1 (by unfold I64; omega) _ (HT.out.below hB20 h0) hrj (by have := zz400_small 0 1 (by omega) (by omega); omega) (zz400_read 0 1 (by omega) (by omega)) (by unfold maxLen; omega) (fun b hb => .inr (by have := HTE.out; have := hK20.size; omega))
      dsimp only at cU
      rw [show (((0 : Nat) : Int)) = 0 from rfl, HF.out.1] at cU
      have HB20 := Lib.hid hB20
      clear hCx20 hPx hB20 hrj e3 e4 hJ20 hK20
      go_wp2_with fail
      refine cU.mono ?_
      rintro r w21 ⟨v21, k21, rfl, -, hJ21, hK21⟩
      clear cU hcj
      have cL := jlen_any (J := jY) hJ21
      rw [HF.out.2] at cL
      have HB21 := Lib.hid (HB20.out.trans (hK21.below (B := w.heap.size) HB20.out.size (fun b hb => by have := HB19.out.size; have := HTE.out; omega)))
      clear hJ21 hK21
      go_wp2_with fail
      refine cL.mono ?_
      rintro r w22 ⟨rfl, rfl⟩
      clear cL
      go_wp2_with fail
      go_ret
      exact ⟨rfl, HB21.out⟩
end Go.Proofs.YtfmaocinckeagaaDoor
