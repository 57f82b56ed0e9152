/-
  PartsForms walked. No statement is proved here. Condition: the table reads as the program lays it.
-/
import Derived.Test.YtfmaocinckeagaaDoorQForms
import Derived.Deep.RegionHeld3
namespace Go.Proofs.YtfmaocinckeagaaDoor
open Go.RowKit

set_option maxHeartbeats 16000000 in
set_option maxRecDepth 100000 in
theorem forms_walk (w : World) (ht : Tab w) : Calls Tryd.prog 4 #[] w fun r w' => r = .returned (.bool true) ∧ Below w.heap.size w w' := by
  have HT := Lib.hid ht
  have h0 := ht.1
  clear ht
  obtain ⟨w1, hmk1, hrd1, hb1⟩ := noughts_rd 381 (by omega) w
  have hmk : (Instr.makeSlice 27 (.int .i64 381) (.int .i64 381)).run Tryd.prog w = .ok (.slice (some ⟨w.heap.size, 0, none⟩) 381 381) w1 := hmk1
  have hcv : (convert 27 9 (.slice (some ⟨w.heap.size, 0, none⟩) 381 381)).run Tryd.prog w1 = .ok (.string (tx (zs 381))) w1 := run_str (P := Tryd.prog) 27 5 9 Tryd.underlying27 Tryd.underlying5 Tryd.underlying9 hrd1
  obtain ⟨BIG, hBIG⟩ : ∃ BIG, BIG = tx (zs 381) := ⟨_, rfl⟩
  have hbz : BIG.size = 381 := by rw [hBIG, tx_size, zs_len]
  have HBIG := Lib.hid hBIG
  rw [← hBIG] at hcv
  have HB1 := Lib.hid hb1
  have hwT : w.heap.size ≤ w1.heap.size := hb1.size
  clear hmk1 hrd1 hb1 hBIG
  go_enter Tryd.func4, Tryd.ntmps4
  go_wp2_with fail
  clear hmk hcv
  go_loopw [47] (fun s47 wr => ∃ k : Nat, s47 = .int .i64 (k : Int) ∧ k ≤ 14 ∧ Hid (FT w1.heap.size wr) ∧ Hid (Below w.heap.size w wr) ∧ Hid (w1.heap.size < wr.heap.size)) (fun s47 _ => 14 - (intOf s47).toNat)
  case atStart => exact ⟨0, rfl, by omega, Lib.hid (ft_ok (heap_alloc_new w1 _)), Lib.hid (HB1.out.alloc hwT _), Lib.hid (by simp)⟩
  case round =>
    obtain ⟨k, rfl, hk, hF, hB, hS⟩ := hrel
    by_cases hk14 : k < 14
    · obtain ⟨x, hx, hc0, hc1, hc2, hc3⟩ := hF.out k hk14
      have hk' : (k : Int) < 14 := by omega
      obtain ⟨w2, hw2⟩ : ∃ w2, w2 = wr.alloc (.cells #[.int .i64 (x.p : Int), .int .i64 (x.m : Int), .int .i64 (x.s : Int), .bool x.ok] 33) := ⟨_, rfl⟩
      have hd0 : ∀ i, w2.cell? ⟨wr.heap.size, i, none⟩ = #[Value.int .i64 (x.p : Int), .int .i64 (x.m : Int), .int .i64 (x.s : Int), .bool x.ok][i]? := fun i => by
        rw [hw2]; exact World.cell?_alloc_new _ _ _ _
      have hb2 : Below wr.heap.size wr w2 := by rw [hw2]; exact (Below.refl _ _).alloc (Nat.le_refl _) _
      have hs2 : wr.heap.size < w2.heap.size := by rw [hw2]; simp
      have HD := Lib.hid hd0
      have HS2 := Lib.hid hs2
      have HB2 := Lib.hid hb2
      have HW2 := Lib.hid hw2
      have cN := jnew_any w2
      clear hd0 hb2 hs2 hw2
      go_wp2_with fail
      rw [← HW2.out]
      refine cN.mono ?_
      rintro r w3 ⟨j, mb, rfl, hJ3, hb3⟩
      have hd1 : w3.cell? ⟨wr.heap.size, 0, none⟩ = some (.int .i64 (x.p : Int)) := (hb3.cell (p := ⟨wr.heap.size, 0, none⟩) HS2.out).trans (HD.out 0)
      have hd2 : w3.cell? ⟨wr.heap.size, 1, none⟩ = some (.int .i64 (x.m : Int)) := (hb3.cell (p := ⟨wr.heap.size, 1, none⟩) HS2.out).trans (HD.out 1)
      have hd3 : w3.cell? ⟨wr.heap.size, 2, none⟩ = some (.int .i64 (x.s : Int)) := (hb3.cell (p := ⟨wr.heap.size, 2, none⟩) HS2.out).trans (HD.out 2)
      have hd4 : w3.cell? ⟨wr.heap.size, 3, none⟩ = some (.bool x.ok) := (hb3.cell (p := ⟨wr.heap.size, 3, none⟩) HS2.out).trans (HD.out 3)
      have hB3 := hB.out.trans (Joins.below_le (HB2.out.trans (Joins.below_le hb3 HB2.out.size)) hB.out.size)
      have hp3 : wr.heap.size < w3.heap.size := Nat.lt_of_lt_of_le HS2.out hb3.size
      have hJs : w2.heap.size ≤ w3.heap.size := hb3.size
      obtain ⟨y1, y2, y3⟩ := forms_facts x hx
      have hsx : (x.s : Int) ≤ 381 := by omega
      have HX := Lib.hid (show BIG.extract 0 x.s = tx (zs x.s) from by rw [HBIG.out, tx_take]; unfold zs; rw [List.take_replicate, Nat.min_eq_left y3])
      have cP := fun W => refpacket_any 5 (x.p : Int) (x.m : Int) (zs x.s) W (by rw [zs_len]; omega)
      have HJ3 := Lib.hid hJ3
      have HB3 := Lib.hid hB3
      have HB23 := Lib.hid hb3
      clear hc0 hc1 hc2 hc3 cN hb3 hB3 hJ3
      go_upto_region 6 with fail
      have hd1 : w3.drew.cell? ⟨wr.heap.size, 0, none⟩ = some (.int .i64 (x.p : Int)) := hd1
      have hd2 : w3.drew.cell? ⟨wr.heap.size, 1, none⟩ = some (.int .i64 (x.m : Int)) := hd2
      have hd3 : w3.drew.cell? ⟨wr.heap.size, 2, none⟩ = some (.int .i64 (x.s : Int)) := hd3
      go_region_held3 (fun w' => w'.cell? ⟨wr.heap.size, 0, none⟩ = some (.int .i64 (x.p : Int)) ∧ w'.cell? ⟨wr.heap.size, 1, none⟩ = some (.int .i64 (x.m : Int)) ∧ w'.cell? ⟨wr.heap.size, 2, none⟩ = some (.int .i64 (x.s : Int))) (first | exact ⟨hd1, hd2, hd3⟩ | go_keep)
        (first
          | (go_at_call 15; rw [HX.out]; go_must (refine (cP _).mono ?_; rintro e w4 ⟨v4, k4, rfl, ho4, hb4⟩; have hr4 := Rd.own ho4; obtain ⟨A4, c4, rfl⟩ := own_slice ho4; have hb4' : Below w3.heap.size w3 w4 := ((Below.refl w3.heap.size w3).drew).trans hb4; have he1 := (hb4'.cell (p := ⟨wr.heap.size, 0, none⟩) hp3).trans hd1; have he2 := (hb4'.cell (p := ⟨wr.heap.size, 1, none⟩) hp3).trans hd2; have he3 := (hb4'.cell (p := ⟨wr.heap.size, 2, none⟩) hp3).trans hd3))
          | (go_at_call 13; go_must (refine (ftake_any hx (HJ3.out.grow hb4') (Nat.le_trans hJs hb4'.size) (HT.out.below (HB3.out.trans (Joins.below_le hb4' HB3.out.size)) h0) hr4).mono ?_; rintro e w5 ⟨⟨A5, n5, c5, b5, er, rfl, her⟩, hb5⟩; have hz1 := (hb5.cell (p := ⟨wr.heap.size, 0, none⟩) HS2.out).trans he1; have hz2 := (hb5.cell (p := ⟨wr.heap.size, 1, none⟩) HS2.out).trans he2; have hz3 := (hb5.cell (p := ⟨wr.heap.size, 2, none⟩) HS2.out).trans he3)))
      all_goals
        have hd5 : w5.cell? ⟨wr.heap.size, 3, none⟩ = some (.bool x.ok) := (hb5.cell (p := ⟨wr.heap.size, 3, none⟩) HS2.out).trans ((hb4'.cell (p := ⟨wr.heap.size, 3, none⟩) hp3).trans hd4)
        have hB4 := HB3.out.trans (Joins.below_le hb4' HB3.out.size)
        have hB5 := hB4.trans (Joins.below_le hb5 (Nat.le_trans hB.out.size (Nat.le_of_lt HS2.out)))
        have hw25 : wr.heap.size < w5.heap.size := Nat.lt_of_lt_of_le hp3 (Nat.le_trans hb4'.size hb5.size)
        have hbw : Below wr.heap.size wr w5 := HB2.out.trans ((show Below wr.heap.size w2 w3 from HB23.out.mono (Nat.le_of_lt HS2.out)).trans ((hb4'.mono (Nat.le_of_lt hp3)).trans (hb5.mono (Nat.le_of_lt HS2.out))))
        have HF5 := Lib.hid (hF.out.below hbw hS.out)
        have HB5 := Lib.hid hB5
        have HS5 := Lib.hid (Nat.lt_trans hS.out hw25)
        clear hd1 hd2 hd3 hd4 he1 he2 he3 hz1 hz2 hz3 hr4 ho4 hb4 hb4' hb5 hB4 hB5 hbw cP
        rcases her with ⟨ho, rfl⟩ | ⟨ho, rfl⟩
        · rw [ho] at hd5
          go_wp2_with fail
          exact ⟨⟨k + 1, by go_num, by omega, HF5, HB5, HS5⟩, by simp [intOf]; omega⟩
        · rw [ho] at hd5
          go_wp2_with fail
          exact ⟨⟨k + 1, by go_num, by omega, HF5, HB5, HS5⟩, by simp [intOf]; omega⟩
    · have b1 : ¬ (k : Int) < 14 := by omega
      obtain ⟨w10, hmk10, ho10, hb10⟩ := noughts_own 380 (by omega) wr
      have hmk : (Instr.makeSlice 27 (.int .i64 380) (.int .i64 380)).run Tryd.prog wr = .ok (.slice (some ⟨wr.heap.size, 0, none⟩) 380 380) w10 := hmk10
      have ho10' : byR.Own w10 wr.heap.size 5 (.slice (some ⟨wr.heap.size, 0, none⟩) 380 380) zz380 := byR_own (l := zz380) ho10
      obtain ⟨g, cap, hvg, hgB, hgl, hgn, hgc, hcell, hfz, hupd⟩ := own_upd ho10' (i := 0) (by rw [zz380_len]; omega)
      have eg : g = wr.heap.size := by injection hvg with e1 _ _; injection e1 with e1; injection e1 with e1; exact e1.symm
      subst eg
      have hc0 := hcell 0 _ rfl
      rw [show 0 * byR.size + 0 = 0 from rfl] at hc0
      have hf0 := hfz 0
      obtain ⟨hu, hub⟩ := hupd 7
      obtain ⟨w11, hw11⟩ : ∃ w11, w11 = w10.setCell ⟨wr.heap.size, 0, none⟩ (.int .u8 7) := ⟨_, rfl⟩
      have hu11 : byR.Own w11 wr.heap.size 5 (.slice (some ⟨wr.heap.size, 0, none⟩) 380 380) ot380 := by rw [hw11]; exact hu
      have hb11 : Below wr.heap.size w10 w11 := by rw [hw11]; exact hub
      have hrd11 := Rd.own (byR_back hu11)
      have HB11 := Lib.hid (hB.out.trans (Joins.below_le (hb10.trans hb11) hB.out.size))
      have HRD11 := Lib.hid hrd11
      have HW11 := Lib.hid hw11
      clear hmk10 ho10 hb10 ho10' hvg hgB hgl hgn hgc hcell hfz hupd hu hub hw11 hu11 hb11 hrd11 hF hS
      go_upto_region 12 with fail
      rw [← HW11.out]
      clear hc0 hf0 hmk
      go_wp2_with fail
      refine (jnew_any w11).mono ?_
      rintro r w12 ⟨j, mb, rfl, hJ12, hb12⟩
      obtain ⟨C, hCe⟩ : ∃ C, C = w11.heap.size := ⟨_, rfl⟩
      rw [← hCe] at hJ12
      have hwC : w.heap.size ≤ C := by rw [hCe]; exact HB11.out.size
      have hs12 : C ≤ w12.heap.size := by rw [hCe]; exact hb12.size
      have hcv : (convert 27 9 (.slice (some ⟨wr.heap.size, 0, none⟩) 380 380)).run Tryd.prog w12 = .ok (.string (tx ot380)) w12 := run_str (P := Tryd.prog) 27 5 9 Tryd.underlying27 Tryd.underlying5 Tryd.underlying9 (HRD11.out.below hb12 hb12.size)
      have HB12 := Lib.hid (HB11.out.trans (Joins.below_le hb12 HB11.out.size))
      have HJ12 := Lib.hid hJ12
      clear hb12 hJ12 hCe
      go_wp2_with fail
      refine (refpacket_any 5 0 2 ot380 w12 (by rw [ot380_len]; omega)).mono ?_
      rintro r w13 ⟨v13, k13, rfl, ho13, hb13⟩
      have hr13 := Rd.own ho13
      obtain ⟨A13, c13, rfl⟩ := own_slice ho13
      have hB13 := HB12.out.trans (Joins.below_le hb13 HB12.out.size)
      have hs13 := Nat.le_trans hs12 hb13.size
      have cT := jtake_any (HJ12.out.grow hb13) _ (.slice A13 k13 c13) 1 (by unfold I64; omega) _ (HT.out.below hB13 h0) hr13 (Nat.le_trans xl_ot (by omega)) r_ot (by unfold maxLen; omega) (fun b hb => Nat.le_trans hs13 hb)
      dsimp only at cT
      rw [show (((5 : Nat) : Int)) = 5 from rfl, f_facts.1] at cT
      simp only [Option.isSome_none] at cT
      have HB13 := Lib.hid hB13
      clear hcv ho13 hb13 hr13 hB13
      go_wp2_with fail
      refine cT.mono ?_
      rintro r w14 ⟨v14, k14, rfl, ho14, hJ14, hK14⟩
      obtain ⟨A14, c14, rfl⟩ := own_slice ho14
      have HJ14 : Hid (JHas w14 (fun b => C ≤ b) j mb 1 jA) := Lib.hid hJ14
      have HB14 := Lib.hid (HB13.out.trans (hK14.below (B := w.heap.size) HB13.out.size (fun b hb => Nat.le_trans hwC hb)))
      have hs14 := Nat.le_trans hs13 hK14.size
      have HX := Lib.hid (show BIG.extract 0 380 = tx zz380 from by rw [HBIG.out, tx_take]; unfold zz380 zs; rw [List.take_replicate]; rfl)
      clear cT ho14 hJ14 hK14
      go_wp2_with fail
      rw [HX.out]
      refine (refpacket_any 5 0 2 zz380 w14 (by rw [zz380_len]; omega)).mono ?_
      rintro r w15 ⟨v15, k15, rfl, ho15, hb15⟩
      have hr15 := Rd.own ho15
      obtain ⟨A15, c15, rfl⟩ := own_slice ho15
      have hB15 := HB14.out.trans (Joins.below_le hb15 HB14.out.size)
      have hs15 := Nat.le_trans hs14 hb15.size
      have cT := jtake_any (HJ14.out.grow hb15) _ (.slice A15 k15 c15) 1 (by unfold I64; omega) _ (HT.out.below hB15 h0) hr15 (Nat.le_trans xl_zz (by omega)) r_zz (by unfold maxLen; omega) (fun b hb => Nat.le_trans hs15 hb)
      dsimp only at cT
      rw [show (((5 : Nat) : Int)) = 5 from rfl, f_facts.2.1] at cT
      simp only [Option.isSome_none] at cT
      have HB15 := Lib.hid hB15
      clear ho15 hb15 hr15 hB15
      go_wp2_with fail
      refine cT.mono ?_
      rintro r w16 ⟨v16, k16, rfl, ho16, hJ16, hK16⟩
      obtain ⟨A16, c16, rfl⟩ := own_slice ho16
      have HJ16 : Hid (JHas w16 (fun b => C ≤ b) j mb 2 jB) := Lib.hid hJ16
      have HB16 := Lib.hid (HB15.out.trans (hK16.below (B := w.heap.size) HB15.out.size (fun b hb => Nat.le_trans hwC hb)))
      have hs16 := Nat.le_trans hs15 hK16.size
      have cX : ∀ W, Calls Tryd.prog 15 #[.int .i64 5, .int .i64 1, .int .i64 2, .string ⟨#[120]⟩] W fun e w' => ∃ v k, e = .returned v ∧ w'.ownsRow W.heap.size 5 1 v k (BS (xpkt 5 1 2 [120])) ∧ Below W.heap.size W w' := fun W => refpacket_any 5 1 2 [120] W (by decide)
      clear cT ho16 hJ16 hK16
      go_wp2_with fail
      refine (cX w16).mono ?_
      rintro r w17 ⟨v17, k17, rfl, ho17, hb17⟩
      have hr17 := Rd.own ho17
      obtain ⟨A17, c17, rfl⟩ := own_slice ho17
      have hB17 := HB16.out.trans (Joins.below_le hb17 HB16.out.size)
      have hs17 := Nat.le_trans hs16 hb17.size
      have cT := jtake_any (HJ16.out.grow hb17) _ (.slice A17 k17 c17) 1 (by unfold I64; omega) _ (HT.out.below hB17 h0) hr17 (Nat.le_trans xl_x (by omega)) r_x (by unfold maxLen; omega) (fun b hb => Nat.le_trans hs17 hb)
      dsimp only at cT
      rw [show (((5 : Nat) : Int)) = 5 from rfl, f_facts.2.2.1, f_empty] at cT
      simp only [Option.isSome_some, Option.getD_some] at cT
      have HB17 := Lib.hid hB17
      clear cX ho17 hb17 hr17 hB17
      go_wp2_with fail
      refine cT.mono ?_
      rintro r w18 ⟨v18, k18, rfl, ho18, hJ18, hK18⟩
      have hm18 : byR.Own w18 w17.heap.size 5 v18 (ot380 ++ [120]) := byR_own ho18
      have hml : (ot380 ++ [120]).length = 381 := by rw [List.length_append, ot380_len]; rfl
      obtain ⟨g, cap, hvg, hgB, hgl, hgn, hgc, hcell, -, -⟩ := own_upd hm18 (i := 0) (by rw [hml]; omega)
      obtain ⟨g', cap', hvg', -, -, -, -, hcell', -, -⟩ := own_upd hm18 (i := 380) (by rw [hml]; omega)
      have eg : g' = g := by rw [hvg] at hvg'; injection hvg' with e1 _ _; injection e1 with e1; injection e1 with e1; exact e1.symm
      subst eg
      have hm0 := hcell 0 _ rfl
      have hm1 := hcell' 0 _ rfl
      rw [show 0 * byR.size + 0 = 0 from rfl] at hm0
      rw [show 380 * byR.size + 0 = 380 from rfl] at hm1
      have hx0 : (ot380 ++ [120])[0]'(by rw [hml]; omega) = 7 := rfl
      have hx1 : (ot380 ++ [120])[380]'(by rw [hml]; omega) = 120 := m_last
      rw [hx0] at hm0
      rw [hx1] at hm1
      have hown : v18.ownBlock = some g' := by rw [hvg]; rfl
      have HJ18 := Lib.hid (hJ18.apart ho18 hown)
      rw [hml] at hvg
      subst hvg
      have HM := Lib.hid (And.intro hm0 hm1)
      have HB18 := Lib.hid (HB17.out.trans (hK18.below (B := w.heap.size) HB17.out.size (fun b hb => Nat.le_trans hwC hb)))
      have hs18 := Nat.le_trans hs17 hK18.size
      have HGL := Lib.hid hgl
      clear cT ho18 hJ18 hK18 hm18 hgB hgl hgn hgc hcell hcell' hvg' hm0 hm1 hx0 hx1 hown hml
      have hcv := Go.Joins.run_convert_bytes_const_at (P := Tryd.prog) w18 27 5 #[.int .u8 5, .int .u8 0, .int .u8 1, .int .u8 0] 4 4 w18.heap.size rfl Tryd.underlying27 Tryd.underlying5
      obtain ⟨w19, hw19⟩ : ∃ w19, w19 = w18.alloc (.cells #[.int .u8 5, .int .u8 0, .int .u8 1, .int .u8 0] 5 ((#[.int .u8 5, .int .u8 0, .int .u8 1, .int .u8 0] : Array Value).size, (#[.int .u8 5, .int .u8 0, .int .u8 1, .int .u8 0] : Array Value).size + 1)) := ⟨_, rfl⟩
      rw [← hw19] at hcv
      have hb19 : Below w18.heap.size w18 w19 := by rw [hw19]; exact (Below.refl _ _).alloc (Nat.le_refl _) _
      have hrd19 : Rd w19 w19.heap.size (.slice (some ⟨w18.heap.size, 0, none⟩) 4 4) fb4 := by
        have := Rd.litsF w18 5 #[.int .u8 5, .int .u8 0, .int .u8 1, .int .u8 0] ((#[.int .u8 5, .int .u8 0, .int .u8 1, .int .u8 0] : Array Value).size, (#[.int .u8 5, .int .u8 0, .int .u8 1, .int .u8 0] : Array Value).size + 1) fb4 4 rfl rfl (by decide)
        rw [← hw19] at this
        exact this.keep (by rw [hw19]; simp) fun _ _ => rfl
      have cS := refseal_any 2 fb4 _ w19 hrd19 (by decide)
      rw [show ((((2 : UInt8).toNat : Nat)) : Int) = 2 from rfl] at cS
      have HB19 := Lib.hid (HB18.out.trans (Joins.below_le hb19 HB18.out.size))
      have HM19 := Lib.hid (show w19.heap[g']? = w18.heap[g']? from hb19.block g' HGL.out)
      have HJ19 := Lib.hid (HJ18.out.grow hb19)
      have hs19 := Nat.le_trans hs18 hb19.size
      have HS19 := Lib.hid hb19.size
      clear hb19 hrd19 hw19
      go_wp2_with fail
      refine cS.mono ?_
      rintro r w20 ⟨v20, k20, rfl, ho20, hb20⟩
      rw [s_kind] at ho20 ⊢
      have hr20 := Rd.own ho20
      obtain ⟨A20, c20, rfl⟩ := own_slice ho20
      have HB20 := Lib.hid (HB19.out.trans (Joins.below_le hb20 HB19.out.size))
      have hl19 : g' < w19.heap.size := Nat.lt_of_lt_of_le HGL.out HS19.out
      have HM20 := Lib.hid (show w20.heap[g']? = w18.heap[g']? from (hb20.block g' hl19).trans HM19.out)
      have HJ20 := Lib.hid (HJ19.out.grow hb20)
      have hs20 := Nat.le_trans hs19 hb20.size
      have HR20 := Lib.hid hr20
      have hl20 := Nat.lt_of_lt_of_le hl19 hb20.size
      clear cS hcv ho20 hb20 hr20
      have hcv := Go.Joins.run_convert_bytes_const_at (P := Tryd.prog) w20 27 5 #[.int .u8 5, .int .u8 0, .int .u8 1, .int .u8 0] 4 4 w20.heap.size rfl Tryd.underlying27 Tryd.underlying5
      obtain ⟨w21, hw21⟩ : ∃ w21, w21 = w20.alloc (.cells #[.int .u8 5, .int .u8 0, .int .u8 1, .int .u8 0] 5 ((#[.int .u8 5, .int .u8 0, .int .u8 1, .int .u8 0] : Array Value).size, (#[.int .u8 5, .int .u8 0, .int .u8 1, .int .u8 0] : Array Value).size + 1)) := ⟨_, rfl⟩
      rw [← hw21] at hcv
      have hb21 : Below w20.heap.size w20 w21 := by rw [hw21]; exact (Below.refl _ _).alloc (Nat.le_refl _) _
      have hrd21 : Rd w21 w21.heap.size (.slice (some ⟨w20.heap.size, 0, none⟩) 4 4) fb4 := by
        have := Rd.litsF w20 5 #[.int .u8 5, .int .u8 0, .int .u8 1, .int .u8 0] ((#[.int .u8 5, .int .u8 0, .int .u8 1, .int .u8 0] : Array Value).size, (#[.int .u8 5, .int .u8 0, .int .u8 1, .int .u8 0] : Array Value).size + 1) fb4 4 rfl rfl (by decide)
        rw [← hw21] at this
        exact this.keep (by rw [hw21]; simp) fun _ _ => rfl
      have cS := refseal_any 1 fb4 _ w21 hrd21 (by decide)
      rw [show ((((1 : UInt8).toNat : Nat)) : Int) = 1 from rfl] at cS
      have HB21 := Lib.hid (HB20.out.trans (Joins.below_le hb21 HB20.out.size))
      have HM21 := Lib.hid (show w21.heap[g']? = w18.heap[g']? from (hb21.block g' hl20).trans HM20.out)
      have HJ21 := Lib.hid (HJ20.out.grow hb21)
      have HR21 := Lib.hid (HR20.out.below hb21 hb21.size)
      have hs21 := Nat.le_trans hs20 hb21.size
      have hl21 := Nat.lt_of_lt_of_le hl20 hb21.size
      clear hb21 hrd21 hw21
      go_wp2_with fail
      refine cS.mono ?_
      rintro r w22 ⟨v22, k22, rfl, ho22, hb22⟩
      rw [s_right] at ho22 ⊢
      have hr22 := Rd.own ho22
      obtain ⟨A22, c22, rfl⟩ := own_slice ho22
      have hB22 := HB21.out.trans (Joins.below_le hb22 HB21.out.size)
      have cK := ptake_no _ (.slice A20 k20 c20) 1 j 4 w22 (HT.out.below hB22 h0) (HR21.out.below hb22 hb22.size) (Nat.le_trans (fr_len 2) (by omega)) r_kind (by decide)
      have HB22 := Lib.hid hB22
      have HM22 := Lib.hid (show w22.heap[g']? = w18.heap[g']? from (hb22.block g' hl21).trans HM21.out)
      have HJ22 := Lib.hid (HJ21.out.grow hb22)
      have HR22 := Lib.hid hr22
      have hs22 := Nat.le_trans hs21 hb22.size
      have hl22 := Nat.lt_of_lt_of_le hl21 hb22.size
      clear cS hcv ho22 hb22 hr22 hB22
      go_wp2_with fail
      refine cK.mono ?_
      rintro r w23 ⟨rfl, hb23⟩
      have hB23 := HB22.out.trans (Joins.below_le hb23 HB22.out.size)
      have hs23 := Nat.le_trans hs22 hb23.size
      have hl23 := Nat.lt_of_lt_of_le hl22 hb23.size
      have cT := jtake_any (HJ22.out.grow hb23) _ (.slice A22 k22 c22) 1 (by unfold I64; omega) _ (HT.out.below hB23 h0) (HR22.out.below hb23 hb23.size) (Nat.le_trans (fr_len 1) (by omega)) r_right (by unfold maxLen; omega) (fun b hb => ⟨Nat.le_trans hs23 hb, Nat.ne_of_gt (Nat.lt_of_lt_of_le hl23 hb)⟩)
      dsimp only at cT
      rw [show (((5 : Nat) : Int)) = 5 from rfl, f_last] at cT
      simp only [Option.isSome_some, Option.getD_some] at cT
      have HB23 := Lib.hid hB23
      have HM23 := Lib.hid (show w23.heap[g']? = w18.heap[g']? from (hb23.block g' hl22).trans HM22.out)
      clear cK hb23 hB23
      go_wp2_with fail
      refine cT.mono ?_
      rintro r w24 ⟨v24, k24, rfl, ho24, -, hK24⟩
      obtain ⟨A24, c24, rfl⟩ := own_slice ho24
      have hM24 : w24.heap[g']? = w18.heap[g']? := (hK24.block g' hl23 (fun h => h.2 rfl)).trans HM23.out
      have hm0 : w24.cell? ⟨g', 0, none⟩ = some (.int .u8 7) := (World.cell?_of_block hM24).trans HM.out.1
      have hm1 : w24.cell? ⟨g', 380, none⟩ = some (.int .u8 120) := (World.cell?_of_block hM24).trans HM.out.2
      have HB24 := Lib.hid (HB23.out.trans (hK24.below (B := w.heap.size) HB23.out.size (fun b hb => Nat.le_trans hwC hb.1)))
      clear cT ho24 hK24 hM24
      go_wp2_with fail
      go_ret
      exact ⟨rfl, HB24.out⟩
end Go.Proofs.YtfmaocinckeagaaDoor
