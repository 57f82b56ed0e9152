/-
  DiskFuses, walked: a fuse crashes a disk as a crash at that moment would. No condition but that its arguments lie in memory.
-/
import Derived.Test.YthchnnddnjibmaaTwo
import Derived.Test.YthchnnddnjibmaaLasts
namespace Go.Proofs.Ythchnnddnjibmaa
open Go.RowKit Go.Maps

/-- uint(k) % 100 -/
theorem rest_of (n : Int) : ∃ N : Nat, N < 100 ∧ wrap64 ((IntKind.u64.wrap n).tmod 100) = (N : Int) := by
  have h1 : IntKind.u64.wrap n = n % 18446744073709551616 := IntKind.wrap_u64 n
  have h2 : (n % 18446744073709551616).tmod 100 = n % 18446744073709551616 % 100 := Int.tmod_eq_emod_of_nonneg (by omega)
  rw [h1, h2]
  refine ⟨(n % 18446744073709551616 % 100).toNat, by omega, ?_⟩
  unfold wrap64
  omega
theorem at_seven (x : UInt8) : (wrap64 (x.toNat : Int)).tmod 7 = ((x.toNat % 7 : Nat) : Int) := at_mod x 7
/-- what the law's loop keeps -/
def FInv (B : Nat) (w0 wr : World) (d x : Nat) (kl : List Bool) (K m j : Nat) : Prop := ∃ (D X : DS), FT D X kl (K - m) ∧ m ≤ K ∧ m ≤ 2 * j ∧ Fit D (2 * j) ∧ Fit X (2 * j) ∧ Two B wr d D x X ∧ Below B w0 wr

set_option maxHeartbeats 8000000 in
set_option maxRecDepth 100000 in
theorem fuses_walk (k : Int) (l : List PutT) (kl : List Bool) (a b : Value) (w : World) (ha : RdP w w.heap.size a l) (hb : RowAt w b kl.length 1 (KS kl)) (hl : l.length ≤ 9223372036854775807) (hkl : kl.length ≤ 140737488355328) :
    Calls Try.prog 6 #[a, .int .i64 k, b] w fun e w' => e = .returned (.bool true) ∧ Below w.heap.size w w' := by
  have HA := Lib.hid ha
  have HB := Lib.hid hb
  obtain ⟨A, ca, rfl, -⟩ := ha
  obtain ⟨A2, cb, rfl, -⟩ := hb
  by_cases hlong : 80 < l.length
  · have h1 : (80 : Int) < (l.length : Int) := by omega
    clear hlong
    go_enter Try.func6, Try.ntmps6
    go_wp2_with fail
    refine (works_any w).mono ?_
    rintro e w1 ⟨rfl, hb1⟩
    go_wp2_with fail
    refine (works_any w1).mono ?_
    rintro e w2 ⟨rfl, hb2⟩
    go_wp2_with fail
    go_ret
    exact ⟨rfl, hb1.trans (Joins.below_le hb2 hb1.size)⟩
  · have h1 : ¬ (80 : Int) < (l.length : Int) := by omega
    have hl80 : l.length ≤ 80 := by omega
    clear hlong hl
    obtain ⟨K, hK100, hK⟩ := rest_of k
    go_enter Try.func6, Try.ntmps6
    go_wp2_with fail
    refine (works_any w).mono ?_
    rintro e w1 ⟨rfl, hb1⟩
    have hs1 := hb1.size
    go_wp2_with fail
    refine (pNew_yes 7 w1 (by omega) (by omega)).mono ?_
    rintro e w2 ⟨hb2, d, rfl, hd2⟩
    have hs2 := hb2.size
    have HD2 := Lib.hid hd2
    clear hd2
    go_wp2_with fail
    refine (pNew_yes 7 w2 (by omega) (by omega)).mono ?_
    rintro e w3 ⟨hb3, x, rfl, hx3⟩
    have hs3 := hb3.size
    have hbel3 := (hb1.trans (Joins.below_le hb2 hs1)).trans (Joins.below_le hb3 (Nat.le_trans hs1 hs2))
    have hT3 : Two w.heap.size w3 d (DS.new 7) x (DS.new 7) := by
      refine ⟨hbel3.size, _, _, _, _, HD2.out.kept (fun _ h => h) (fun _ h => h) (fun b hb _ => hb3.block b hb) (fun b _ _ hb => hb3.block b hb), hx3, (In.made hs1).grow hs3, In.made (Nat.le_trans hs1 hs2), fun b hb hh => ?_⟩
      have h6 := hb.2
      have h7 := hh.1
      omega
    have T3 := Lib.hid hT3
    clear hT3 hx3 HD2
    go_upto_region 6 with fail
    rw [hK]
    clear hK
    have cF := two_fuse T3.out (K : Int) (.slice A2 kl.length cb) kl (by omega) (HB.out.grow hbel3) hkl
    have hlit : (DS.new 7).lit (K : Int) kl = (0, { DS.new 7 with fuse := some K, keep := kl }) := by
      unfold DS.lit
      rw [if_neg (by decide), if_neg (by omega), Int.toNat_natCast]
    rw [hlit] at cF
    go_wp2_with fail
    refine cF.mono ?_
    rintro e w4 ⟨rfl, hb4, hT4⟩
    have h0 : FInv w.heap.size w w4 d x kl K 0 0 := by
      refine ⟨{ DS.new 7 with fuse := some K, keep := kl }, DS.new 7, ⟨rfl, rfl, rfl, rfl, rfl, Live.new 7⟩, Nat.zero_le _, Nat.zero_le _, ?_, Fit.new (by omega), hT4, hbel3.trans hb4⟩
      have h := (Fit.new (n := 7) (by omega)).lit (K : Int) hkl
      rw [hlit] at h
      exact h
    have H0 := Lib.hid h0
    clear h0 hT4 cF hlit T3 hbel3 hb4 hb1 hb2 hb3
    go_wp2_with fail
    go_loopw [11, 12, 13, 14] (fun mm i _ _ wr => ∃ m j : Nat, mm = .int .i64 m ∧ i = .int .i64 j ∧ j ≤ l.length ∧ m ≤ 160 ∧ Hid (FInv w.heap.size w wr d x kl K m j)) (fun _ i _ _ _ => l.length - (intOf i).toNat)
    case atStart => exact ⟨0, 0, rfl, rfl, by omega, by omega, H0⟩
    case round =>
      obtain ⟨m, j, rfl, rfl, hj, hm160, hinv⟩ := hrel
      clear H0
      obtain ⟨D, X, hft, hmK, hm2, hfD, hfX, hT, hbel⟩ := hinv.out
      have hsr := hbel.size
      have T := Lib.hid hT
      have HBEL := Lib.hid hbel
      by_cases hjl : j < l.length
      · have i1 : (j : Int) < (l.length : Int) := by omega
        have i0 : (0 : Int) ≤ (j : Int) := by omega
        have hxj : l[j]? = some l[j] := List.getElem?_eq_getElem hjl
        obtain ⟨⟨xa, xw, xf⟩, hxx⟩ : ∃ x, x = l[j] := ⟨_, rfl⟩
        rw [← hxx] at hxj
        obtain ⟨b, o, hA, hbB, hcell⟩ : ∃ b o, A = some ⟨b, o, none⟩ ∧ b < w.heap.size ∧ _ := by
          obtain ⟨A', c', he, hh⟩ := HA.out
          injection he with e1 _ _
          subst e1
          exact hh (by rintro rfl; simp at hjl)
        subst hA
        obtain ⟨n0, n1, n2⟩ := hcell j _ hxj
        have k0 : wr.cell? ⟨b, o + j * 3, none⟩ = some (.int .u8 (xa.toNat : Int)) := (hbel.cell (p := ⟨b, o + j * 3, none⟩) hbB).trans n0
        have k1 : wr.cell? ⟨b, o + j * 3 + 1, none⟩ = some (.int .u8 (xw.toNat : Int)) := (hbel.cell (p := ⟨b, o + j * 3 + 1, none⟩) hbB).trans n1
        have N1 := Lib.hid n1
        have N2 := Lib.hid n2
        have cd := two_dead hT
        rw [hft.dead] at cd
        have HFT := Lib.hid hft
        have HFD := Lib.hid hfD
        have HFX := Lib.hid hfX
        have HAT := Lib.hid (at_seven xa)
        clear n0 n1 n2 hcell hxx hxj hinv hft hfD hfX hT hbel
        go_wp2_with fail
        refine cd.mono ?_
        rintro e wq ⟨rfl, rfl⟩
        clear cd
        go_upto_region 13 with fail
        rw [HAT.out]
        have ha7 : xa.toNat % 7 < 7 := Nat.mod_lt _ (by omega)
        obtain ⟨at', hat'⟩ : ∃ at', at' = xa.toNat % 7 := ⟨_, rfl⟩
        rw [← hat'] at ha7 ⊢
        clear HAT hat' k0
        go_wp2_with fail
        refine (full_c xw _ wr rfl).mono ?_
        rintro e w5 ⟨g5, rfl, hr5, hb5⟩
        have hs5 := hb5.size
        have cW := two_write (T.out.grow hb5) (at' : Int) _ _ hr5 (HFD.out.fine (by omega))
        have hbel5 := HBEL.out.trans (Joins.below_le hb5 HBEL.out.size)
        rcases Nat.eq_zero_or_pos (K - m) with hr0 | hr0
        · obtain rfl : K = m := by omega
          have HFT0 : Hid (FT D X kl 0) := by
            have h := HFT.out
            rw [hr0] at h
            exact h
          rw [HFT0.out.write_zero ha7 (all512_length xw)] at cW
          have hfD1 : Fit ((D.wrote at' (all512 xw)).crash kl) (2 * j + 1) := (HFD.out.wrote (by rw [HFT0.out.len]; exact ha7) (all512_length xw)).crash kl
          clear hr5 k1 hr0
          go_wp2_with fail
          refine cW.mono ?_
          rintro e w6 ⟨rfl, hb6, hT6⟩
          have hs6 := hb6.size
          have hbel6 := hbel5.trans hb6
          have k6 : w6.cell? ⟨b, o + j * 3 + 1, none⟩ = some (.int .u8 (xw.toNat : Int)) := (hbel6.cell (p := ⟨b, o + j * 3 + 1, none⟩) hbB).trans N1.out
          have T6 := Lib.hid hT6
          clear hT6 cW
          go_wp2_with fail
          refine (full_c xw _ w6 rfl).mono ?_
          rintro e w7 ⟨g7, rfl, hr7, hb7⟩
          have hs7 := hb7.size
          have hbel7 := hbel6.trans (Joins.below_le hb7 hbel6.size)
          have cX := two_write (T6.out.grow hb7).swap (at' : Int) _ _ hr7 (HFX.out.fine (by omega))
          rw [HFT0.out.live.write_eq ha7 (all512_length xw)] at cX
          have hfX1 : Fit (X.wrote at' (all512 xw)).tick (2 * j + 1) := HFX.out.wroteTick (by rw [HFT0.out.live.lasts]; exact ha7) (all512_length xw)
          clear hr7 k6
          go_wp2_with fail
          refine cX.mono ?_
          rintro e w8 ⟨rfl, hb8, hT8⟩
          have hs8 := hb8.size
          have hbel8 := hbel7.trans hb8
          have cC := two_crash hT8 (.slice A2 kl.length cb) kl (HB.out.grow hbel8) hkl (hfX1.fine (by omega))
          rw [(HFT0.out.live.wrote at' (all512 xw)).crashed_eq] at cC
          clear hT8 cX
          go_wp2_with fail
          refine cC.mono ?_
          rintro e w9 ⟨rfl, hb9, hT9⟩
          have hs9 := hb9.size
          have T := Lib.hid hT9.swap
          have HSA := Lib.hid (HFT0.out.crash_wrote at' (all512 xw))
          have HF1 := Lib.hid hfD1
          have HF2 := Lib.hid (hfX1.crash kl)
          have HBEL := Lib.hid (hbel8.trans hb9)
          clear hT9 cC hfD1 hfX1 hbel5 hbel6 hbel7 hbel8 T6 HFT HFT0
          go_wp2_with fail
          refine (two_dead T.out).mono ?_
          rintro e wq ⟨rfl, rfl⟩
          rw [HSA.out.dead1]
          go_wp2_with fail
          refine (two_dead T.out.swap).mono ?_
          rintro e wq ⟨rfl, rfl⟩
          rw [HSA.out.dead2]
          go_wp2_with fail
          refine (two_waits T.out).mono ?_
          rintro e wq ⟨rfl, rfl⟩
          rw [HSA.out.waits]
          go_wp2_with fail
          refine (two_waits T.out.swap).mono ?_
          rintro e wq ⟨rfl, rfl⟩
          go_wp2_with fail
          refine (two_dead T.out).mono ?_
          rintro e wq ⟨rfl, rfl⟩
          rw [HSA.out.dead1]
          go_wp2_with fail
          refine (two_again T.out HSA.out.dead1 (by have := HF1.out.lasts; omega)).mono ?_
          rintro e wr1 ⟨d', rfl, hbr1, hT1⟩
          have hsr1 := hbr1.size
          have T1 := Lib.hid hT1
          clear hT1
          go_wp2_with fail
          refine (two_again T1.out.swap HSA.out.dead2 (by have := HF2.out.lasts; omega)).mono ?_
          rintro e wr2 ⟨x', rfl, hbr2, hT2⟩
          have hsr2 := hbr2.size
          have T2 := Lib.hid hT2.swap
          have HSB := Lib.hid HSA.out.again
          have HG1 := Lib.hid HF1.out.again
          have HG2 := Lib.hid HF2.out.again
          have HEND := Lib.hid ((HBEL.out.trans (Joins.below_le hbr1 HBEL.out.size)).trans (Joins.below_le hbr2 (Nat.le_trans HBEL.out.size hsr1)))
          clear hT2 T1
          go_wp2_with fail
          go_loopw [15, 16, 17, 18, 19] (fun i _ _ _ _ wr => ∃ t : Nat, i = .int .i64 t ∧ t ≤ 7 ∧ Below wr2.heap.size wr2 wr) (fun i _ _ _ _ _ => 7 - (intOf i).toNat)
          case atStart => exact ⟨0, rfl, by omega, Below.refl _ _⟩
          case round =>
            obtain ⟨t, rfl, ht, hbx⟩ := hrel
            have hsx := hbx.size
            by_cases ht7 : t < 7
            · have t1 : (t : Int) < 7 := by omega
              have t0 : (0 : Int) ≤ (t : Int) := by omega
              have hTr := T2.out.grow hbx
              have c1 := two_read hTr HSB.out.up1 ht7 (HG1.out.fine (by omega))
              have hlk : look (((D.wrote at' (all512 xw)).crash kl).again).lasts (((D.wrote at' (all512 xw)).crash kl).again).waits t = look (((X.wrote at' (all512 xw)).tick.crash kl).again).lasts (((X.wrote at' (all512 xw)).tick.crash kl).again).waits t := by rw [HSB.out.lasts, HSB.out.waits]
              rw [hlk] at c1
              obtain ⟨Tx, hTx⟩ : ∃ Tx, Tx = look (((X.wrote at' (all512 xw)).tick.crash kl).again).lasts (((X.wrote at' (all512 xw)).tick.crash kl).again).waits t := ⟨_, rfl⟩
              rw [← hTx] at c1
              have HTX := Lib.hid hTx
              clear hTx hTr hlk
              go_wp2_with fail
              refine c1.mono ?_
              rintro e w8 ⟨A8, c8, rfl, hr8, hb8, hT8⟩
              have hs8 := hb8.size
              have c2 := two_read hT8.swap HSB.out.up2 ht7 (HG2.out.fine (by omega))
              rw [← HTX.out] at c2
              have HR8 := Lib.hid hr8
              clear c1 hr8 hT8
              go_wp2_with fail
              refine c2.mono ?_
              rintro e w9 ⟨A9, c9, rfl, hr9, hb9, hT9⟩
              have hs9 := hb9.size
              have q8 := run_str (P := Try.prog) 27 5 9 Try.underlying27 Try.underlying5 Try.underlying9 (HR8.out.below hb9 hs9)
              have q9 := run_str (P := Try.prog) 27 5 9 Try.underlying27 Try.underlying5 Try.underlying9 hr9
              have hbel9 : Below wr2.heap.size wr2 w9 := (hbx.trans (Joins.below_le hb8 hsx)).trans (Joins.below_le hb9 (Nat.le_trans hsx hs8))
              clear c2 hr9 hT9 HR8 HTX
              go_wp2_with fail
              exact ⟨⟨t + 1, by go_num, ht7, hbel9⟩, by simp [intOf]; omega⟩
            · have t1 : ¬ (t : Int) < 7 := by omega
              have hend := HEND.out.trans (Joins.below_le hbx HEND.out.size)
              go_wp2_with fail
              go_ret
              exact ⟨rfl, hend⟩
        · obtain ⟨r, hr⟩ : ∃ r, K - m = r + 1 := ⟨K - m - 1, by omega⟩
          have HFT1 : Hid (FT D X kl (r + 1)) := by
            have h := HFT.out
            rw [hr] at h
            exact h
          have hmk : ((m : Int) == (K : Int)) = false := by simp; omega
          have hftn := HFT1.out.wrote at' (all512 xw)
          rw [HFT1.out.write_succ ha7 (all512_length xw)] at cW
          have hfD1 : Fit (D.wrote at' (all512 xw)).tick (2 * j + 1) := HFD.out.wroteTick (by rw [HFT1.out.len]; exact ha7) (all512_length xw)
          have hfX1 : Fit (X.wrote at' (all512 xw)).tick (2 * j + 1) := HFX.out.wroteTick (by rw [HFT1.out.live.lasts]; exact ha7) (all512_length xw)
          clear hr5 k1 hr0
          go_wp2_with fail
          refine cW.mono ?_
          rintro e w6 ⟨rfl, hb6, hT6⟩
          have hs6 := hb6.size
          have hbel6 := hbel5.trans hb6
          have k6 : w6.cell? ⟨b, o + j * 3 + 1, none⟩ = some (.int .u8 (xw.toNat : Int)) := (hbel6.cell (p := ⟨b, o + j * 3 + 1, none⟩) hbB).trans N1.out
          have T6 := Lib.hid hT6
          clear hT6 cW
          go_wp2_with fail
          refine (full_c xw _ w6 rfl).mono ?_
          rintro e w7 ⟨g7, rfl, hr7, hb7⟩
          have hs7 := hb7.size
          have hbel7 := hbel6.trans (Joins.below_le hb7 hbel6.size)
          have cX := two_write (T6.out.grow hb7).swap (at' : Int) _ _ hr7 (HFX.out.fine (by omega))
          rw [HFT1.out.live.write_eq ha7 (all512_length xw)] at cX
          obtain ⟨D1, hD1⟩ : ∃ D1, D1 = (D.wrote at' (all512 xw)).tick := ⟨_, rfl⟩
          obtain ⟨X1, hX1⟩ : ∃ X1, X1 = (X.wrote at' (all512 xw)).tick := ⟨_, rfl⟩
          rw [← hD1] at cX hftn hfD1
          rw [← hX1] at cX hftn hfX1
          clear hr7 k6 hD1 hX1
          go_wp2_with fail
          refine cX.mono ?_
          rintro e w8 ⟨rfl, hb8, hT8⟩
          have hs8 := hb8.size
          have hbel8 := hbel7.trans hb8
          have k8 : w8.cell? ⟨b, o + j * 3 + 2, none⟩ = some (.bool xf) := (hbel8.cell (p := ⟨b, o + j * 3 + 2, none⟩) hbB).trans N2.out
          have T8 := Lib.hid hT8.swap
          have HBEL8 := Lib.hid hbel8
          have HFTN := Lib.hid hftn
          clear hT8 cX hbel5 hbel6 hbel7 hbel8 hftn T6 HFT HFT1 HFD HFX HBEL T
          cases xf with
          | false =>
            have hnx : Hid (FInv w.heap.size w w8 d x kl K (m + 1) (j + 1)) :=
              ⟨D1, X1, by rw [show K - (m + 1) = r by omega]; exact HFTN.out, by omega, by omega, hfD1.mono (by omega), hfX1.mono (by omega), T8.out, HBEL8.out⟩
            clear hfD1 hfX1 HFTN T8 HBEL8
            go_wp2_with fail
            exact ⟨⟨m + 1, j + 1, by go_num, by go_num, hjl, by omega, hnx⟩, by simp [intOf]; omega⟩
          | true =>
            have cF := two_flush T8.out (hfD1.fine (by omega))
            rcases Nat.eq_zero_or_pos r with hr0 | hr0
            · subst hr0
              have hK1 : (K : Int) = (m : Int) + 1 := by omega
              rw [HFTN.out.flush_zero] at cF
              clear hr
              go_wp2_with fail
              refine cF.mono ?_
              rintro e w9 ⟨rfl, hb9, hT9⟩
              have hs9 := hb9.size
              have hbel9 := HBEL8.out.trans hb9
              have cC := two_crash hT9.swap (.slice A2 kl.length cb) kl (HB.out.grow hbel9) hkl (hfX1.fine (by omega))
              rw [HFTN.out.live.crashed_eq] at cC
              clear hT9 cF
              go_wp2_with fail
              refine cC.mono ?_
              rintro e w10 ⟨rfl, hb10, hT10⟩
              have hs10 := hb10.size
              have T := Lib.hid hT10.swap
              have HSA := Lib.hid HFTN.out.crash
              have HF1 := Lib.hid (hfD1.crash kl)
              have HF2 := Lib.hid (hfX1.crash kl)
              have HBEL := Lib.hid (hbel9.trans hb10)
              clear hT10 cC hfD1 hfX1 hbel9 HFTN T8 HBEL8
              go_wp2_with fail
              refine (two_dead T.out).mono ?_
              rintro e wq ⟨rfl, rfl⟩
              rw [HSA.out.dead1]
              go_wp2_with fail
              refine (two_dead T.out.swap).mono ?_
              rintro e wq ⟨rfl, rfl⟩
              rw [HSA.out.dead2]
              go_wp2_with fail
              refine (two_waits T.out).mono ?_
              rintro e wq ⟨rfl, rfl⟩
              rw [HSA.out.waits]
              go_wp2_with fail
              refine (two_waits T.out.swap).mono ?_
              rintro e wq ⟨rfl, rfl⟩
              go_wp2_with fail
              refine (two_dead T.out).mono ?_
              rintro e wq ⟨rfl, rfl⟩
              rw [HSA.out.dead1]
              go_wp2_with fail
              refine (two_again T.out HSA.out.dead1 (by have := HF1.out.lasts; omega)).mono ?_
              rintro e wr1 ⟨d', rfl, hbr1, hT1⟩
              have hsr1 := hbr1.size
              have T1 := Lib.hid hT1
              clear hT1
              go_wp2_with fail
              refine (two_again T1.out.swap HSA.out.dead2 (by have := HF2.out.lasts; omega)).mono ?_
              rintro e wr2 ⟨x', rfl, hbr2, hT2⟩
              have hsr2 := hbr2.size
              have T2 := Lib.hid hT2.swap
              have HSB := Lib.hid HSA.out.again
              have HG1 := Lib.hid HF1.out.again
              have HG2 := Lib.hid HF2.out.again
              have HEND := Lib.hid ((HBEL.out.trans (Joins.below_le hbr1 HBEL.out.size)).trans (Joins.below_le hbr2 (Nat.le_trans HBEL.out.size hsr1)))
              clear hT2 T1
              go_wp2_with fail
              go_loopw [15, 16, 17, 18, 19] (fun i _ _ _ _ wr => ∃ t : Nat, i = .int .i64 t ∧ t ≤ 7 ∧ Below wr2.heap.size wr2 wr) (fun i _ _ _ _ _ => 7 - (intOf i).toNat)
              case atStart => exact ⟨0, rfl, by omega, Below.refl _ _⟩
              case round =>
                obtain ⟨t, rfl, ht, hbx⟩ := hrel
                have hsx := hbx.size
                by_cases ht7 : t < 7
                · have t1 : (t : Int) < 7 := by omega
                  have t0 : (0 : Int) ≤ (t : Int) := by omega
                  have hTr := T2.out.grow hbx
                  have c1 := two_read hTr HSB.out.up1 ht7 (HG1.out.fine (by omega))
                  have hlk : look ((D1.crash kl).again).lasts ((D1.crash kl).again).waits t = look ((X1.crash kl).again).lasts ((X1.crash kl).again).waits t := by rw [HSB.out.lasts, HSB.out.waits]
                  rw [hlk] at c1
                  obtain ⟨Tx, hTx⟩ : ∃ Tx, Tx = look ((X1.crash kl).again).lasts ((X1.crash kl).again).waits t := ⟨_, rfl⟩
                  rw [← hTx] at c1
                  have HTX := Lib.hid hTx
                  clear hTx hTr hlk
                  go_wp2_with fail
                  refine c1.mono ?_
                  rintro e w8 ⟨A8, c8, rfl, hr8, hb8, hT8⟩
                  have hs8 := hb8.size
                  have c2 := two_read hT8.swap HSB.out.up2 ht7 (HG2.out.fine (by omega))
                  rw [← HTX.out] at c2
                  have HR8 := Lib.hid hr8
                  clear c1 hr8 hT8
                  go_wp2_with fail
                  refine c2.mono ?_
                  rintro e w9 ⟨A9, c9, rfl, hr9, hb9, hT9⟩
                  have hs9 := hb9.size
                  have q8 := run_str (P := Try.prog) 27 5 9 Try.underlying27 Try.underlying5 Try.underlying9 (HR8.out.below hb9 hs9)
                  have q9 := run_str (P := Try.prog) 27 5 9 Try.underlying27 Try.underlying5 Try.underlying9 hr9
                  have hbel9 : Below wr2.heap.size wr2 w9 := (hbx.trans (Joins.below_le hb8 hsx)).trans (Joins.below_le hb9 (Nat.le_trans hsx hs8))
                  clear c2 hr9 hT9 HR8 HTX
                  go_wp2_with fail
                  exact ⟨⟨t + 1, by go_num, ht7, hbel9⟩, by simp [intOf]; omega⟩
                · have t1 : ¬ (t : Int) < 7 := by omega
                  have hend := HEND.out.trans (Joins.below_le hbx HEND.out.size)
                  go_wp2_with fail
                  go_ret
                  exact ⟨rfl, hend⟩
            · obtain ⟨r', hr'⟩ : ∃ r', r = r' + 1 := ⟨r - 1, by omega⟩
              subst hr'
              have hmk2 : (((m : Int) + 1) == (K : Int)) = false := by simp; omega
              have hftn2 := HFTN.out.flushed
              rw [HFTN.out.flush_succ] at cF
              clear hr0
              go_wp2_with fail
              refine cF.mono ?_
              rintro e w9 ⟨rfl, hb9, hT9⟩
              have hs9 := hb9.size
              have hbel9 := HBEL8.out.trans hb9
              have cX := two_flush hT9.swap (hfX1.fine (by omega))
              rw [HFTN.out.live.flush_eq] at cX
              clear hT9 cF
              go_wp2_with fail
              refine cX.mono ?_
              rintro e w10 ⟨rfl, hb10, hT10⟩
              have hnx : Hid (FInv w.heap.size w w10 d x kl K (m + 2) (j + 1)) :=
                ⟨D1.tick.flushed, X1.tick.flushed, by rw [show K - (m + 2) = r' by omega]; exact hftn2, by omega, by omega, hfD1.tick.flushed.mono (by omega), hfX1.tick.flushed.mono (by omega), hT10.swap, hbel9.trans hb10⟩
              clear hT10 cX hfD1 hfX1 hftn2 hbel9 HFTN T8 HBEL8
              go_wp2_with fail
              exact ⟨⟨m + 2, j + 1, by go_num, by go_num, hjl, by omega, hnx⟩, by simp [intOf]; omega⟩
      · have i1 : ¬ (j : Int) < (l.length : Int) := by omega
        have HSA := Lib.hid hft.same
        have HF1 := Lib.hid hfD
        have HF2 := Lib.hid hfX
        clear hinv hft hfD hfX hT hbel
        rename World => wz
        go_wp2_with fail
        refine (two_dead T.out).mono ?_
        rintro e wq ⟨rfl, rfl⟩
        rw [HSA.out.dead1]
        go_wp2_with fail
        refine (two_dead T.out.swap).mono ?_
        rintro e wq ⟨rfl, rfl⟩
        rw [HSA.out.dead2]
        go_wp2_with fail
        refine (two_waits T.out).mono ?_
        rintro e wq ⟨rfl, rfl⟩
        rw [HSA.out.waits]
        go_wp2_with fail
        refine (two_waits T.out.swap).mono ?_
        rintro e wq ⟨rfl, rfl⟩
        go_wp2_with fail
        refine (two_dead T.out).mono ?_
        rintro e wq ⟨rfl, rfl⟩
        rw [HSA.out.dead1]
        go_wp2_with fail
        go_loopw [15, 16, 17, 18, 19] (fun i _ _ _ _ wr => ∃ t : Nat, i = .int .i64 t ∧ t ≤ 7 ∧ Below wz.heap.size wz wr) (fun i _ _ _ _ _ => 7 - (intOf i).toNat)
        case atStart => exact ⟨0, rfl, by omega, Below.refl _ _⟩
        case round =>
          obtain ⟨t, rfl, ht, hbx⟩ := hrel
          have hsx := hbx.size
          by_cases ht7 : t < 7
          · have t1 : (t : Int) < 7 := by omega
            have t0 : (0 : Int) ≤ (t : Int) := by omega
            have hTr := T.out.grow hbx
            have c1 := two_read hTr HSA.out.up1 ht7 (HF1.out.fine (by omega))
            have hlk : look (D).lasts (D).waits t = look (X).lasts (X).waits t := by rw [HSA.out.lasts, HSA.out.waits]
            rw [hlk] at c1
            obtain ⟨Tx, hTx⟩ : ∃ Tx, Tx = look (X).lasts (X).waits t := ⟨_, rfl⟩
            rw [← hTx] at c1
            have HTX := Lib.hid hTx
            clear hTx hTr hlk
            go_wp2_with fail
            refine c1.mono ?_
            rintro e w8 ⟨A8, c8, rfl, hr8, hb8, hT8⟩
            have hs8 := hb8.size
            have c2 := two_read hT8.swap HSA.out.up2 ht7 (HF2.out.fine (by omega))
            rw [← HTX.out] at c2
            have HR8 := Lib.hid hr8
            clear c1 hr8 hT8
            go_wp2_with fail
            refine c2.mono ?_
            rintro e w9 ⟨A9, c9, rfl, hr9, hb9, hT9⟩
            have hs9 := hb9.size
            have q8 := run_str (P := Try.prog) 27 5 9 Try.underlying27 Try.underlying5 Try.underlying9 (HR8.out.below hb9 hs9)
            have q9 := run_str (P := Try.prog) 27 5 9 Try.underlying27 Try.underlying5 Try.underlying9 hr9
            have hbel9 : Below wz.heap.size wz w9 := (hbx.trans (Joins.below_le hb8 hsx)).trans (Joins.below_le hb9 (Nat.le_trans hsx hs8))
            clear c2 hr9 hT9 HR8 HTX
            go_wp2_with fail
            exact ⟨⟨t + 1, by go_num, ht7, hbel9⟩, by simp [intOf]; omega⟩
          · have t1 : ¬ (t : Int) < 7 := by omega
            have hend := HBEL.out.trans (Joins.below_le hbx HBEL.out.size)
            go_wp2_with fail
            go_ret
            exact ⟨rfl, hend⟩
end Go.Proofs.Ythchnnddnjibmaa
