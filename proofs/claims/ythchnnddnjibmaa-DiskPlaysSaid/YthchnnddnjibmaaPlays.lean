/-
  DiskPlays, walked: whatever is done to a disk, it answers and stands as the document says. No condition but that its arguments lie in memory.
-/
import Derived.Test.YthchnnddnjibmaaTri
namespace Go.Proofs.Ythchnnddnjibmaa
open Go.RowKit Go.Maps

theorem text_of (l : List UInt8) : (⟨l.toArray⟩ : ByteArray).data.toList = l := by simp

set_option maxHeartbeats 8000000 in
set_option maxRecDepth 100000 in
theorem plays_walk (n : Int) (l : List StepT) (a : Value) (w : World) (ha : RdS w w.heap.size a l) (hl : l.length ≤ 9223372036854775807) :
    Calls Try.prog 4 #[.int .i64 n, a] w fun e w' => e = .returned (.bool true) ∧ Below w.heap.size w w' := by
  have HA := Lib.hid ha
  obtain ⟨A, ca, rfl, -⟩ := ha
  have hlong := long_any l A ca w hl
  by_cases h80 : 80 < l.length
  · rw [decide_eq_true h80] at hlong
    clear h80
    go_enter Try.func4, Try.ntmps4
    go_wp2_with fail
    refine hlong.mono ?_
    rintro e w1 ⟨rfl, rfl⟩
    go_wp2_with fail
    go_ret
    exact ⟨rfl, Below.refl _ _⟩
  · rw [decide_eq_false h80] at hlong
    have hl80 : l.length ≤ 80 := by omega
    clear h80 hl
    obtain ⟨M, hM1, hM2, hM⟩ := count_of n
    go_enter Try.func4, Try.ntmps4
    go_wp2_with fail
    refine hlong.mono ?_
    rintro e w1 ⟨rfl, rfl⟩
    clear hlong
    go_upto_region 4 with fail
    rw [hM]
    clear hM
    go_wp2_with fail
    refine (pNew_yes M w hM1 (by omega)).mono ?_
    rintro e w2 ⟨hb2, d, rfl, hd2⟩
    have hs2 := hb2.size
    have HD2 := Lib.hid hd2
    clear hd2
    go_wp2_with fail
    refine (xNew_yes M w2 hM1 (by omega)).mono ?_
    rintro e w3 ⟨hb3, x, rfl, hx3⟩
    have hs3 := hb3.size
    have hM3 : Mix Nil w.heap.size w3 d x (DS.new M) (DS.new M) := by
      refine ⟨Nat.le_trans hs2 hs3, _, _, _, HD2.out.kept (fun _ h => h) (fun _ h => h) (fun b hb _ => hb3.block b hb) (fun b _ _ hb => hb3.block b hb), hx3, (In.made (Nat.le_refl _)).grow hs3, fun b hb => hb.elim, In.made hs2, fun b hb => ⟨fun hg => by have h6 := hg.2; have h7 := hb.1; omega, fun hg => hg.elim⟩, fun b hb => hb.elim⟩
    have hbel3 := hb2.trans (Joins.below_le hb3 hs2)
    have MX3 := Lib.hid hM3
    have hfit : Fit (DS.new M) 0 := Fit.new (by omega)
    clear hM3 hx3 HD2 hb2 hb3
    go_wp2_with fail
    obtain ⟨ib, hib, hbz0, hbz1, hbz2⟩ := info_parts info_B
    go_loopw [5, 7, 9, 10, 11, 12, 13, 14, 15, 16, 17, 18, 19, 20, 21, 22] (fun s5 s7 i _ _ _ _ _ _ _ _ _ _ _ _ _ wr => ∃ (d x j : Nat) (D : DS), s5 = .pointer (some ⟨d, 0, none⟩) ∧ s7 = .pointer (some ⟨x, 0, none⟩) ∧ i = .int .i64 j ∧ j ≤ l.length ∧ Hid (Mix Nil w.heap.size wr d x D D) ∧ Fit D (2 * j) ∧ Below w.heap.size w wr) (fun _ _ i _ _ _ _ _ _ _ _ _ _ _ _ _ _ => l.length - (intOf i).toNat)
    case atStart => exact ⟨d, x, 0, _, rfl, rfl, rfl, by omega, MX3, hfit, hbel3⟩
    case round =>
      clear MX3 hfit hbel3
      obtain ⟨d, x, j, D, rfl, rfl, rfl, hj, hmix, hfit, hbel⟩ := hrel
      have hsr := hbel.size
      have cA := alike_any Nil w.heap.size d x D wr hmix.out (hfit.fine (by omega))
      by_cases hjl : j < l.length
      · have i1 : (j : Int) < (l.length : Int) := by omega
        have i0 : (0 : Int) ≤ (j : Int) := by omega
        have hxj : l[j]? = some l[j] := List.getElem?_eq_getElem hjl
        obtain ⟨st, hst⟩ : ∃ st, st = l[j] := ⟨_, rfl⟩
        rw [← hst] at hxj
        obtain ⟨b, o, hA, hok, hbB, hcell⟩ : ∃ b o, A = some ⟨b, o, none⟩ ∧ StepOk w w.heap.size st ∧ b < w.heap.size ∧ _ := by
          obtain ⟨A', c', he, ho, hh⟩ := HA.out
          injection he with e1 _ _
          subst e1
          obtain ⟨b, o, e2, e3, e4⟩ := hh (by rintro rfl; simp at hjl)
          exact ⟨b, o, e2, ho st (List.mem_of_getElem? hxj), e3, e4⟩
        subst hA
        obtain ⟨n0, n1, n2, n3, n4⟩ := hcell j _ hxj
        obtain ⟨sk, sa, sc, sf, sv, ss⟩ := st
        obtain ⟨hrow, hlow, hslen, hsa⟩ := hok
        have HN0 := Lib.hid n0
        have HN1 := Lib.hid n1
        have HN2 := Lib.hid n2
        have HN3 := Lib.hid n3
        have HN4 := Lib.hid n4
        have HROW := Lib.hid hrow
        have HLOW := Lib.hid hlow
        have HFIT := Lib.hid hfit
        have HBEL := Lib.hid hbel
        clear n0 n1 n2 n3 n4 hcell hst hxj hrow hlow hfit hbel
        go_wp2_with fail
        refine cA.mono ?_
        rintro e w4 ⟨rfl, hb4⟩
        have hs4 := hb4.size
        have hbel4 := HBEL.out.trans (Joins.below_le hb4 hsr)
        have k0 : w4.cell? ⟨b, o + j * 5, none⟩ = some (.int .i64 sk) := (hbel4.cell (p := ⟨b, o + j * 5, none⟩) hbB).trans HN0.out
        have k1 : w4.cell? ⟨b, o + j * 5 + 1, none⟩ = some (.int .i64 sa) := (hbel4.cell (p := ⟨b, o + j * 5 + 1, none⟩) hbB).trans HN1.out
        have k2 : w4.cell? ⟨b, o + j * 5 + 2, none⟩ = some (.int .u8 (sc.toNat : Int)) := (hbel4.cell (p := ⟨b, o + j * 5 + 2, none⟩) hbB).trans HN2.out
        have k3 : w4.cell? ⟨b, o + j * 5 + 3, none⟩ = some (.bool sf) := (hbel4.cell (p := ⟨b, o + j * 5 + 3, none⟩) hbB).trans HN3.out
        have k4 : w4.cell? ⟨b, o + j * 5 + 4, none⟩ = some sv := (hbel4.cell (p := ⟨b, o + j * 5 + 4, none⟩) hbB).trans HN4.out
        have MX4 := Lib.hid (hmix.out.grow hb4)
        have HBEL4 := Lib.hid hbel4
        obtain ⟨Av, cv, hsv, -⟩ := HROW.out
        have hsv' : sv = .slice Av ss.length cv := hsv
        subst hsv'
        clear cA hmix hbel4 hb4 HN0 HN1 HN2 HN3 HN4 HBEL hsv
        go_upto_region 14 with fail
        have hb5 := Below.alloc (Below.refl w4.heap.size w4) (Nat.le_refl _) (.cells #[.int .i64 sk, .int .i64 sa, .int .u8 (sc.toNat : Int), .bool sf, .slice Av ss.length cv] 47)
        have hnew5 := heap_alloc_new w4 (.cells #[.int .i64 sk, .int .i64 sa, .int .u8 (sc.toNat : Int), .bool sf, .slice Av ss.length cv] 47)
        obtain ⟨gs, hgs⟩ : ∃ gs, gs = w4.heap.size := ⟨_, rfl⟩
        rw [← hgs] at hnew5 ⊢
        obtain ⟨w5, hw5⟩ : ∃ w5, w5 = w4.alloc (.cells #[.int .i64 sk, .int .i64 sa, .int .u8 (sc.toNat : Int), .bool sf, .slice Av ss.length cv] 47) := ⟨_, rfl⟩
        rw [← hw5] at hb5 hnew5 ⊢
        have hgs5 : gs < w5.heap.size := (Array.getElem?_eq_some_iff.1 hnew5).1
        have hs5 := hb5.size
        have c52 : w5.cell? ⟨gs, 2, none⟩ = some (.int .u8 (sc.toNat : Int)) := (row7 hnew5).1 2
        have HGS := Lib.hid hgs
        have HNEW5 := Lib.hid hnew5
        clear hw5 hgs hnew5 k0 k1 k2 k3 k4
        go_wp2_with fail
        refine (full_any sc w5).mono ?_
        rintro e w6 ⟨g6, rfl, ho6, hb6⟩
        have hs6 := hb6.size
        have hnew6 := (hb6.block gs hgs5).trans HNEW5.out
        have c63 : w6.cell? ⟨gs, 3, none⟩ = some (.bool sf) := (row7 hnew6).1 3
        have hb46 := hb5.trans (Joins.below_le hb6 hs5)
        have hs46 := hb46.size
        have hbel6 := HBEL4.out.trans (Joins.below_le hb46 HBEL4.out.size)
        have hcut := bytes_cut w6 (some ⟨g6, 0, none⟩) 512 512 1 1 rfl (by omega)
        have hN6 : w4.heap.size ≤ g6 := by have := (ho6.lt g6 rfl).1; omega
        obtain ⟨bl, hbl⟩ : ∃ bl, bl = (if sf then all512 sc else (all512 sc).take 1) := ⟨_, rfl⟩
        have hblf : ∀ (W : World) (base : Nat), W.ownsRow base 5 1 (.slice (some ⟨g6, 0, none⟩) 512 512) 512 (BS (all512 sc)) → Rd W W.heap.size (.slice (some ⟨g6, 0, none⟩) bl.length 512) bl := by
          intro W base ho
          cases sf with
          | true =>
            have h := own_cut ho 512 (Nat.le_refl _)
            rw [List.take_of_length_le (by rw [all512_length]; exact Nat.le_refl _)] at h
            rw [hbl]
            exact h
          | false =>
            rw [hbl]
            exact own_cut ho 1 (by omega)
        have hbln : bl.length = if sf then 512 else 1 := by
          rw [hbl]
          cases sf
          · simp [all512_length]
          · exact all512_length sc
        have hbl5 : bl.length ≤ 512 := by rw [hbln]; cases sf <;> decide
        have HO6 := Lib.hid ho6
        have HBLF := Lib.hid hblf
        have HBLN := Lib.hid hbln
        have HNEW6 := Lib.hid hnew6
        have HB46 := Lib.hid hb46
        have HBEL6 := Lib.hid hbel6
        clear ho6 hblf hbln hnew6 hb46 hbel6 hb5 hb6 hbl HNEW5 c52 HBEL4
        go_upto_region 15 with fail
        go_upto_if 66 with fail
        go_cut [11] (fun bv wx => wx = w6 ∧ bv = .slice (some ⟨g6, 0, none⟩) bl.length 512)
        case first =>
          cases sf with
          | true =>
            go_wp2_with fail
            go_meet
            exact ⟨rfl, by rw [HBLN.out]; rfl⟩
          | false =>
            go_wp2_with fail
            go_meet
            exact ⟨rfl, by rw [HBLN.out]; rfl⟩
        case rest =>
          obtain ⟨hwc, rfl⟩ := hcut
          subst hwc
          have hgsc : gs < wc.heap.size := (Array.getElem?_eq_some_iff.1 HNEW6.out).1
          have hba := Below.alloc (Below.refl wc.heap.size wc) (Nat.le_refl _) (.cells #[] 4)
          have c64 : (wc.alloc (.cells #[] 4)).cell? ⟨gs, 4, none⟩ = some (.slice Av ss.length cv) := (hba.cell (p := ⟨gs, 4, none⟩) hgsc).trans ((row7 HNEW6.out).1 4)
          have hrow7 : RowAt (wc.alloc (.cells #[] 4)) (.slice Av ss.length cv) ss.length 1 (KS ss) := (HROW.out.grow HBEL6.out).grow hba
          go_upto_region 18 with (at_builtin; go_must (refine wpList_appG rfl (.tmp 69) (.tmp 71) 31 rfl wc.heap.size 4 ib _ 1 1 Try.underlying31 hib hbz0 hbz1 hbz2 rfl (by decide) _ _ 0 [] ss.length (KS ss) rfl rfl (empty_row wc 4 1 wc.heap.size (Nat.le_refl _)) hrow7 (KS_one _) (by unfold maxLen; omega) (by omega) (by simp) ?_; intro v7 w7 ho7 hg7; have hb7 : Below wc.heap.size wc w7 := ((Below.refl _ _).alloc (Nat.le_refl _) _).grown hg7 (by simp) (fun b hb => by injection hb with hb; subst hb; exact Nat.le_refl _)))
          have hs7 := hb7.size
          have hb47 := HB46.out.trans (Joins.below_le hb7 hs46)
          have hbel7 := HBEL6.out.trans (Joins.below_le hb7 HBEL6.out.size)
          have ho7' : w7.ownsRow wc.heap.size 4 1 v7 ss.length (KS ss) := own_eq ho7 (by omega) (by simp) (Nat.le_refl _)
          obtain ⟨_, _, hv7, -⟩ := RowAt.of_own ho7'
          have hv7' : ∃ A7 c7, v7 = .slice A7 ss.length c7 := ⟨_, _, hv7⟩
          clear hv7
          obtain ⟨A7, c7, rfl⟩ := hv7'
          have hN7 : ∀ b, (Value.slice A7 ss.length c7).ownBlock = some b → w4.heap.size ≤ b ∧ b < w7.heap.size := fun b hb => ⟨Nat.le_trans hs46 (ho7'.lt b hb).1, (ho7'.lt b hb).2⟩
          have hN6 : w4.heap.size ≤ g6 ∧ g6 < w7.heap.size := ⟨hN6, by have := (HO6.out.lt g6 rfl).2; omega⟩
          have hg6w : w.heap.size ≤ g6 := by omega
          have hNs : w4.heap.size ≤ gs ∧ gs < w7.heap.size := ⟨by have := HGS.out; omega, by omega⟩
          have RB7 := Lib.hid (own_eq (row_same HO6.out fun b hb => hb7.block b (HO6.out.lt b hb).2) rfl rfl (by omega : w.heap.size ≤ w5.heap.size))
          have RK7 := Lib.hid (own_eq ho7' rfl rfl (by omega : w.heap.size ≤ wc.heap.size))
          have NEW7 := Lib.hid ((hb7.block gs hgsc).trans HNEW6.out)
          have MX7 := Lib.hid (MX4.out.opened hb47)
          have HB7 := Lib.hid hbel7
          have c70 : w7.cell? ⟨gs, 0, none⟩ = some (.int .i64 sk) := (row7 NEW7.out).1 0
          have c71 : w7.cell? ⟨gs, 1, none⟩ = some (.int .i64 sa) := (row7 NEW7.out).1 1
          clear ho7 hg7 ho7' hb7 hbel7 hb47 HO6 HNEW6 HB46 HBEL6 MX4 hba c64 hrow7
          rename_i aK wx1 wx2
          have HK18 := Lib.hid aK
          clear aK
          go_wp2_with fail
          refine HK18.out _ _ ?_
          refine wp_seq_k ?_
          intro K1 aK1
          go_cut [5, 7, 13, 14] (fun s5 s7 s13 s14 wt => ∃ (d' x' : Nat) (D' : DS) (z : Int), s5 = .pointer (some ⟨d', 0, none⟩) ∧ s7 = .pointer (some ⟨x', 0, none⟩) ∧ s13 = .int .i64 z ∧ s14 = .int .i64 z ∧ Hid (Fit D' (2 * (j + 1))) ∧ Hid (Mix (fun b => w4.heap.size ≤ b ∧ b < w7.heap.size) w.heap.size wt d' x' D' D') ∧ Hid (Below w.heap.size w wt) ∧ Hid (wt.ownsRow w.heap.size 5 1 (.slice (some ⟨g6, 0, none⟩) 512 512) 512 (BS (all512 sc))) ∧ Hid (wt.ownsRow w.heap.size 4 1 (.slice A7 ss.length c7) ss.length (KS ss)))
          case rest =>
            obtain ⟨d', x', D', z, rfl, rfl, rfl, rfl, hD3, MT, HBT, RBT, RKT⟩ := hcut
            clear MX7 HB7 RB7 RK7 NEW7 c70 c71 HBLF HROW HLOW HFIT HGS
            go_wp2_with fail
            go_loopw [21] (fun kk wy => ∃ (r : Nat) (xs : List Value), kk = .int .i64 r ∧ r ≤ bl.length ∧ Hid (wy.ownsRow w.heap.size 5 1 (.slice (some ⟨g6, 0, none⟩) 512 512) 512 xs) ∧ Hid (wy.ownsRow w.heap.size 4 1 (.slice A7 ss.length c7) ss.length (KS ss)) ∧ Hid (Mix (fun b => w4.heap.size ≤ b ∧ b < w7.heap.size) w.heap.size wy d' x' D' D') ∧ Below w.heap.size w wy) (fun kk _ => bl.length - (intOf kk).toNat)
            case atStart => exact ⟨0, _, rfl, by omega, RBT.out, RKT.out, MT.out, HBT.out⟩
            case round =>
              obtain ⟨r, xs, rfl, hr, hbo, hko, hmx, hby⟩ := hrel
              clear RBT RKT MT HBT
              by_cases hrl : r < bl.length
              · have r1 : (r : Int) < (bl.length : Int) := by omega
                have r0 : (0 : Int) ≤ (r : Int) := by omega
                have hxl : xs.length = 512 := by simpa using hbo.out.1
                obtain ⟨u, hu⟩ : ∃ u, wr.cell? ⟨g6, r, none⟩ = some u := by
                  rw [hbo.out.cellAt r (by omega)]
                  exact ⟨_, List.getElem?_eq_getElem (by omega)⟩
                have hz : wr.frozen? ⟨g6, r, none⟩ = false := hbo.out.frozenAt r
                have hst := hbo.out.stored r (.int .u8 88)
                have hbs := hby.setCell (p := ⟨g6, r, none⟩) hg6w (.int .u8 88)
                have hms := hmx.out.row hN6 hst.2
                have hks : (wr.setCell ⟨g6, r, none⟩ (.int .u8 88)).ownsRow w.heap.size 4 1 (.slice A7 ss.length c7) ss.length (KS ss) := row_same hko.out fun b hb => set_other (rows_apart hko.out hbo.out (by decide) hb rfl)
                have HST := Lib.hid hst.1
                have HMS := Lib.hid hms
                have HKS := Lib.hid hks
                clear hst hms hks hbo hko hmx hxl
                go_wp2_with fail
                exact ⟨⟨r + 1, _, by go_num, hrl, HST, HKS, HMS, hbs⟩, by simp [intOf]; omega⟩
              · have r1 : ¬ (r : Int) < (bl.length : Int) := by omega
                clear hbo
                go_wp2_with fail
                go_loopw [22] (fun kk wy => ∃ (r : Nat) (ks : List Bool), kk = .int .i64 r ∧ r ≤ ss.length ∧ Hid (ks.length = ss.length) ∧ Hid (wy.ownsRow w.heap.size 4 1 (.slice A7 ss.length c7) ss.length (KS ks)) ∧ Hid (Mix (fun b => w4.heap.size ≤ b ∧ b < w7.heap.size) w.heap.size wy d' x' D' D') ∧ Below w.heap.size w wy) (fun kk _ => ss.length - (intOf kk).toNat)
                case atStart => exact ⟨0, ss, rfl, by omega, rfl, hko, hmx, hby⟩
                case round =>
                  clear hko hmx hby
                  obtain ⟨r', ks, rfl, hr', hkl, hko, hmx, hby⟩ := hrel
                  by_cases hrl' : r' < ss.length
                  · have q1 : (r' : Int) < (ss.length : Int) := by omega
                    have q0 : (0 : Int) ≤ (r' : Int) := by omega
                    obtain ⟨g7, cap7, hform, hg71, hg72⟩ := hko.out.form (by omega)
                    injection hform with e1 _ e3
                    subst e1
                    subst e3
                    have hkr : ks[r']? = some (ks[r']'(by have := hkl.out; omega)) := List.getElem?_eq_getElem (by have := hkl.out; omega)
                    obtain ⟨y, hy⟩ : ∃ y, y = ks[r']'(by have := hkl.out; omega) := ⟨_, rfl⟩
                    rw [← hy] at hkr
                    have hc : wr.cell? ⟨g7, r', none⟩ = some (.bool y) := (hko.out.cellAt r' (by omega)).trans (KS_get hkr)
                    have hz : wr.frozen? ⟨g7, r', none⟩ = false := hko.out.frozenAt r'
                    have hst := hko.out.stored r' (.bool (!y))
                    have hset : (KS ks).set r' (.bool (!y)) = KS (ks.set r' (!y)) := by unfold KS; rw [List.map_set]
                    rw [hset] at hst
                    have hbs := hby.setCell (p := ⟨g7, r', none⟩) hg71 (.bool (!y))
                    have hms := hmx.out.row (hN7 g7 rfl) hst.2
                    have HST := Lib.hid hst.1
                    have HMS := Lib.hid hms
                    have hkl' : Hid ((ks.set r' (!y)).length = ss.length) := by have := hkl.out; rw [List.length_set]; exact this
                    clear hst hms hko hmx hset hkr hy
                    go_wp2_with fail
                    exact ⟨⟨r' + 1, _, by go_num, hrl', hkl', HST, HMS, hbs⟩, by simp [intOf]; omega⟩
                  · have q1 : ¬ (r' : Int) < (ss.length : Int) := by omega
                    have HMC := Lib.hid hmx.out.closed
                    clear hko hmx
                    go_wp2_with fail
                    exact ⟨⟨_, _, j + 1, _, rfl, rfl, by go_num, hjl, HMC, hD3, hby⟩, by simp [intOf]; omega⟩
          case first =>
            by_cases hk0 : sk = 0
            · subst hk0
              have c1 := mix_read MX7.out sa (HFIT.out.fine (by omega))
              obtain ⟨R, hR⟩ : ∃ R, R = D.read sa := ⟨_, rfl⟩
              rw [← hR] at c1
              go_wp2_with fail
              refine c1.mono ?_
              rintro e w8 ⟨A8, c8, rfl, -, hb8, hM8⟩
              have hs8 := hb8.size
              have c2 := mixX_read hM8 sa (HFIT.out.fine (by omega))
              rw [← hR] at c2
              have c81 : w8.cell? ⟨gs, 1, none⟩ = some (.int .i64 sa) := (hb8.cell (p := ⟨gs, 1, none⟩) hNs.2).trans c71
              have MT := Lib.hid hM8
              have HBT := Lib.hid (HB7.out.trans (Joins.below_le hb8 HB7.out.size))
              have RBT := Lib.hid (row_same RB7.out fun b hb => hb8.block b (RB7.out.lt b hb).2)
              have RKT := Lib.hid (row_same RK7.out fun b hb => hb8.block b (RK7.out.lt b hb).2)
              clear hM8 hb8 c1 MX7 HB7 RB7 RK7 NEW7 hR
              go_wp2_with fail
              refine c2.mono ?_
              rintro e w9 ⟨rfl, rfl⟩
              clear c2
              have hD3 : Hid (Fit (D) (2 * (j + 1))) := HFIT.out.mono (by omega : 2 * j ≤ 2 * (j + 1))
              go_wp2_with fail
              go_meet
              exact ⟨d, x, D, _, rfl, rfl, rfl, rfl, hD3, MT, HBT, RBT, RKT⟩
            · have h0 : (sk == 0) = false := by simpa using hk0
              by_cases hk1 : sk = 1
              · subst hk1
                clear h0
                have c1 := mix_write MX7.out sa _ bl (HBLF.out w7 _ RB7.out) (HFIT.out.fine (by omega))
                obtain ⟨R, hR⟩ : ∃ R, R = D.write sa bl := ⟨_, rfl⟩
                have hfR : Fit R.2 (2 * j + 1) := by rw [hR]; exact HFIT.out.write sa bl
                rw [← hR] at c1
                go_wp2_with fail
                refine c1.mono ?_
                rintro e w8 ⟨rfl, hb8, hh8, hM8⟩
                have hs8 := hb8.size
                have c2 := mixX_write hM8 sa ⟨bl.toArray⟩ (HFIT.out.fine (by omega))
                rw [text_of, ← hR] at c2
                have c81 : w8.cell? ⟨gs, 1, none⟩ = some (.int .i64 sa) := (row7 ((hh8 gs hNs).trans NEW7.out)).1 1
                have RB8 := row_same RB7.out fun b hb => hh8 b (by injection hb with hb; subst hb; exact hN6)
                have q8 := run_str (P := Try.prog) 27 5 9 Try.underlying27 Try.underlying5 Try.underlying9 (HBLF.out w8 _ RB8)
                have HB8 := Lib.hid (HB7.out.trans hb8)
                have HH8 := Lib.hid hh8
                have hfR' := Lib.hid hfR
                clear c1 hM8 RB8 hh8 hb8 hR hfR MX7
                go_wp2_with fail
                refine c2.mono ?_
                rintro e w9 ⟨rfl, hb9, hh9, hM9⟩
                have hh79 := HH8.out.trans hh9
                have MT := Lib.hid hM9
                have HBT := Lib.hid (HB8.out.trans hb9)
                have RBT := Lib.hid (row_same RB7.out fun b hb => hh79 b (by injection hb with hb; subst hb; exact hN6))
                have RKT := Lib.hid (row_same RK7.out fun b hb => hh79 b (hN7 b hb))
                clear c2 hM9 hb9 hh9 hh79 HB7 RB7 RK7 NEW7 HB8 HH8
                have hD3 : Hid (Fit (R.2) (2 * (j + 1))) := hfR'.out.mono (by omega : 2 * j + 1 ≤ 2 * (j + 1))
                go_wp2_with fail
                go_meet
                exact ⟨d, x, R.2, _, rfl, rfl, rfl, rfl, hD3, MT, HBT, RBT, RKT⟩
              · have h1 : (sk == 1) = false := by simpa using hk1
                by_cases hk2 : sk = 2
                · subst hk2
                  clear h0 h1
                  have c1 := mix_flush MX7.out (HFIT.out.fine (by omega))
                  obtain ⟨R, hR⟩ : ∃ R, R = D.flush := ⟨_, rfl⟩
                  have hfR : Fit R.2 (2 * j + 1) := by rw [hR]; exact HFIT.out.flush
                  rw [← hR] at c1
                  go_wp2_with fail
                  refine c1.mono ?_
                  rintro e w8 ⟨rfl, hb8, hh8, hM8⟩
                  have hs8 := hb8.size
                  have c2 := mixX_flush hM8 (HFIT.out.fine (by omega))
                  rw [← hR] at c2
                  have HB8 := Lib.hid (HB7.out.trans hb8)
                  have HH8 := Lib.hid hh8
                  have hfR' := Lib.hid hfR
                  clear c1 hM8 hh8 hb8 hR hfR MX7
                  go_wp2_with fail
                  refine c2.mono ?_
                  rintro e w9 ⟨rfl, hb9, hh9, hM9⟩
                  have hh79 := HH8.out.trans hh9
                  have MT := Lib.hid hM9
                  have HBT := Lib.hid (HB8.out.trans hb9)
                  have RBT := Lib.hid (row_same RB7.out fun b hb => hh79 b (by injection hb with hb; subst hb; exact hN6))
                  have RKT := Lib.hid (row_same RK7.out fun b hb => hh79 b (hN7 b hb))
                  clear c2 hM9 hb9 hh9 hh79 HB7 RB7 RK7 NEW7 HB8 HH8
                  have hD3 : Hid (Fit (R.2) (2 * (j + 1))) := hfR'.out.mono (by omega : 2 * j + 1 ≤ 2 * (j + 1))
                  go_wp2_with fail
                  go_meet
                  exact ⟨d, x, R.2, _, rfl, rfl, rfl, rfl, hD3, MT, HBT, RBT, RKT⟩
                · have h2 : (sk == 2) = false := by simpa using hk2
                  by_cases hk3 : sk = 3
                  · subst hk3
                    clear h0 h1 h2
                    have c1 := mix_crash MX7.out _ ss (RowAt.of_own RK7.out) hslen (HFIT.out.fine (by omega))
                    obtain ⟨R, hR⟩ : ∃ R, R = D.crashed ss := ⟨_, rfl⟩
                    have hfR : Fit R.2 (2 * j + 1) := by rw [hR]; exact (HFIT.out.crashed ss).mono (Nat.le_succ _)
                    rw [← hR] at c1
                    go_wp2_with fail
                    refine c1.mono ?_
                    rintro e w8 ⟨rfl, hb8, hh8, hM8⟩
                    have hs8 := hb8.size
                    have c84 : w8.cell? ⟨gs, 4, none⟩ = some (.slice Av ss.length cv) := (row7 ((hh8 gs hNs).trans NEW7.out)).1 4
                    have c2 := mixX_crash hM8 (.slice Av ss.length cv) ss (HROW.out.grow (HB7.out.trans hb8)) HLOW.out (HFIT.out.fine (by omega))
                    rw [← hR] at c2
                    have HB8 := Lib.hid (HB7.out.trans hb8)
                    have HH8 := Lib.hid hh8
                    have hfR' := Lib.hid hfR
                    clear c1 hM8 hh8 hb8 hR hfR MX7
                    go_wp2_with fail
                    refine c2.mono ?_
                    rintro e w9 ⟨rfl, hb9, hh9, hM9⟩
                    have hh79 := HH8.out.trans hh9
                    have MT := Lib.hid hM9
                    have HBT := Lib.hid (HB8.out.trans hb9)
                    have RBT := Lib.hid (row_same RB7.out fun b hb => hh79 b (by injection hb with hb; subst hb; exact hN6))
                    have RKT := Lib.hid (row_same RK7.out fun b hb => hh79 b (hN7 b hb))
                    clear c2 hM9 hb9 hh9 hh79 HB7 RB7 RK7 NEW7 HB8 HH8
                    have hD3 : Hid (Fit (R.2) (2 * (j + 1))) := hfR'.out.mono (by omega : 2 * j + 1 ≤ 2 * (j + 1))
                    go_wp2_with fail
                    go_meet
                    exact ⟨d, x, R.2, _, rfl, rfl, rfl, rfl, hD3, MT, HBT, RBT, RKT⟩
                  · have h3 : (sk == 3) = false := by simpa using hk3
                    by_cases hk4 : sk = 4
                    · subst hk4
                      clear h0 h1 h2 h3
                      have c1 := mix_fuse MX7.out sa _ ss (by omega) (RowAt.of_own RK7.out) hslen
                      obtain ⟨R, hR⟩ : ∃ R, R = D.lit sa ss := ⟨_, rfl⟩
                      have hfR : Fit R.2 (2 * j + 1) := by rw [hR]; exact (HFIT.out.lit sa hslen).mono (Nat.le_succ _)
                      rw [← hR] at c1
                      go_wp2_with fail
                      refine c1.mono ?_
                      rintro e w8 ⟨rfl, hb8, hh8, hM8⟩
                      have hs8 := hb8.size
                      have c81 : w8.cell? ⟨gs, 1, none⟩ = some (.int .i64 sa) := (row7 ((hh8 gs hNs).trans NEW7.out)).1 1
                      have c84 : w8.cell? ⟨gs, 4, none⟩ = some (.slice Av ss.length cv) := (row7 ((hh8 gs hNs).trans NEW7.out)).1 4
                      have c2 := mixX_fuse hM8 sa (.slice Av ss.length cv) ss hsa (HROW.out.grow (HB7.out.trans hb8)) HLOW.out hslen
                      rw [← hR] at c2
                      have HB8 := Lib.hid (HB7.out.trans hb8)
                      have HH8 := Lib.hid hh8
                      have hfR' := Lib.hid hfR
                      clear c1 hM8 hh8 hb8 hR hfR MX7
                      go_wp2_with fail
                      refine c2.mono ?_
                      rintro e w9 ⟨rfl, hb9, hh9, hM9⟩
                      have hh79 := HH8.out.trans hh9
                      have MT := Lib.hid hM9
                      have HBT := Lib.hid (HB8.out.trans hb9)
                      have RBT := Lib.hid (row_same RB7.out fun b hb => hh79 b (by injection hb with hb; subst hb; exact hN6))
                      have RKT := Lib.hid (row_same RK7.out fun b hb => hh79 b (hN7 b hb))
                      clear c2 hM9 hb9 hh9 hh79 HB7 RB7 RK7 NEW7 HB8 HH8
                      have hD3 : Hid (Fit (R.2) (2 * (j + 1))) := hfR'.out.mono (by omega : 2 * j + 1 ≤ 2 * (j + 1))
                      go_wp2_with fail
                      go_meet
                      exact ⟨d, x, R.2, _, rfl, rfl, rfl, rfl, hD3, MT, HBT, RBT, RKT⟩
                    · have h4 : (sk == 4) = false := by simpa using hk4
                      by_cases hk5 : sk = 5
                      · subst hk5
                        clear h0 h1 h2 h3 h4
                        have c1 := mix_again MX7.out (HFIT.out.fine (by omega))
                        cases hdd : D.dead with
                        | false =>
                          rw [hdd] at c1
                          go_wp2_with fail
                          refine c1.mono ?_
                          rintro e w8 ⟨hb8, he8⟩
                          have he8' : e = .returned (.tuple #[.pointer none, .int .i64 50]) := by simpa using he8
                          subst he8'
                          have hs8 := hb8.size
                          have c2 := mixX_again (MX7.out.grow hb8) (HFIT.out.fine (by omega))
                          rw [hdd] at c2
                          clear c1 he8
                          go_wp2_with fail
                          refine c2.mono ?_
                          rintro e w9 ⟨hb9, he9⟩
                          have he9' : e = .returned (.tuple #[.pointer none, .int .i64 50]) := by simpa using he9
                          subst he9'
                          have hb79 := hb8.trans (Joins.below_le hb9 hs8)
                          have MT := Lib.hid (MX7.out.grow hb79)
                          have HBT := Lib.hid (HB7.out.trans (Joins.below_le hb79 HB7.out.size))
                          have RBT := Lib.hid (row_same RB7.out fun b hb => hb79.block b (RB7.out.lt b hb).2)
                          have RKT := Lib.hid (row_same RK7.out fun b hb => hb79.block b (RK7.out.lt b hb).2)
                          clear c2 he9 hb9 hb79 HB7 RB7 RK7 NEW7 MX7 hb8 hdd
                          have hD3 : Hid (Fit (D) (2 * (j + 1))) := HFIT.out.mono (by omega : 2 * j ≤ 2 * (j + 1))
                          go_wp2_with fail
                          go_meet
                          exact ⟨d, x, D, _, rfl, rfl, rfl, rfl, hD3, MT, HBT, RBT, RKT⟩
                        | true =>
                          rw [hdd] at c1
                          go_wp2_with fail
                          refine c1.mono ?_
                          rintro e w8 ⟨hb8, he8⟩
                          obtain ⟨d', he8', hM8⟩ : ∃ d', e = .returned (.tuple #[.pointer (some ⟨d', 0, none⟩), .int .i64 0]) ∧ Mix (fun b => w4.heap.size ≤ b ∧ b < w7.heap.size) w.heap.size w8 d' x D.again D := by simpa using he8
                          subst he8'
                          have hs8 := hb8.size
                          have c2 := mixX_again hM8 (HFIT.out.fine (by omega))
                          rw [hdd] at c2
                          clear c1 he8
                          go_wp2_with fail
                          refine c2.mono ?_
                          rintro e w9 ⟨hb9, he9⟩
                          obtain ⟨x', he9', hM9⟩ : ∃ x', e = .returned (.tuple #[.pointer (some ⟨x', 0, none⟩), .int .i64 0]) ∧ Mix (fun b => w4.heap.size ≤ b ∧ b < w7.heap.size) w.heap.size w9 d' x' D.again D.again := by simpa using he9
                          subst he9'
                          have hb79 := hb8.trans (Joins.below_le hb9 hs8)
                          have MT := Lib.hid hM9
                          have HBT := Lib.hid (HB7.out.trans (Joins.below_le hb79 HB7.out.size))
                          have RBT := Lib.hid (row_same RB7.out fun b hb => hb79.block b (RB7.out.lt b hb).2)
                          have RKT := Lib.hid (row_same RK7.out fun b hb => hb79.block b (RK7.out.lt b hb).2)
                          clear c2 he9 hb9 hb79 HB7 RB7 RK7 NEW7 MX7 hb8 hdd hM8 hM9
                          have hD3 : Hid (Fit (D.again) (2 * (j + 1))) := HFIT.out.again.mono (by omega : 2 * j ≤ 2 * (j + 1))
                          go_wp2_with fail
                          go_meet
                          exact ⟨d', x', D.again, _, rfl, rfl, rfl, rfl, hD3, MT, HBT, RBT, RKT⟩
                      · have h5 : (sk == 5) = false := by simpa using hk5
                        by_cases hk6 : sk = 6
                        · subst hk6
                          clear h0 h1 h2 h3 h4 h5
                          have c1 := tri_copy MX7.out (HFIT.out.fine (by omega))
                          go_wp2_with fail
                          refine c1.mono ?_
                          rintro e w8 ⟨d', rfl, hb8, hT8⟩
                          have hs8 := hb8.size
                          have c2 := tri_copyX hT8 (HFIT.out.fine (by omega))
                          have hh8 := MX7.out.held hb8
                          have HB8 := Lib.hid (HB7.out.trans (Joins.below_le hb8 HB7.out.size))
                          have HH8 := Lib.hid hh8
                          have T8 := Lib.hid hT8
                          clear c1 hT8 hh8 hb8 MX7
                          go_wp2_with fail
                          refine c2.mono ?_
                          rintro e w9 ⟨x', rfl, hb9, hT9⟩
                          have hs9 := hb9.size
                          have hh9 := HH8.out.trans (T8.out.held hb9)
                          have HB9 := Lib.hid (HB8.out.trans (Joins.below_le hb9 HB8.out.size))
                          have HH9 := Lib.hid hh9
                          have T9 := Lib.hid hT9
                          clear c2 hT9 hh9 hb9 T8 HH8 HB8
                          go_wp2_with fail
                          refine (full_c 122 _ w9 rfl).mono ?_
                          rintro e w10 ⟨g10, rfl, hr10, hb10⟩
                          have hs10 := hb10.size
                          have c3 := tri_write (T9.out.grow hb10) 0 _ _ hr10 (HFIT.out.fine (by omega))
                          have hh10 := HH9.out.trans (T9.out.held hb10)
                          have HB10 := Lib.hid (HB9.out.trans (Joins.below_le hb10 HB9.out.size))
                          have HH10 := Lib.hid hh10
                          clear hr10 hh10 hb10 T9 HH9 HB9
                          go_wp2_with fail
                          refine c3.mono ?_
                          rintro e w11 ⟨⟨cc, rfl⟩, hb11, hh11, hT11⟩
                          have hs11 := hb11.size
                          have c4 := tri_flush hT11 ((HFIT.out.write 0 (all512 122)).fine (by omega))
                          have HB11 := Lib.hid (HB10.out.trans hb11)
                          have HH11 := Lib.hid (HH10.out.trans hh11)
                          clear c3 hT11 hh11 hb11 HH10 HB10
                          go_wp2_with fail
                          refine c4.mono ?_
                          rintro e w12 ⟨⟨cc2, rfl⟩, hb12, hh12, hT12⟩
                          have hh712 := HH11.out.trans hh12
                          have MT := Lib.hid hT12.mix
                          have HBT := Lib.hid (HB11.out.trans hb12)
                          have RBT := Lib.hid (row_same RB7.out fun b hb => hh712 b (by injection hb with hb; subst hb; exact hN6))
                          have RKT := Lib.hid (row_same RK7.out fun b hb => hh712 b (hN7 b hb))
                          clear c4 hT12 hb12 hh12 hh712 HB7 RB7 RK7 NEW7 HB11 HH11
                          have hD3 : Hid (Fit (D) (2 * (j + 1))) := HFIT.out.mono (by omega : 2 * j ≤ 2 * (j + 1))
                          go_wp2_with fail
                          go_meet
                          exact ⟨d', x', D, _, rfl, rfl, rfl, rfl, hD3, MT, HBT, RBT, RKT⟩
                        · have h6 : (sk == 6) = false := by simpa using hk6
                          have MT := MX7
                          have HBT := HB7
                          have RBT := RB7
                          have RKT := RK7
                          clear MX7 HB7 RB7 RK7 NEW7
                          have hD3 : Hid (Fit (D) (2 * (j + 1))) := HFIT.out.mono (by omega : 2 * j ≤ 2 * (j + 1))
                          go_wp2_with fail
                          go_meet
                          exact ⟨d, x, D, _, rfl, rfl, rfl, rfl, hD3, MT, HBT, RBT, RKT⟩
      · have i1 : ¬ (j : Int) < (l.length : Int) := by omega
        go_wp2_with fail
        refine cA.mono ?_
        rintro e w4 ⟨rfl, hb4⟩
        have hend := hbel.trans (Joins.below_le hb4 hsr)
        go_wp2_with fail
        go_ret
        exact ⟨rfl, hend⟩
end Go.Proofs.Ythchnnddnjibmaa
