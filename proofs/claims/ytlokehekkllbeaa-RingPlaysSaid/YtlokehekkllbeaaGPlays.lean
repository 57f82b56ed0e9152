/-
  RingPlays, walked: records are appended, told again and forgotten as the document says. No condition but that its arguments lie in memory.
-/
import Derived.Test.YtlokehekkllbeaaGNo
namespace Go.Proofs.Ytlokehekkllbeaa
open Go.RowKit

set_option maxHeartbeats 8000000 in
set_option maxRecDepth 100000 in
theorem ringplays_walk (zf zc zb : Int) (l : List StepP) (a : Value) (w : World) (ha : RdP w a l) (hl : l.length ≤ 9223372036854775807) (hf : zf < 9223372036854775808) :
    Calls Try.prog 3 #[.int .i64 zf, .int .i64 zc, .int .i64 zb, a] w fun e w' => e = .returned (.bool true) ∧ Below w.heap.size w w' := by
  by_cases hbad : zf < 0 ∨ zc < 1 ∨ (12 : Int) - zf < zc ∨ zb < 0 ∨ 4611686018427387904 < zb
  · exact ringplays_no zf zc zb l a w ha hl hf hbad
  · obtain ⟨f, rfl⟩ : ∃ f : Nat, zf = (f : Int) := ⟨zf.toNat, by omega⟩
    obtain ⟨c, rfl⟩ : ∃ c : Nat, zc = (c : Int) := ⟨zc.toNat, by omega⟩
    obtain ⟨b0, rfl⟩ : ∃ b : Nat, zb = (b : Int) := ⟨zb.toNat, by omega⟩
    have hc1 : 1 ≤ c := by omega
    have hfc : f + c ≤ 12 := by omega
    have hb2 : b0 ≤ 4611686018427387904 := by omega
    clear hbad hf
    obtain ⟨A, ca, rfl, hcell⟩ := ha
    have HC := Lib.hid hcell
    clear hcell
    have f0 : Fit (DS.new 12) 0 := Fit.new (by omega)
    have hll : (DS.new 12).lasts.length = 12 := List.length_replicate
    have cN := pNew_yes 12 w (by omega) (by omega)
    obtain ⟨o0, i0, -⟩ := blank_calm (D := DS.new 12) (first := f) (count := c) (base := b0) rfl rfl hc1 (by rw [hll]; exact hfc) rfl (fun i hi => by
      show (List.replicate 12 (List.replicate 512 (0 : UInt8))).getD (f + i) [] = _
      rw [List.getD_eq_getElem?_getD, List.getElem?_replicate, if_pos (by omega)]
      rfl)
    have hwell : Well (DS.new 12) f c := ⟨rfl, rfl, by rw [hll]; exact hfc⟩
    obtain ⟨D0, hD0⟩ : ∃ D0, D0 = DS.new 12 := ⟨_, rfl⟩
    rw [← hD0] at f0 hll cN o0 i0 hwell
    have HLL := Lib.hid hll
    have HF0 := Lib.hid f0
    have HO0 := Lib.hid o0
    have HI0 := Lib.hid i0
    have HW0 := Lib.hid hwell
    clear hD0 hll f0 o0 i0 hwell
    go_enter Try.func3, Try.ntmps3
    go_wp2_with fail
    refine cN.mono ?_
    rintro e w1 ⟨hb1, q, rfl, hd1⟩
    clear cN
    have cO := popen_any hd1 (HF0.out.fine (by omega)) (fun b hb => hb.2) HW0.out.live f c b0 hc1 (by rw [HLL.out]; exact hfc) (by rw [HLL.out]; omega) hb2
    rw [HO0.out, HI0.out] at cO
    have HB1 := Lib.hid hb1
    have HD1 := Lib.hid hd1
    clear hd1 hb1
    go_wp2_with fail
    refine cO.mono ?_
    rintro e w2 ⟨r, v2, rfl, hb2', hr2, hrg2, hll2⟩
    clear cO
    obtain ⟨A2, c2, rfl⟩ : ∃ A c, v2 = .slice A 0 c := by
      obtain ⟨xs, he, A0, c0, hv, -⟩ := hll2
      exact ⟨A0, c0, hv⟩
    have hpd2 : PD w2 (Made w w1) Nil q D0 := HD1.out.kept (fun _ h => h) (fun _ h => h) (fun b hb _ => hb2'.block b hb) (fun b _ _ hb => hb2'.block b hb)
    have cS := sectors_any hpd2 HF0.out.ok HW0.out.live f c HW0.out.room (by rw [HLL.out]; omega)
    have HB2 := Lib.hid hb2'
    have HPD2 := Lib.hid hpd2
    have HRG2 := Lib.hid hrg2
    have HR2 := Lib.hid hr2
    have j1 : ¬ (f : Int) < 0 := by omega
    have j2 : ¬ (c : Int) < 1 := by omega
    have j3 : ¬ (12 : Int) < (c : Int) := by omega
    have j4 : ¬ (12 : Int) - (c : Int) < (f : Int) := by omega
    have j5 : ¬ (b0 : Int) < 0 := by omega
    have j6 : ¬ (4611686018427387904 : Int) < (b0 : Int) := by omega
    clear hll2 hb2' hpd2 hrg2 hr2
    go_upto_region 9 with fail
    clear j1 j2 j3 j4 j5 j6
    go_wp2_with fail
    refine cS.mono ?_
    rintro e w3 ⟨v3, rfl, hll3, hb3⟩
    clear cS
    have cX := xopen_seen HF0.out.ok HW0.out.room hc1 (by omega) hb2 hll3
    rw [HO0.out] at cX
    obtain ⟨A3, c3, hv3⟩ := hll3.slice
    subst hv3
    have HB3 := Lib.hid hb3
    clear hll3 hb3
    go_wp2_with fail
    refine cX.mono ?_
    rintro e w4 ⟨x, u4, rfl, hb4, hx4, hu4⟩
    clear cX hu4
    have hlp0 : LP w w4 q f c r x 0 := by
      have h12 := HB1.out.size
      have h23 := HB2.out.size
      have h34 := HB3.out.size
      have hb24 : Below w2.heap.size w2 w4 := HB3.out.trans (Joins.below_le hb4 HB3.out.size)
      have hbel : Below w.heap.size w w4 := (HB1.out.trans (Joins.below_le HB2.out h12)).trans (Joins.below_le hb24 (by omega))
      refine ⟨D0, ⟨f, c, b0, b0, b0⟩, ⟨Made w w1, Nil, HPD2.out.kept (fun _ h => h) (fun _ h => h) (fun b hb _ => hb24.block b hb) (fun b _ _ hb => hb24.block b hb), fun b hb => ⟨hb.1, by have := hb.2; have := hb24.size; omega, by have := hb.2; have := HR2.out; omega⟩, HRG2.out.kept (hb24.block r HRG2.out.lt), hx4.kept (fun b hb _ => ⟨by omega, fun h => by have := h.2; omega, by have := HRG2.out.lt; omega⟩) (Nat.le_refl _) (fun _ _ _ => rfl), by have := HR2.out; omega, hbel⟩, HW0.out, HF0.out, HLL.out, ⟨hc1, by show f + c ≤ 65536; omega, Nat.le_refl _, by show b0 ≤ b0 + c; omega, Nat.le_refl _, hb2⟩, rfl, rfl⟩
    have HLP0 := Lib.hid hlp0
    clear hlp0 hb4 hx4 HW0 HF0 HO0 HI0 HLL HPD2 HRG2 HR2 HB1 HB2 HB3 HD1
    go_wp2_with fail
    go_loopw [2, 10, 11, 12, 15, 17, 18, 19, 20, 21, 22, 23, 24, 25, 26, 27, 28, 29] (fun _ _ s11 _ s15 s17 _ _ _ _ _ _ _ _ _ _ _ _ wr => ∃ r x j : Nat, s11 = .pointer (some ⟨r, 0, none⟩) ∧ s15 = .pointer (some ⟨x, 0, none⟩) ∧ s17 = .int .i64 j ∧ j ≤ l.length ∧ j ≤ 40 ∧ Hid (LP w wr q f c r x (6 * j))) (fun _ _ _ _ _ s17 _ _ _ _ _ _ _ _ _ _ _ _ _ => l.length - (intOf s17).toNat)
    case atStart => exact ⟨r, x, 0, rfl, rfl, rfl, Nat.zero_le _, Nat.zero_le _, HLP0⟩
    case round =>
      clear HLP0
      obtain ⟨r, x, j, rfl, rfl, rfl, hj, hj40, hlp⟩ := hrel
      obtain ⟨wz, hwz⟩ : ∃ wz : World, wz = wr := ⟨_, rfl⟩
      subst hwz
      obtain ⟨D, R, ⟨G, S, hpd, hG, hrg, hxg, hrw, hbel⟩, hduf⟩ := hlp.out
      by_cases hgo : j < l.length ∧ j < 40
      · obtain ⟨hjl, hj4⟩ := hgo
        have a1 : (j : Int) < (l.length : Int) := by omega
        have a2 : (j : Int) < 40 := by omega
        have a0 : (0 : Int) ≤ (j : Int) := by omega
        obtain ⟨y, hyj⟩ : ∃ y, l[j]? = some y := ⟨l[j], List.getElem?_eq_getElem hjl⟩
        obtain ⟨bl, ol, rfl, hblw, hcl⟩ := HC.out (by intro e; rw [e] at hjl; simp at hjl)
        obtain ⟨c0, c1, c2, c3⟩ := hcl j y hyj
        obtain ⟨yk, yl, yc, yn⟩ := y
        have hcells : ∀ W : World, Below w.heap.size w W → W.cell? ⟨bl, ol + j * 4, none⟩ = some (.int .u8 (yk.toNat : Int)) ∧ W.cell? ⟨bl, ol + j * 4 + 1, none⟩ = some (.int .i64 yl) ∧ W.cell? ⟨bl, ol + j * 4 + 2, none⟩ = some (.int .u8 (yc.toNat : Int)) ∧ W.cell? ⟨bl, ol + j * 4 + 3, none⟩ = some (.int .i64 yn) := fun W hW =>
          ⟨(hW.cell (p := ⟨bl, ol + j * 4, none⟩) hblw).trans c0, (hW.cell (p := ⟨bl, ol + j * 4 + 1, none⟩) hblw).trans c1, (hW.cell (p := ⟨bl, ol + j * 4 + 2, none⟩) hblw).trans c2, (hW.cell (p := ⟨bl, ol + j * 4 + 3, none⟩) hblw).trans c3⟩
        have HCE := Lib.hid hcells
        obtain ⟨k0, k1, k2, k3⟩ := hcells wz hbel
        have HPD := Lib.hid hpd
        have HG := Lib.hid hG
        have HRG := Lib.hid hrg
        have HXG := Lib.hid hxg
        have HRW := Lib.hid hrw
        have HBEL := Lib.hid hbel
        have HDUF := Lib.hid hduf
        clear c0 c1 c2 c3 hcl hcells hyj hpd hG hrg hxg hrw hbel hduf hlp
        go_upto_region 16 with fail
        rename_i aK
        have HK16 := Lib.hid aK
        clear aK
        go_wp2_with fail
        refine HK16.out _ _ ?_
        go_cut [11, 15, 119] (fun s11 s15 _ wt => ∃ r' x' : Nat, s11 = .pointer (some ⟨r', 0, none⟩) ∧ s15 = .pointer (some ⟨x', 0, none⟩) ∧ Hid (LP w wt q f c r' x' (6 * (j + 1))))
        case first =>
          have hyk := yk.toNat_lt
          have hkind : yk.toNat = 0 ∨ yk.toNat = 1 ∨ yk.toNat = 2 ∨ yk.toNat = 3 ∨ yk.toNat = 4 ∨ yk.toNat = 5 ∨ 5 < yk.toNat := by omega
          obtain ⟨kd, hkd⟩ : ∃ kd, kd = yk.toNat := ⟨_, rfl⟩
          rw [← hkd] at hkind
          simp only [← hkd] at k0 HCE ⊢
          clear hkd hyk
          rcases hkind with rfl | rfl | rfl | rfl | rfl | rfl | h5
          · as_aux_lemma =>
              have cR0 := record_any 0 yl yn yc wz
              have hzr := HRG.out.lt
              go_wp2_with fail
              refine cR0.mono ?_
              rintro e w5 ⟨m, g1, rec, hm, hrl, rfl, hg1, ho1, hb5⟩
              clear cR0
              obtain ⟨iu, hiu, u0, u1, u2⟩ := info_parts info_U8
              have hb6 : Below w5.heap.size w5 (w5.alloc (.cells #[] 5)) := (Below.refl _ _).alloc (Nat.le_refl _) _
              have hown6 : (w5.alloc (.cells #[] 5)).ownsRow w5.heap.size 5 1 (.slice (some ⟨w5.heap.size, 0, none⟩) 0 0) 0 [] := World.ownsRow_lit w5 #[] 0 (Nat.le_refl _) (by unfold maxLen; omega) rfl
              have hrow6 : RowAt (w5.alloc (.cells #[] 5)) (.slice (some ⟨g1, 0, none⟩) m m) m 1 (BS rec) := RowAt.of_own (row_same ho1 fun p hp => hb6.block p (ho1.lt p hp).2)
              have hbase6 : w5.heap.size ≤ (w5.alloc (.cells #[] 5)).heap.size := hb6.size
              have HOWN6 := Lib.hid hown6
              have HROW6 := Lib.hid hrow6
              have HO1 := Lib.hid ho1
              have HB5 := Lib.hid hb5
              have HRL := Lib.hid hrl
              have HB6 := Lib.hid hb6
              clear hown6 hrow6 ho1 hb5 hrl hb6
              go_upto_region 20 with (at_builtin; go_must (refine wpList_appAt rfl (.tmp 127) (.tmp 128) 39 rfl w5.heap.size 5 iu _ 1 1 Try.underlying39 hiu u0 u1 u2 rfl (by decide) _ _ 0 [] m (BS rec) rfl rfl HOWN6.out HROW6.out (BS_one _) (by unfold maxLen; omega) (by omega) hbase6 ?_; intro A7 c7 w7 ho7 hg7 hat7))
              have hb57 : Below w5.heap.size w5 w7 := HB6.out.grown hg7 hbase6 (fun p hp => by have h1 : w5.heap.size = p := Option.some.inj hp; omega)
              have hs57 := hb57.size
              have hs5 := HB5.out.size
              have hbz7 : Below wz.heap.size wz w7 := HB5.out.trans (Joins.below_le hb57 hs5)
              have ho7' : w7.ownsRow w5.heap.size 5 1 (.slice A7 m c7) m (BS rec) := by have h := ho7; rw [Nat.zero_add] at h; exact h
              have hpd7 : PD w7 G S q D := HPD.out.kept (fun _ h => h) (fun _ h => h) (fun b hb _ => hbz7.block b hb) (fun b _ _ hb => hbz7.block b hb)
              have hrg7 : RgAt w7 r q R := HRG.out.kept (hbz7.block r hzr)
              have hp6 : pieces rec.length ≤ 6 := by rw [HRL.out]; unfold pieces; split <;> omega
              have hrd7 : RdN w7 (fun b => ¬ G b) (.slice A7 m c7) rec := RdN.own ho7' (fun p hp hg => by have := (ho7'.lt p hp).1; have := (HG.out p hg).2.1; omega)
              have cA := pappend_any hrg7 HDUF.out.fine hpd7 HDUF.out.fit (fun b hb => ⟨by have := (HG.out b hb).2.1; omega, (HG.out b hb).2.2⟩) rec _ hrd7 (by rw [HRL.out]; omega) (by omega)
              have hwl : Well D R.first R.count := by rw [HDUF.out.first, HDUF.out.count]; exact HDUF.out.well
              obtain ⟨D', ea, hw', hs', hl'⟩ := hwl.append (by rw [HDUF.out.count]; omega) rec
              rw [HDUF.out.first, HDUF.out.count] at ea hw' hs'
              have hfx := xput_fine (S := seen D f c) (rec := rec) HDUF.out.fine
              have hfa := fit_append (R := R) HDUF.out.fit rec
              obtain ⟨z, T', R', hX⟩ : ∃ z T' R', xput (seen D f c) R rec = (z, T', R') := ⟨_, _, _, rfl⟩
              rw [hX] at ea hs' hfx
              rw [ea] at cA hfa
              have HF' : Hid (Duf D' R' f c (6 * (j + 1))) := Lib.hid ⟨hw', hfa.mono (by omega), hl'.trans HDUF.out.len, hfx.1, hfx.2.1.trans HDUF.out.first, hfx.2.2.trans HDUF.out.count⟩
              have HX := Lib.hid hX
              have HS' := Lib.hid hs'
              have HO7 := Lib.hid ho7'
              have HBZ7 := Lib.hid hbz7
              have HB57 := Lib.hid hb57
              clear ho7 hg7 hat7 ho7' hpd7 hrg7 hrd7 hwl ea hw' hs' hl' hfx hfa hX hbz7 hb57 HOWN6 HROW6
              go_wp2_with fail
              refine cA.mono ?_
              rintro e w8 ⟨rfl, hk8, hpd8, hrg8⟩
              clear cA
              have hs78 := hk8.size
              have ho8 : w8.ownsRow w5.heap.size 5 1 (.slice A7 m c7) m (BS rec) := row_same HO7.out fun p hp => hk8.block p (HO7.out.lt p hp).2 (fun h => by
                have h1 := (HO7.out.lt p hp).1
                rcases h with h | h
                · have := (HG.out p h.1).2.1; omega
                · omega)
              have HK8 := Lib.hid hk8
              have HPD8 := Lib.hid hpd8
              have HRG8 := Lib.hid hrg8
              have HO8 := Lib.hid ho8
              clear hk8 hpd8 hrg8 ho8
              go_wp2_with fail
              go_loopw [20] (fun kv wr => ∃ (kk : Nat) (rc : List UInt8), kv = .int .i64 kk ∧ kk ≤ m ∧ rc.length = m ∧ Hid (wr.ownsRow w5.heap.size 5 1 (.slice A7 m c7) m (BS rc)) ∧ Hid (w8.grownBy wr (Value.slice A7 m c7).ownBlock)) (fun kv _ => m - (intOf kv).toNat)
              case atStart => exact ⟨0, rec, rfl, Nat.zero_le _, HRL.out, HO8, Lib.hid ⟨rfl, rfl, rfl, Nat.le_refl _, fun _ _ _ => rfl⟩⟩
              case round =>
                clear HO8
                obtain ⟨kk, rc, rfl, hkk, hrcl, hro, hgr⟩ := hrel
                obtain ⟨w9, hw9⟩ : ∃ w9 : World, w9 = wr := ⟨_, rfl⟩
                subst hw9
                by_cases hkl : kk < m
                · have i1 : (kk : Int) < (m : Int) := by omega
                  have i0 : (0 : Int) ≤ (kk : Int) := by omega
                  obtain ⟨g7, cap7, hform, hgx1, hgx2⟩ := hro.out.form (by omega)
                  injection hform with e1 e2 e3
                  subst e1 e3
                  obtain ⟨u, hu⟩ : ∃ u, w9.cell? ⟨g7, kk, none⟩ = some u := by
                    rw [hro.out.cellAt kk (by omega)]
                    exact ⟨_, List.getElem?_eq_getElem (by rw [BS_length]; omega)⟩
                  have hz : w9.frozen? ⟨g7, kk, none⟩ = false := hro.out.frozenAt kk
                  have hst := hro.out.stored kk (.int .u8 ((85 : UInt8).toNat : Int))
                  have hst1 := hst.1
                  rw [← BS_set] at hst1
                  have hgn : w8.grownBy (w9.setCell ⟨g7, kk, none⟩ (.int .u8 ((85 : UInt8).toNat : Int))) (some g7) := ⟨hst.2.os.trans hgr.out.os, hst.2.tape.trans hgr.out.tape, hst.2.output.trans hgr.out.output, Nat.le_trans hgr.out.size hst.2.size, fun p hp hpg => (hst.2.block p (by have := hgr.out.size; omega) hpg).trans (hgr.out.block p hp hpg)⟩
                  have HST := Lib.hid hst1
                  have HGN := Lib.hid hgn
                  have hrl2 : (rc.set kk 85).length = m := by rw [List.length_set]; exact hrcl
                  clear hst hst1 hgn hro hgr
                  go_wp2_with fail
                  exact ⟨⟨kk + 1, _, by go_num, hkl, hrl2, HST, HGN⟩, by simp [intOf]; omega⟩
                · have i1 : ¬ (kk : Int) < (m : Int) := by omega
                  obtain ⟨N0, hN0⟩ : ∃ N0 : Nat → Prop, N0 = fun b => (w.heap.size ≤ b ∧ ¬ G b ∧ b ≠ r) ∧ b < wz.heap.size := ⟨_, rfl⟩
                  have n1 : ∀ b, N0 b → (w.heap.size ≤ b ∧ ¬ G b ∧ b ≠ r) ∧ b < wz.heap.size := fun b hb => by rw [hN0] at hb; exact hb
                  have hin : ∀ p, (Value.slice A7 m c7).ownBlock = some p → w5.heap.size ≤ p ∧ p < w7.heap.size := fun p hp => HO7.out.lt p hp
                  have hs89 := hgr.out.size
                  have hold : ∀ b, b < wz.heap.size → ¬ G b → b ≠ r → w9.heap[b]? = wz.heap[b]? := fun b hb hnG hnr => ((hgr.out.block b (by omega) (fun e => by have := (hin b e.symm).1; omega)).trans (HK8.out.block b (by omega) (fun h => h.elim (fun h => hnG h.1) hnr))).trans (HBZ7.out.block b hb)
                  have hxg9 : XG w9 N0 x (seen D f c) R := HXG.out.kept (fun b hb hl => by rw [hN0]; exact ⟨hb, hl⟩) (by omega) (fun b hb hl => hold b hl hb.2.1 hb.2.2)
                  have hg1l := (HO1.out.lt g1 rfl).2
                  have hrb : RdN w9 (fun b => ¬ N0 b) (.slice (some ⟨g1, 0, none⟩) m m) rec := by
                    have h9 : w9.heap[g1]? = w5.heap[g1]? := (hgr.out.block g1 (by omega) (fun e => by have := (hin g1 e.symm).1; omega)).trans ((HK8.out.block g1 (by omega) (fun h => by
                      rcases h with h | h
                      · have := (HG.out g1 h.1).2.1; omega
                      · omega)).trans (HB57.out.block g1 hg1l))
                    exact RdN.own (row_same HO1.out (w' := w9) fun p hp => by have h1 : g1 = p := Option.some.inj hp; rw [← h1]; exact h9) (fun p hp hn => by have h1 : g1 = p := Option.some.inj hp; have := (n1 p hn).2; omega)
                  have cX := xappend_any hxg9 HDUF.out.fine (by rw [HDUF.out.count]; exact seen_length HDUF.out.well.room) (fun b hb => by have := (n1 b hb).2; omega) rec _ hrb (by rw [HRL.out]; omega)
                  have hnext : ∀ w10, XG w10 (fun b => N0 b ∨ w9.heap.size ≤ b) x T' R' → Kept w9 w10 (fun b => N0 b ∧ ¬ IsSec w9 b) → LP w w10 q f c r x (6 * (j + 1)) := fun w10 hx10 hk10 => by
                    have hs910 := hk10.size
                    have hGm : ∀ b, More G w7 w8 b → w.heap.size ≤ b ∧ b < w10.heap.size ∧ b ≠ r := fun b hb => by
                      rcases hb with h | h
                      · have := HG.out b h; exact ⟨this.1, by omega, this.2.2⟩
                      · have := h.1; have := h.2; have := HBEL.out.size; exact ⟨by omega, by omega, by omega⟩
                    have hNm : ∀ b, N0 b → ¬ More G w7 w8 b := fun b hb h => h.elim (n1 b hb).1.2.1 (fun h => by have := h.1; have := (n1 b hb).2; omega)
                    have hinM : ∀ b, More G w7 w8 b → (Value.slice A7 m c7).ownBlock ≠ some b := fun b hb e => by
                      have h1 := hin b e
                      rcases hb with h | h
                      · have := (HG.out b h).2.1; omega
                      · have := h.1; omega
                    have hp9 : PD w9 (More G w7 w8) (More S w7 w8) q D' := HPD8.out.kept (fun _ h => h) (fun _ h => h) (fun b hb hm => hgr.out.block b hb (fun e => hinM b hm.1 e.symm)) (fun b _ hi hb => hgr.out.block b hb (fun e => row_not_sec (row_same HO7.out (w' := w8) fun p hp => HK8.out.block p (HO7.out.lt p hp).2 (fun h => by
                      have h1 := (HO7.out.lt p hp).1
                      rcases h with h | h
                      · have := (HG.out p h.1).2.1; omega
                      · omega)) (by decide) e.symm hi))
                    refine ⟨D', R', ⟨More G w7 w8, More S w7 w8, hp9.kept (fun _ h => h) (fun _ h => h) (fun b hb hm => hk10.block b hb (fun h => hNm b h.1 hm.1)) (fun b _ hi hb => hk10.block b hb (fun h => h.2 hi)), hGm, (HRG8.out.kept (hgr.out.block r HRG8.out.lt (fun e => by have := (hin r e.symm).1; omega))).kept (hk10.block r (by omega) (fun h => (n1 r h.1).1.2.2 rfl)), ?_, HRW.out, ?_⟩, HF'.out⟩
                    · rw [HS'.out]
                      refine hx10.kept (fun b hb hl => ?_) (Nat.le_refl _) (fun _ _ _ => rfl)
                      rcases hb with h | h
                      · exact ⟨(n1 b h).1.1, hNm b h, (n1 b h).1.2.2⟩
                      · refine ⟨by have := HBEL.out.size; omega, fun h2 => ?_, by omega⟩
                        rcases h2 with h2 | h2
                        · have := (HG.out b h2).2.1; omega
                        · have := h2.2; omega
                    · have b7 := HBEL.out.trans (Joins.below_le HBZ7.out HBEL.out.size)
                      have b8 := b7.trans (HK8.out.below b7.size (fun b hb => hb.elim (fun h => (HG.out b h.1).1) (fun h => by rw [h]; exact HRW.out)))
                      have b9 := b8.grown hgr.out b8.size (fun p hp => by have := (hin p hp).1; have := HBEL.out.size; omega)
                      exact b9.trans (hk10.below b9.size (fun b hb => (n1 b hb.1).1.1))
                  have HNEXT := Lib.hid hnext
                  have HCX := Lib.hid cX
                  clear hN0 n1 hin hold hxg9 hrb cX hnext hro hgr
                  go_wp2_with fail
                  refine HCX.out.mono ?_
                  rintro e w10 ⟨rfl, hx10, hk10⟩
                  rw [HX.out] at hx10 ⊢
                  have HLP10 := Lib.hid (HNEXT.out w10 hx10 hk10)
                  clear hx10 hk10
                  go_wp2_with fail
                  go_meet
                  exact ⟨r, x, rfl, rfl, HLP10⟩
          · as_aux_lemma =>
              have cF := psync_any HRG.out HPD.out (HDUF.out.fit.fine (by omega))
              obtain ⟨D', ef, hw', hs', hl', hq'⟩ := HDUF.out.well.flush
              rw [ef] at cF
              have hf' := Fit.flush HDUF.out.fit
              rw [ef] at hf'
              have HF' : Hid (Duf D' R f c (6 * (j + 1))) := Lib.hid ⟨hw', hf'.mono (by omega), hl'.trans HDUF.out.len, HDUF.out.fine, HDUF.out.first, HDUF.out.count⟩
              have HS' := Lib.hid hs'
              have HQ' := Lib.hid hq'
              clear ef hw' hs' hl' hq' hf'
              go_wp2_with fail
              refine cF.mono ?_
              rintro e w5 ⟨rfl, hk5, hpd5⟩
              clear cF
              obtain ⟨d1, d2, d3⟩ := duo_call (R := R) HG.out HXG.out HRW.out HBEL.out (hk5.mono (fun _ _ h => .inl h)) (hk5.size) HRG.out.lt
              have hrg5 : RgAt w5 r q R := HRG.out.kept (hk5.block r HRG.out.lt (fun h => (HG.out r h.1).2.2 rfl))
              have cW := pWaits_any _ _ q D' w5 hpd5
              rw [HQ'.out, show (([] : List (Nat × List UInt8)).length : Int) = 0 from rfl] at cW
              have hlp5 : LP w w5 q f c r x (6 * (j + 1)) := ⟨D', R, ⟨_, _, hpd5, d1, hrg5, by rw [HS'.out]; exact d2, HRW.out, d3⟩, HF'.out⟩
              have HLP5 := Lib.hid hlp5
              clear hlp5 d1 d2 d3 hrg5 hpd5 hk5
              go_wp2_with fail
              refine cW.mono ?_
              rintro e w6 ⟨rfl, rfl⟩
              go_wp2_with fail
              go_meet
              exact ⟨r, x, rfl, rfl, HLP5⟩
          · as_aux_lemma =>
              have cE := pempty_any HRG.out
              go_wp2_with fail
              refine cE.mono ?_
              rintro e w5 ⟨rfl, hk5, hrg5⟩
              clear cE
              obtain ⟨d1, d2, d3⟩ := duo_call (R := R) HG.out HXG.out HRW.out HBEL.out (hk5.mono (fun _ _ h => .inr h)) (hk5.size) HRG.out.lt
              have hpd5 : PD w5 G S q D := HPD.out.kept (fun _ h => h) (fun _ h => h) (fun b hb hm => hk5.block b hb (fun e => (HG.out b hm.1).2.2 e)) (fun b _ hi hb => hk5.block b hb (fun e => not_sec HRG.out (by decide) (e ▸ hi)))
              have cX := xempty_any d2
              have hxG : ¬ G x ∧ x ≠ r := ⟨HXG.out.inx.2.1, HXG.out.inx.2.2⟩
              have HK5 := Lib.hid hk5
              have HRG5 := Lib.hid hrg5
              have HPD5 := Lib.hid hpd5
              have HD1 := Lib.hid d1
              have HD3 := Lib.hid d3
              have HXA := Lib.hid d2
              have HFE : Hid (RG.fine { R with base := R.top, last := R.top }) := Lib.hid (by
                have h9 := HDUF.out.fine
                exact ⟨h9.pos, h9.room, Nat.le_refl _, by show R.top ≤ R.top + R.count; omega, Nat.le_refl _, h9.most⟩)
              clear d1 d2 d3 hk5 hrg5 hpd5
              go_wp2_with fail
              refine cX.mono ?_
              rintro e w6 ⟨rfl, hk6, hxg6⟩
              have hlp6 : LP w w6 q f c r x (6 * (j + 1)) := by
                have hrx : r ≠ x := fun e => hxG.2 e.symm
                have hnsx : ∀ b, IsSec w5 b → b ≠ x := fun b hb e => by
                  obtain ⟨vv, ys, hxa⟩ := HXA.out
                  exact not_sec hxa.cells (by decide) (e ▸ hb)
                refine ⟨D, { R with base := R.top, last := R.top }, ⟨More G wz w5, More S wz w5, HPD5.out.kept (fun _ h => .inl h) (fun _ h => .inl h) (fun b hb hm => hk6.block b hb (fun e => hxG.1 (e ▸ hm.1))) (fun b _ hi hb => hk6.block b hb (hnsx b hi)), fun b hb => ⟨(HD1.out b hb).1, by have := (HD1.out b hb).2.1; have := hk6.size; omega, (HD1.out b hb).2.2⟩, HRG5.out.kept (hk6.block r HRG5.out.lt hrx), hxg6, HRW.out, HD3.out.trans (hk6.below HD3.out.size (fun b hb => by rw [hb]; exact HXG.out.inx.1))⟩, HDUF.out.well, HDUF.out.fit.mono (by omega), HDUF.out.len, HFE.out, HDUF.out.first, HDUF.out.count⟩
              have HLP6 := Lib.hid hlp6
              clear hlp6 hk6 hxg6
              go_wp2_with fail
              go_meet
              exact ⟨r, x, rfl, rfl, HLP6⟩
          · as_aux_lemma =>
              have hRb : R.base ≤ 4611686018427387904 := by have h1 := HDUF.out.fine.low; have h2 := HDUF.out.fine.up; have h3 := HDUF.out.fine.most; omega
              have hzr := HRG.out.lt
              have cO := popen_soft HPD.out (HDUF.out.fit.fine (by omega)) (fun b hb => (HG.out b hb).2.1) HDUF.out.well.live f c R.base hc1 HDUF.out.well.room (by rw [HDUF.out.len]; omega) hRb
              obtain ⟨vx, xs, hxz⟩ := id HXG.out
              have x1 : wz.cell? ⟨x, 1, none⟩ = some (.int .i64 (R.base : Int)) := hxz.c1
              clear hxz
              go_wp2_with fail
              refine cO.mono ?_
              rintro e w6 ⟨r', v12, rfl, hb6, hr6, hrg6, hll6⟩
              clear cO
              obtain ⟨L, hL⟩ : ∃ L, L = inRing D f c R.base := ⟨_, rfl⟩
              obtain ⟨R', hR'⟩ : ∃ R', R' = opened D f c R.base := ⟨_, rfl⟩
              rw [← hL] at hll6
              rw [← hR'] at hrg6
              obtain ⟨A12, c12, rfl⟩ : ∃ A cc, v12 = .slice A L.length cc := by
                obtain ⟨xs, he, A0, c0, hv, -⟩ := hll6
                exact ⟨A0, c0, hv⟩
              have hs6 := hb6.size
              obtain ⟨vx, xs, hxa⟩ := HXG.out.below hb6
              have x0 : w6.cell? ⟨x, 0, none⟩ = some vx := hxa.c0
              have cX := xopen_seen HDUF.out.fit.ok HDUF.out.well.room hc1 (by omega) hRb hxa.sectors
              rw [← hL, ← hR'] at cX
              have hL12 : L.length ≤ 12 := by rw [hL]; exact Nat.le_trans (Nat.le_trans (whole_length _ _) (run_length _ _ _)) (by omega)
              have hfo : R'.fine := by rw [hR']; exact opened_fine hc1 (by omega) HDUF.out.well.room hRb
              have HF' : Hid (Duf D R' f c (6 * (j + 1))) := Lib.hid ⟨HDUF.out.well, HDUF.out.fit.mono (by omega), HDUF.out.len, hfo, by rw [hR']; rfl, by rw [hR']; rfl⟩
              obtain ⟨Ax, cx, hvx⟩ := own_slice hxa.own
              subst hvx
              have HB6 := Lib.hid hb6
              have HRG6 := Lib.hid hrg6
              have HLL6 := Lib.hid hll6
              have HR6 := Lib.hid hr6
              clear hb6 hrg6 hll6 hxa hL hR' hfo hr6
              go_wp2_with fail
              refine cX.mono ?_
              rintro e w7 ⟨x', u7, rfl, hb7, hx7, hu7⟩
              clear cX
              have hll7 := HLL6.out.kept (w' := w7) (M' := fun b => r' < b ∧ ¬ U8B w6 b ∧ b < w6.heap.size) (N' := fun b => r' < b ∧ U8B w6 b ∧ b < w6.heap.size) (fun b h hl => ⟨h.1, h.2, hl⟩) (fun b h hl => ⟨h.1, h.2, hl⟩) hb7.size (fun b _ hl => hb7.block b hl)
              have cE := same_any L L _ _ w7 hll7.ll hu7 (by omega) (by omega)
              rw [decide_eq_true rfl] at cE
              obtain ⟨Au, cu, hvu⟩ := hu7.slice
              subst hvu
              have HB7 := Lib.hid hb7
              have HX7 := Lib.hid hx7
              have HLL7 := Lib.hid hll7
              have HCE7 := Lib.hid cE
              have hs7 := hb7.size
              clear hb7 hx7 hll7 hu7 cE
              go_wp2_with fail
              refine HCE7.out.mono ?_
              rintro e w8 ⟨rfl, ky, rfl⟩
              obtain ⟨w8, hw8⟩ : ∃ w8, w8 = w7.drewN ky := ⟨_, rfl⟩
              rw [← hw8]
              have hb8 : Below w7.heap.size w7 w8 := by rw [hw8]; exact ⟨rfl, rfl, rfl, Nat.le_refl _, fun _ _ => rfl⟩
              have hs8 := hb8.size
              have hb68 : Below w6.heap.size w6 w8 := HB7.out.trans (Joins.below_le hb8 hs7)
              have hbz8 : Below wz.heap.size wz w8 := HB6.out.trans (Joins.below_le hb68 hs6)
              have hll8 := HLL7.out.kept (w' := w8) (fun _ h _ => h) (fun _ h _ => h) hs8 (fun b _ hl => hb8.block b hl)
              obtain ⟨F, hF⟩ : ∃ F : Nat → Prop, F = fun b => r' < b ∧ U8B w6 b ∧ b < w6.heap.size := ⟨_, rfl⟩
              rw [← hF] at hll8
              have hF1 : ∀ b, F b → r' < b ∧ U8B w8 b ∧ b < w6.heap.size := fun b hb => by
                rw [hF] at hb
                exact ⟨hb.1, by obtain ⟨C, hC⟩ := hb.2.1; exact ⟨C, (hb68.block b hb.2.2).trans hC⟩, hb.2.2⟩
              have hM1 : ∀ b, (r' < b ∧ ¬ U8B w6 b ∧ b < w6.heap.size) → ¬ F b := fun b hb h => by rw [hF] at h; exact hb.2.1 h.2.1
              have hend : ∀ w9, Over w8 w9 F → LP w w9 q f c r' x' (6 * (j + 1)) := fun w9 ho => by
                have hk9 := ho.1
                have hs9 := hk9.size
                have hFr : ¬ F r' := fun h => absurd (hF1 r' h).1 (Nat.lt_irrefl _)
                have hFz : ∀ b, F b → wz.heap.size ≤ b := fun b h => by have := (hF1 b h).1; have := HR6.out; omega
                have hz9 : ∀ b, b < wz.heap.size → w9.heap[b]? = wz.heap[b]? := fun b hb => (hk9.block b (by omega) (fun h => by have := hFz b h; omega)).trans (hbz8.block b hb)
                have hr'l : r' < w6.heap.size := HRG6.out.lt
                refine ⟨D, R', ⟨G, S, HPD.out.kept (fun _ h => h) (fun _ h => h) (fun b hb _ => hz9 b hb) (fun b _ _ hb => hz9 b hb), fun b hb => by have h1 := HG.out b hb; have := HR6.out; exact ⟨h1.1, by omega, by omega⟩, HRG6.out.kept ((hk9.block r' (by omega) hFr).trans (hb68.block r' hr'l)), ?_, by have := HR6.out; have := HBEL.out.size; omega, ?_⟩, HF'.out⟩
                · have h1 := (HX7.out.below hb8)
                  refine h1.kept (fun b hb hl => ?_) hs9 (fun b hb hl => hk9.block b hl (fun h => by have h2 : w6.heap.size ≤ b := hb; have := (hF1 b h).2.2; omega))
                  have h2 : w6.heap.size ≤ b := hb
                  refine ⟨by have := HBEL.out.size; omega, fun h => ?_, by omega⟩
                  have := (HG.out b h).2.1
                  omega
                · have b8 := HBEL.out.trans (Joins.below_le hbz8 HBEL.out.size)
                  exact b8.trans (hk9.below b8.size (fun b hb => by have := hFz b hb; have := HBEL.out.size; omega))
              have HEND := Lib.hid hend
              have HF1 := Lib.hid hF1
              have HM1 := Lib.hid hM1
              have HLL8 := Lib.hid hll8
              have HOV : Hid (Over w8 w8 F) := Lib.hid (Over.refl _ _)
              clear hend hF1 hM1 hll8 hF hb8 hb68 hbz8 hw8 HCE7 HLL7 HX7 HB7 x0 x1
              go_wp2_with fail
              go_loopw [22, 23] (fun kv _ wr => ∃ kk : Nat, kv = .int .i64 kk ∧ kk ≤ L.length ∧ Hid (Over w8 wr F)) (fun kv _ _ => L.length - (intOf kv).toNat)
              case atStart => exact ⟨0, rfl, Nat.zero_le _, HOV⟩
              case round =>
                clear HOV
                obtain ⟨kk, rfl, hkk, hov⟩ := hrel
                obtain ⟨w9, hw9⟩ : ∃ w9 : World, w9 = wr := ⟨_, rfl⟩
                subst hw9
                by_cases hkl : kk < L.length
                · have i1 : (kk : Int) < (L.length : Int) := by omega
                  have i0 : (0 : Int) ≤ (kk : Int) := by omega
                  obtain ⟨lk, hlk⟩ : ∃ lk, L[kk]? = some lk := ⟨_, List.getElem?_eq_getElem hkl⟩
                  obtain ⟨bm, om, A', n', c', rfl, hMb, hbl, hcm, hrd⟩ := HLL8.out.spot hlk
                  obtain ⟨A0, c0, hv0, hn1, hn2, -, hcell⟩ := id hrd
                  injection hv0 with e1 e2 e3
                  subst e1 e2 e3
                  have hlnb : lk.length ≤ 9223372036854775807 := by unfold maxLen at hn2; omega
                  obtain ⟨ln, hln⟩ : ∃ ln, ln = lk.length := ⟨_, rfl⟩
                  rw [← hln] at hcm hrd hlnb
                  have HCM := Lib.hid hcm
                  have HMB := Lib.hid hMb
                  have HCL := Lib.hid hcell
                  have HLN := Lib.hid hln
                  clear hcm hMb hcell hln hlk hrd hn1 hn2
                  go_wp2_with fail
                  go_loopw [23] (fun jv wr => ∃ jj : Nat, jv = .int .i64 jj ∧ jj ≤ ln ∧ Hid (Over w8 wr F)) (fun jv _ => ln - (intOf jv).toNat)
                  case atStart => exact ⟨0, rfl, Nat.zero_le _, hov⟩
                  case round =>
                    clear hov
                    obtain ⟨jj, rfl, hjj, hov⟩ := hrel
                    have hcm9 : wr.cell? ⟨bm, om + kk, none⟩ = some (.slice A' ln c') := (hov.out.1.cell (p := ⟨bm, om + kk, none⟩) hbl (HM1.out bm HMB.out)).trans HCM.out
                    by_cases hjl' : jj < ln
                    · have i2 : (jj : Int) < (ln : Int) := by omega
                      have i3 : (0 : Int) ≤ (jj : Int) := by omega
                      obtain ⟨bk, ok, rfl, hFb, hbkl, hck⟩ := HCL.out (by intro e; have := HLN.out; rw [e] at this; simp at this; omega)
                      have hcj := hck jj _ (List.getElem?_eq_getElem (by have := HLN.out; omega))
                      obtain ⟨⟨u', hu'⟩, hfz⟩ := hov.out.spot hFb (HF1.out bk hFb).2.1 hcj
                      have hst := hov.out.set hFb (ok + jj) (.int .u8 85)
                      have HST := Lib.hid hst
                      clear hst hov hck hcj
                      go_wp2_with fail
                      exact ⟨⟨jj + 1, by go_num, hjl', HST⟩, by simp [intOf]; omega⟩
                    · have i2 : ¬ (jj : Int) < (ln : Int) := by omega
                      go_wp2_with fail
                      exact ⟨⟨kk + 1, by go_num, hkl, hov⟩, by simp [intOf]; omega⟩
                · have i1 : ¬ (kk : Int) < (L.length : Int) := by omega
                  have hlp := HEND.out w9 hov.out
                  have HLPE := Lib.hid hlp
                  clear hlp hov
                  go_wp2_with fail
                  go_meet
                  exact ⟨r', x', rfl, rfl, HLPE⟩
          · as_aux_lemma =>
              obtain ⟨NB, hNB, eNB⟩ := mod_of yn 20 20 rfl (by omega) (by omega)
              have hNb : NB ≤ 4611686018427387904 := by omega
              go_upto_region 39 with fail
              rw [eNB]
              clear eNB hNB
              have hzr := HRG.out.lt
              have cO := popen_soft HPD.out (HDUF.out.fit.fine (by omega)) (fun b hb => (HG.out b hb).2.1) HDUF.out.well.live f c NB hc1 HDUF.out.well.room (by rw [HDUF.out.len]; omega) hNb
              obtain ⟨vx, xs, hxz⟩ := id HXG.out
              have x1 : wz.cell? ⟨x, 1, none⟩ = some (.int .i64 (R.base : Int)) := hxz.c1
              clear hxz
              go_wp2_with fail
              refine cO.mono ?_
              rintro e w6 ⟨r', v12, rfl, hb6, hr6, hrg6, hll6⟩
              clear cO
              obtain ⟨L, hL⟩ : ∃ L, L = inRing D f c NB := ⟨_, rfl⟩
              obtain ⟨R', hR'⟩ : ∃ R', R' = opened D f c NB := ⟨_, rfl⟩
              rw [← hL] at hll6
              rw [← hR'] at hrg6
              obtain ⟨A12, c12, rfl⟩ : ∃ A cc, v12 = .slice A L.length cc := by
                obtain ⟨xs, he, A0, c0, hv, -⟩ := hll6
                exact ⟨A0, c0, hv⟩
              have hs6 := hb6.size
              obtain ⟨vx, xs, hxa⟩ := HXG.out.below hb6
              have x0 : w6.cell? ⟨x, 0, none⟩ = some vx := hxa.c0
              have cX := xopen_seen HDUF.out.fit.ok HDUF.out.well.room hc1 (by omega) hNb hxa.sectors
              rw [← hL, ← hR'] at cX
              have hL12 : L.length ≤ 12 := by rw [hL]; exact Nat.le_trans (Nat.le_trans (whole_length _ _) (run_length _ _ _)) (by omega)
              have hfo : R'.fine := by rw [hR']; exact opened_fine hc1 (by omega) HDUF.out.well.room hNb
              have HF' : Hid (Duf D R' f c (6 * (j + 1))) := Lib.hid ⟨HDUF.out.well, HDUF.out.fit.mono (by omega), HDUF.out.len, hfo, by rw [hR']; rfl, by rw [hR']; rfl⟩
              obtain ⟨Ax, cx, hvx⟩ := own_slice hxa.own
              subst hvx
              have HB6 := Lib.hid hb6
              have HRG6 := Lib.hid hrg6
              have HLL6 := Lib.hid hll6
              have HR6 := Lib.hid hr6
              clear hb6 hrg6 hll6 hxa hL hR' hfo hr6
              go_wp2_with fail
              refine cX.mono ?_
              rintro e w7 ⟨x', u7, rfl, hb7, hx7, hu7⟩
              clear cX
              have hll7 := HLL6.out.kept (w' := w7) (M' := fun b => r' < b ∧ ¬ U8B w6 b ∧ b < w6.heap.size) (N' := fun b => r' < b ∧ U8B w6 b ∧ b < w6.heap.size) (fun b h hl => ⟨h.1, h.2, hl⟩) (fun b h hl => ⟨h.1, h.2, hl⟩) hb7.size (fun b _ hl => hb7.block b hl)
              have cE := same_any L L _ _ w7 hll7.ll hu7 (by omega) (by omega)
              rw [decide_eq_true rfl] at cE
              obtain ⟨Au, cu, hvu⟩ := hu7.slice
              subst hvu
              have HB7 := Lib.hid hb7
              have HX7 := Lib.hid hx7
              have HLL7 := Lib.hid hll7
              have HCE7 := Lib.hid cE
              have hs7 := hb7.size
              clear hb7 hx7 hll7 hu7 cE
              go_wp2_with fail
              refine HCE7.out.mono ?_
              rintro e w8 ⟨rfl, ky, rfl⟩
              obtain ⟨w8, hw8⟩ : ∃ w8, w8 = w7.drewN ky := ⟨_, rfl⟩
              rw [← hw8]
              have hb8 : Below w7.heap.size w7 w8 := by rw [hw8]; exact ⟨rfl, rfl, rfl, Nat.le_refl _, fun _ _ => rfl⟩
              have hs8 := hb8.size
              have hb68 : Below w6.heap.size w6 w8 := HB7.out.trans (Joins.below_le hb8 hs7)
              have hbz8 : Below wz.heap.size wz w8 := HB6.out.trans (Joins.below_le hb68 hs6)
              have hll8 := HLL7.out.kept (w' := w8) (fun _ h _ => h) (fun _ h _ => h) hs8 (fun b _ hl => hb8.block b hl)
              obtain ⟨F, hF⟩ : ∃ F : Nat → Prop, F = fun b => r' < b ∧ U8B w6 b ∧ b < w6.heap.size := ⟨_, rfl⟩
              rw [← hF] at hll8
              have hF1 : ∀ b, F b → r' < b ∧ U8B w8 b ∧ b < w6.heap.size := fun b hb => by
                rw [hF] at hb
                exact ⟨hb.1, by obtain ⟨C, hC⟩ := hb.2.1; exact ⟨C, (hb68.block b hb.2.2).trans hC⟩, hb.2.2⟩
              have hM1 : ∀ b, (r' < b ∧ ¬ U8B w6 b ∧ b < w6.heap.size) → ¬ F b := fun b hb h => by rw [hF] at h; exact hb.2.1 h.2.1
              have hend : ∀ w9, Over w8 w9 F → LP w w9 q f c r' x' (6 * (j + 1)) := fun w9 ho => by
                have hk9 := ho.1
                have hs9 := hk9.size
                have hFr : ¬ F r' := fun h => absurd (hF1 r' h).1 (Nat.lt_irrefl _)
                have hFz : ∀ b, F b → wz.heap.size ≤ b := fun b h => by have := (hF1 b h).1; have := HR6.out; omega
                have hz9 : ∀ b, b < wz.heap.size → w9.heap[b]? = wz.heap[b]? := fun b hb => (hk9.block b (by omega) (fun h => by have := hFz b h; omega)).trans (hbz8.block b hb)
                have hr'l : r' < w6.heap.size := HRG6.out.lt
                refine ⟨D, R', ⟨G, S, HPD.out.kept (fun _ h => h) (fun _ h => h) (fun b hb _ => hz9 b hb) (fun b _ _ hb => hz9 b hb), fun b hb => by have h1 := HG.out b hb; have := HR6.out; exact ⟨h1.1, by omega, by omega⟩, HRG6.out.kept ((hk9.block r' (by omega) hFr).trans (hb68.block r' hr'l)), ?_, by have := HR6.out; have := HBEL.out.size; omega, ?_⟩, HF'.out⟩
                · have h1 := (HX7.out.below hb8)
                  refine h1.kept (fun b hb hl => ?_) hs9 (fun b hb hl => hk9.block b hl (fun h => by have h2 : w6.heap.size ≤ b := hb; have := (hF1 b h).2.2; omega))
                  have h2 : w6.heap.size ≤ b := hb
                  refine ⟨by have := HBEL.out.size; omega, fun h => ?_, by omega⟩
                  have := (HG.out b h).2.1
                  omega
                · have b8 := HBEL.out.trans (Joins.below_le hbz8 HBEL.out.size)
                  exact b8.trans (hk9.below b8.size (fun b hb => by have := hFz b hb; have := HBEL.out.size; omega))
              have HEND := Lib.hid hend
              have HF1 := Lib.hid hF1
              have HM1 := Lib.hid hM1
              have HLL8 := Lib.hid hll8
              have HOV : Hid (Over w8 w8 F) := Lib.hid (Over.refl _ _)
              clear hend hF1 hM1 hll8 hF hb8 hb68 hbz8 hw8 HCE7 HLL7 HX7 HB7 x0 x1
              go_wp2_with fail
              go_loopw [22, 23] (fun kv _ wr => ∃ kk : Nat, kv = .int .i64 kk ∧ kk ≤ L.length ∧ Hid (Over w8 wr F)) (fun kv _ _ => L.length - (intOf kv).toNat)
              case atStart => exact ⟨0, rfl, Nat.zero_le _, HOV⟩
              case round =>
                clear HOV
                obtain ⟨kk, rfl, hkk, hov⟩ := hrel
                obtain ⟨w9, hw9⟩ : ∃ w9 : World, w9 = wr := ⟨_, rfl⟩
                subst hw9
                by_cases hkl : kk < L.length
                · have i1 : (kk : Int) < (L.length : Int) := by omega
                  have i0 : (0 : Int) ≤ (kk : Int) := by omega
                  obtain ⟨lk, hlk⟩ : ∃ lk, L[kk]? = some lk := ⟨_, List.getElem?_eq_getElem hkl⟩
                  obtain ⟨bm, om, A', n', c', rfl, hMb, hbl, hcm, hrd⟩ := HLL8.out.spot hlk
                  obtain ⟨A0, c0, hv0, hn1, hn2, -, hcell⟩ := id hrd
                  injection hv0 with e1 e2 e3
                  subst e1 e2 e3
                  have hlnb : lk.length ≤ 9223372036854775807 := by unfold maxLen at hn2; omega
                  obtain ⟨ln, hln⟩ : ∃ ln, ln = lk.length := ⟨_, rfl⟩
                  rw [← hln] at hcm hrd hlnb
                  have HCM := Lib.hid hcm
                  have HMB := Lib.hid hMb
                  have HCL := Lib.hid hcell
                  have HLN := Lib.hid hln
                  clear hcm hMb hcell hln hlk hrd hn1 hn2
                  go_wp2_with fail
                  go_loopw [23] (fun jv wr => ∃ jj : Nat, jv = .int .i64 jj ∧ jj ≤ ln ∧ Hid (Over w8 wr F)) (fun jv _ => ln - (intOf jv).toNat)
                  case atStart => exact ⟨0, rfl, Nat.zero_le _, hov⟩
                  case round =>
                    clear hov
                    obtain ⟨jj, rfl, hjj, hov⟩ := hrel
                    have hcm9 : wr.cell? ⟨bm, om + kk, none⟩ = some (.slice A' ln c') := (hov.out.1.cell (p := ⟨bm, om + kk, none⟩) hbl (HM1.out bm HMB.out)).trans HCM.out
                    by_cases hjl' : jj < ln
                    · have i2 : (jj : Int) < (ln : Int) := by omega
                      have i3 : (0 : Int) ≤ (jj : Int) := by omega
                      obtain ⟨bk, ok, rfl, hFb, hbkl, hck⟩ := HCL.out (by intro e; have := HLN.out; rw [e] at this; simp at this; omega)
                      have hcj := hck jj _ (List.getElem?_eq_getElem (by have := HLN.out; omega))
                      obtain ⟨⟨u', hu'⟩, hfz⟩ := hov.out.spot hFb (HF1.out bk hFb).2.1 hcj
                      have hst := hov.out.set hFb (ok + jj) (.int .u8 85)
                      have HST := Lib.hid hst
                      clear hst hov hck hcj
                      go_wp2_with fail
                      exact ⟨⟨jj + 1, by go_num, hjl', HST⟩, by simp [intOf]; omega⟩
                    · have i2 : ¬ (jj : Int) < (ln : Int) := by omega
                      go_wp2_with fail
                      exact ⟨⟨kk + 1, by go_num, hkl, hov⟩, by simp [intOf]; omega⟩
                · have i1 : ¬ (kk : Int) < (L.length : Int) := by omega
                  have hlp := HEND.out w9 hov.out
                  have HLPE := Lib.hid hlp
                  clear hlp hov
                  go_wp2_with fail
                  go_meet
                  exact ⟨r', x', rfl, rfl, HLPE⟩
          · as_aux_lemma =>
              have hcz : ¬ c = 0 := by omega
              obtain ⟨at', hatl, eat⟩ := mod_of yn (c : Int) c rfl (by omega) (by omega)
              obtain ⟨nn, hnn, enn⟩ := mod_of yl 30 30 rfl (by omega) (by omega)
              have enn' : IntKind.i64.wrap ((IntKind.u64.wrap yl).tmod 30) = (nn : Int) := by have h := enn; unfold wrap64 at h; rw [IntKind.wrap_i64]; exact h
              obtain ⟨dl, hdl⟩ : ∃ dl, dl = yc.toNat % 3 * 501 / 2 := ⟨_, rfl⟩
              have hdl5 : dl ≤ 501 := by omega
              go_upto_region 53 with fail
              rw [eat]
              obtain ⟨wa, hmka, hza, hba⟩ := made_noughts dl (by omega) wz.drew
              have hW0 : Below wz.heap.size wz (wz.alloc (.cells #[.int .i64 0, .bool false, .slice none 0 0] 49)).drew := ((Below.refl _ _).alloc (Nat.le_refl _) _).drew
              have hW0s : (wz.alloc (.cells #[.int .i64 0, .bool false, .slice none 0 0] 49)).drew.heap.size = wz.heap.size + 1 := by simp
              obtain ⟨wb, hmkb, hzb, hbb⟩ := made_noughts dl (by omega) (wz.alloc (.cells #[.int .i64 0, .bool false, .slice none 0 0] 49)).drew
              rw [hW0s] at hmkb hzb
              obtain ⟨p1, p2, p3, p4⟩ := HCE.out _ (HBEL.out.trans (Joins.below_le hW0 HBEL.out.size))
              have edl : wrap64 ((wrap64 ((wrap64 (yc.toNat : Int)).tmod 3 * 501)).tdiv 2) = (dl : Int) := by rw [data_len _ yc.toNat_lt, hdl]
              have hbzb : Below wz.heap.size wz wb := hW0.trans (Joins.below_le hbb hW0.size)
              obtain ⟨q1, q2, q3, q4⟩ := HCE.out _ (HBEL.out.trans (Joins.below_le hbzb HBEL.out.size))
              have hpb : (wz.alloc (.cells #[.int .i64 0, .bool false, .slice none 0 0] 49)).drew.heap[wz.heap.size]? = some (.cells #[.int .i64 0, .bool false, .slice none 0 0] 49 (0, 0)) := heap_alloc_new wz _
              have hpw : wb.heap[wz.heap.size]? = some (.cells #[.int .i64 0, .bool false, .slice none 0 0] 49 (0, 0)) := (hbb.block _ (Array.getElem?_eq_some_iff.1 hpb).1).trans hpb
              have g0 : wb.cell? ⟨wz.heap.size, 0, none⟩ = some (.int .i64 0) := (row7 hpw).1 0
              have g1 : wb.cell? ⟨wz.heap.size, 1, none⟩ = some (.bool false) := (row7 hpw).1 1
              have g2 : wb.cell? ⟨wz.heap.size, 2, none⟩ = some (.slice none 0 0) := (row7 hpw).1 2
              have y0 : wb.frozen? ⟨wz.heap.size, 0, none⟩ = false := (row7 hpw).2 0
              have y1 : wb.frozen? ⟨wz.heap.size, 1, none⟩ = false := (row7 hpw).2 1
              have y2 : wb.frozen? ⟨wz.heap.size, 2, none⟩ = false := (row7 hpw).2 2
              have mk1 : (Instr.makeSlice 39 (.int .i64 (wrap64 ((wrap64 ((wrap64 (yc.toNat : Int)).tmod 3 * 501)).tdiv 2))) (.int .i64 (wrap64 ((wrap64 ((wrap64 (yc.toNat : Int)).tmod 3 * 501)).tdiv 2)))).run Try.prog (wz.alloc (.cells #[.int .i64 0, .bool false, .slice none 0 0] 49)).drew = .ok (.slice (some ⟨wz.heap.size + 1, 0, none⟩) dl dl) wb := by rw [edl]; exact hmkb
              have mk2 : (Instr.makeSlice 39 (.int .i64 (IntKind.i64.wrap ((IntKind.i64.wrap ((IntKind.i64.wrap (yc.toNat : Int)).tmod 3 * 501)).tdiv 2))) (.int .i64 (IntKind.i64.wrap ((IntKind.i64.wrap ((IntKind.i64.wrap (yc.toNat : Int)).tmod 3 * 501)).tdiv 2)))).run Try.prog (wz.alloc (.cells #[.int .i64 0, .bool false, .slice none 0 0] 49)).drew = .ok (.slice (some ⟨wz.heap.size + 1, 0, none⟩) dl dl) wb := by rw [wrap_i, wrap_i, wrap_i]; exact mk1
              have mk3 : (Instr.makeSlice 39 (.int .i64 (IntKind.i64.wrap ((IntKind.i64.wrap ((IntKind.i64.wrap (yc.toNat : Int)).tmod 3 * 501)).tdiv 2))) (.int .i64 (IntKind.i64.wrap ((IntKind.i64.wrap ((IntKind.i64.wrap (yc.toNat : Int)).tmod 3 * 501)).tdiv 2)))).run Try.prog wz.drew = .ok (.slice (some ⟨wz.drew.heap.size, 0, none⟩) dl dl) wa := by rw [wrap_i, wrap_i, wrap_i, edl]; exact hmka
              have mk4 : (Instr.makeSlice 39 (.int .i64 (wrap64 ((wrap64 ((wrap64 (yc.toNat : Int)).tmod 3 * 501)).tdiv 2))) (.int .i64 (wrap64 ((wrap64 ((wrap64 (yc.toNat : Int)).tmod 3 * 501)).tdiv 2)))).run Try.prog wz.drew = .ok (.slice (some ⟨wz.drew.heap.size, 0, none⟩) dl dl) wa := by rw [edl]; exact hmka
              have hbza : Below wz.heap.size wz wa := (Below.refl _ _).drew.trans hba
              have hbwa : Below w.heap.size w wa := HBEL.out.trans (Joins.below_le hbza HBEL.out.size)
              obtain ⟨v1, v2, v3, v4⟩ := HCE.out _ hbwa
              obtain ⟨s1, s2, s3, s4⟩ := HCE.out _ (hbwa.alloc hbwa.size (.cells #[.int .i64 0, .bool false, .slice none 0 0] 49))
              obtain ⟨bL, hbL⟩ : ∃ bL : Bool, bL = ((yc.toNat : Int) % 2 == 1) := ⟨_, rfl⟩
              have hend1 : DataSt wz (((wb.setCell ⟨wz.heap.size, 0, none⟩ (.int .i64 (nn : Int))).setCell ⟨wz.heap.size, 1, none⟩ (.bool ((yc.toNat : Int) % 2 == 1))).setCell ⟨wz.heap.size, 2, none⟩ (.slice (some ⟨wz.heap.size + 1, 0, none⟩) dl dl)) wz.heap.size nn bL dl := by
                rw [← hbL]
                exact data_set hbzb hpw hzb (by omega)
              have hend2 : DataSt wz (wa.alloc (.cells #[.int .i64 (nn : Int), .bool ((yc.toNat : Int) % 2 == 1), .slice (some ⟨wz.heap.size, 0, none⟩) dl dl] 49)) wa.heap.size nn bL dl := by
                rw [← hbL]
                exact data_new hbza hza
              have HE1 := Lib.hid hend1
              have HE2 := Lib.hid hend2
              have HDL := Lib.hid hdl
              clear eat edl hmka hmkb hza hba hzb hbb hW0 hbzb hbza hbwa hpb hpw hend1 hend2 hbL hdl
              go_cut [24, 25, 119] (fun s24 s25 _ wx => s24 = .int .i64 (at' : Int) ∧ ∃ pb : Nat, s25 = .pointer (some ⟨pb, 0, none⟩) ∧ Hid (DataSt wz wx pb nn bL dl))
              case first =>
                as_aux_lemma =>
                  go_region
                  · go_wp2_with fail
                    go_meet
                    exact ⟨rfl, _, rfl, by first | exact HE1 | exact HE2⟩
                  · go_wp2_with fail
                    go_meet
                    exact ⟨rfl, _, rfl, by first | exact HE2 | exact HE1⟩
              case rest =>
                as_aux_lemma =>
                  obtain ⟨rfl, pb, rfl, hdat⟩ := hcut
                  obtain ⟨wx, hwx⟩ : ∃ wx : World, wx = wc := ⟨_, rfl⟩
                  subst hwx
                  obtain ⟨Ad, cd, hpx, hrdx, hbx, hpz⟩ := hdat.out
                  have d0 : wx.cell? ⟨pb, 0, none⟩ = some (.int .i64 (nn : Int)) := (row7 hpx).1 0
                  have d1 : wx.cell? ⟨pb, 1, none⟩ = some (.bool bL) := (row7 hpx).1 1
                  have d2 : wx.cell? ⟨pb, 2, none⟩ = some (.slice Ad dl cd) := (row7 hpx).1 2
                  obtain ⟨sc, hsc⟩ : ∃ sc, sc = Pc.sec ⟨nn, bL, List.replicate dl 0⟩ := ⟨_, rfl⟩
                  have hsl : sc.length = 512 := by rw [hsc]; exact Pc.sec_length _ (by show (List.replicate dl (0 : UInt8)).length ≤ 501; rw [List.length_replicate]; exact hdl5)
                  have cS := xsector_any ⟨nn, bL, List.replicate dl 0⟩ (.slice Ad dl cd) wx (by show (List.replicate dl (0 : UInt8)).length ≤ 501; rw [List.length_replicate]; exact hdl5) hrdx
                  rw [← hsc] at cS
                  simp only [pcv] at cS
                  have HBX := Lib.hid hbx
                  have HSL := Lib.hid hsl
                  clear hpx hrdx hbx hdat hsl hsc
                  go_wp2_with fail
                  refine cS.mono ?_
                  rintro e w5 ⟨g6, rfl, hg6, hc6, hb6⟩
                  have hb5 : Below wz.heap.size wz w5 := HBX.out.trans (Joins.below_le hb6 HBX.out.size)
                  obtain ⟨v1, v2, v3, v4⟩ := HCE.out w5 (HBEL.out.trans (Joins.below_le hb5 HBEL.out.size))
                  have hgz : wz.heap.size ≤ g6 := Nat.le_trans HBX.out.size hg6
                  have HB5 := Lib.hid hb5
                  have HC6 := Lib.hid hc6
                  have HGZ := Lib.hid hgz
                  clear hb5 hb6 hc6 hg6 cS hgz d0 d1 d2 HBX hpz
                  go_upto_if 279 with fail
                  go_cut [26] (fun s26 wy => s26 = .slice (some ⟨g6, 0, none⟩) 512 512 ∧ Hid (∃ sb : List UInt8, sb.length = 512 ∧ wy.heap[g6]? = some (.cells (BS sb).toArray 5 (0, 0)) ∧ Below wz.heap.size wz wy))
                  case first =>
                    as_aux_lemma =>
                      by_cases h5 : (yc.toNat : Int) % 5 = 0
                      · have e5 : ((yc.toNat : Int) % 5 == 0) = true := by simp [h5]
                        have hu5 : w5.cell? ⟨g6, 511, none⟩ = some ((BS sc).toArray[511]'(by rw [List.size_toArray, BS_length, HSL.out]; omega)) := ((row7 HC6.out).1 511).trans (Array.getElem?_eq_getElem _)
                        obtain ⟨u5, hu6⟩ : ∃ u, w5.cell? ⟨g6, 511, none⟩ = some u := ⟨_, hu5⟩
                        have hz5 : w5.frozen? ⟨g6, 511, none⟩ = false := (row7 HC6.out).2 511
                        have hst : ∃ sb : List UInt8, sb.length = 512 ∧ (w5.setCell ⟨g6, 511, none⟩ (.int .u8 (yc.toNat : Int))).heap[g6]? = some (.cells (BS sb).toArray 5 (0, 0)) ∧ Below wz.heap.size wz (w5.setCell ⟨g6, 511, none⟩ (.int .u8 (yc.toNat : Int))) := by
                          refine ⟨sc.set 511 yc, by rw [List.length_set]; exact HSL.out, ?_, HB5.out.setCell HGZ.out _⟩
                          rw [BS_set, Joins.block_setCell HC6.out _]
                          simp
                        have HST := Lib.hid hst
                        clear hst hu5
                        go_wp2_with fail
                        go_meet
                        exact ⟨rfl, HST⟩
                      · have e5 : ((yc.toNat : Int) % 5 == 0) = false := by simp [h5]
                        go_wp2_with fail
                        go_meet
                        exact ⟨rfl, Lib.hid ⟨sc, HSL.out, HC6.out, HB5.out⟩⟩
                  case rest =>
                    as_aux_lemma =>
                      obtain ⟨rfl, hsb⟩ := hcut
                      obtain ⟨wy, hwy⟩ : ∃ wy : World, wy = wc := ⟨_, rfl⟩
                      subst hwy
                      obtain ⟨sb, hsbl, hcy, hby⟩ := hsb.out
                      have hgy : g6 < wy.heap.size := (Array.getElem?_eq_some_iff.1 hcy).1
                      have hrN : ∀ (W : World) (N : Nat → Prop), W.heap[g6]? = some (.cells (BS sb).toArray 5 (0, 0)) → N g6 → RdN W N (.slice (some ⟨g6, 0, none⟩) 512 512) sb := fun W N hW hN => by
                        refine ⟨some ⟨g6, 0, none⟩, 512, by rw [hsbl], by omega, by unfold maxLen; omega, fun e => by simp at e, fun _ => ⟨g6, 0, rfl, hN, (Array.getElem?_eq_some_iff.1 hW).1, fun i y hi => ?_⟩⟩
                        rw [Nat.zero_add, (row7 hW).1 i]
                        show (BS sb).toArray[i]? = _
                        rw [List.getElem?_toArray]
                        unfold BS
                        rw [List.getElem?_map, hi]
                        rfl
                      have hrd : Rd wy wy.heap.size (.slice (some ⟨g6, 0, none⟩) 512 512) sb := (hrN wy (fun _ => True) hcy trivial).rd
                      have hpdy : PD wy G S q D := HPD.out.kept (fun _ h => h) (fun _ h => h) (fun b hb _ => hby.block b hb) (fun b _ _ hb => hby.block b hb)
                      have hrgy : RgAt wy r q R := HRG.out.kept (hby.block r HRG.out.lt)
                      have hGy : ∀ b, G b → w.heap.size ≤ b ∧ b < wy.heap.size ∧ b ≠ r := fun b hb => ⟨(HG.out b hb).1, by have := (HG.out b hb).2.1; have := hby.size; omega, (HG.out b hb).2.2⟩
                      have hxgy := HXG.out.below hby
                      have hbely := HBEL.out.trans (Joins.below_le hby HBEL.out.size)
                      have cW := pWrite_any G S q D ((f : Int) + (at' : Int)) _ sb wy hpdy hrd (HDUF.out.fit.fine (by omega))
                      obtain ⟨D', ew, hw', hs', hl'⟩ := HDUF.out.well.write (i := at') hatl hsbl
                      rw [Int.natCast_add] at ew
                      have hfw := HDUF.out.fit.write ((f : Int) + (at' : Int)) sb
                      rw [ew] at cW hfw
                      have HDUF9 : Hid (Duf D' R f c (6 * (j + 1))) := Lib.hid ⟨hw', hfw.mono (by omega), hl'.trans HDUF.out.len, HDUF.out.fine, HDUF.out.first, HDUF.out.count⟩
                      have HS9 := Lib.hid hs'
                      have HGY := Lib.hid hGy
                      have HXGY := Lib.hid hxgy
                      have HBELY := Lib.hid hbely
                      have HRGY := Lib.hid hrgy
                      have HCY := Lib.hid hcy
                      have HRN := Lib.hid hrN
                      have hgzz : wz.heap.size ≤ g6 := HGZ.out
                      clear hrN hrd hpdy hrgy hGy hxgy hbely ew hw' hfw hs' hl' hcy hby hsb hsbl
                      go_wp2_with fail
                      refine cW.mono ?_
                      rintro e w8 ⟨rfl, hk8, hpd8⟩
                      clear cW
                      obtain ⟨d1, d2, d3⟩ := duo_call (R := R) HGY.out HXGY.out HRW.out HBELY.out (hk8.mono (fun _ _ h => .inl h)) (hk8.size) HRGY.out.lt
                      have hrg8 : RgAt w8 r q R := HRGY.out.kept (hk8.block r HRGY.out.lt (fun h => (HGY.out r h.1).2.2 rfl))
                      have hgG : ¬ G g6 := fun h => by have := (HG.out g6 h).2.1; omega
                      have hc8 : w8.heap[g6]? = some (.cells (BS sb).toArray 5 (0, 0)) := (hk8.block g6 hgy (fun h => hgG h.1)).trans HCY.out
                      obtain ⟨vx, xs, hxa⟩ := d2
                      have hrlt := HRG.out.lt
                      have hzs := HBEL.out.size
                      have hrd8 := HRN.out w8 (fun b => (w.heap.size ≤ b ∧ ¬ More G wy w8 b ∧ b ≠ r) ∧ U8B w8 b) hc8 ⟨⟨by omega, fun h => h.elim hgG (fun h => by have := h.1; omega), by omega⟩, ⟨_, hc8⟩⟩
                      have hsl : (seen D f c).length = c := seen_length HDUF.out.well.room
                      obtain ⟨gx, capx, hform, hgx1, hgx2⟩ := hxa.own.form (by omega)
                      subst hform
                      have x0 : w8.cell? ⟨x, 0, none⟩ = some (.slice (some ⟨gx, 0, none⟩) (seen D f c).length capx) := hxa.c0
                      rw [hsl] at x0
                      have hxl : at' < xs.length := by rw [hxa.els.1, hsl]; exact hatl
                      obtain ⟨ux, hux⟩ : ∃ u, w8.cell? ⟨gx, at', none⟩ = some u := ⟨_, (hxa.own.cellAt at' (by omega)).trans (List.getElem?_eq_getElem hxl)⟩
                      have hzx : w8.frozen? ⟨gx, at', none⟩ = false := hxa.own.frozenAt at'
                      have hput := hxa.put (i := at') (by omega) rfl hrd8
                      rw [← HS9.out] at hput
                      have hinv := hxa.inv gx rfl
                      obtain ⟨curx, hcurx⟩ := row_type hxa.own (p := gx) rfl
                      have hpd9 : PD (w8.setCell ⟨gx, at', none⟩ (.slice (some ⟨g6, 0, none⟩) 512 512)) (More G wy w8) (More S wy w8) q D' := hpd8.kept (fun _ h => h) (fun _ h => h) (fun b hb hm => set_other (fun e => hinv.2.1 (e ▸ hm.1))) (fun b _ hi hb => set_other (fun e => not_sec hcurx (by decide) (e ▸ hi)))
                      have hrg9 : RgAt (w8.setCell ⟨gx, at', none⟩ (.slice (some ⟨g6, 0, none⟩) 512 512)) r q R := hrg8.kept (set_other (fun e => hinv.2.2 e.symm))
                      have hbel9 : Below w.heap.size w (w8.setCell ⟨gx, at', none⟩ (.slice (some ⟨g6, 0, none⟩) 512 512)) := d3.setCell hinv.1 _
                      have hG9 : ∀ b, More G wy w8 b → w.heap.size ≤ b ∧ b < (w8.setCell ⟨gx, at', none⟩ (.slice (some ⟨g6, 0, none⟩) 512 512)).heap.size ∧ b ≠ r := fun b hb => by rw [World.size_setCell]; exact d1 b hb
                      obtain ⟨G', hG'⟩ : ∃ G', G' = More G wy w8 := ⟨_, rfl⟩
                      obtain ⟨S', hS'⟩ : ∃ S', S' = More S wy w8 := ⟨_, rfl⟩
                      rw [← hG'] at hpd9 hG9 hput
                      rw [← hS'] at hpd9
                      obtain ⟨w9z, hw9z⟩ : ∃ w9z, w9z = w8.setCell ⟨gx, at', none⟩ (.slice (some ⟨g6, 0, none⟩) 512 512) := ⟨_, rfl⟩
                      rw [← hw9z] at hpd9 hrg9 hbel9 hG9 hput
                      have hW9 := Lib.hid hw9z
                      have HPD9 := Lib.hid hpd9
                      have HRG9 := Lib.hid hrg9
                      have HBEL9 := Lib.hid hbel9
                      have HG9 := Lib.hid hG9
                      have HXG9 : Hid (XG w9z (fun b => w.heap.size ≤ b ∧ ¬ G' b ∧ b ≠ r) x (seen D' f c) R) := Lib.hid ⟨_, _, hput⟩
                      clear hpd9 hrg9 hbel9 hG9 hput hw9z hG' hS' hinv hcurx hxa hxl hsl hrd8 hc8 hgG hrg8 d1 d3 hpd8 hk8 hgy HCY HRN HRGY HBELY HXGY HGY HS9 HGZ HB5 HC6 HSL HDL hrlt hzs hgzz
                      go_upto_region 60 with fail
                      rw [← hW9.out]
                      clear x0 hux hzx hW9
                      as_aux_lemma =>
                        have hRb : R.base ≤ 4611686018427387904 := by have h1 := HDUF9.out.fine.low; have h2 := HDUF9.out.fine.up; have h3 := HDUF9.out.fine.most; omega
                        have hzr := HRG9.out.lt
                        have cO := popen_soft HPD9.out (HDUF9.out.fit.fine (by omega)) (fun b hb => (HG9.out b hb).2.1) HDUF9.out.well.live f c R.base hc1 HDUF9.out.well.room (by rw [HDUF9.out.len]; omega) hRb
                        obtain ⟨vx, xs, hxz⟩ := id HXG9.out
                        have x1 : w9z.cell? ⟨x, 1, none⟩ = some (.int .i64 (R.base : Int)) := hxz.c1
                        clear hxz
                        go_wp2_with fail
                        refine cO.mono ?_
                        rintro e w6 ⟨r', v12, rfl, hb6, hr6, hrg6, hll6⟩
                        clear cO
                        obtain ⟨L, hL⟩ : ∃ L, L = inRing D' f c R.base := ⟨_, rfl⟩
                        obtain ⟨R', hR'⟩ : ∃ R', R' = opened D' f c R.base := ⟨_, rfl⟩
                        rw [← hL] at hll6
                        rw [← hR'] at hrg6
                        obtain ⟨A12, c12, rfl⟩ : ∃ A cc, v12 = .slice A L.length cc := by
                          obtain ⟨xs, he, A0, c0, hv, -⟩ := hll6
                          exact ⟨A0, c0, hv⟩
                        have hs6 := hb6.size
                        obtain ⟨vx, xs, hxa⟩ := HXG9.out.below hb6
                        have x0 : w6.cell? ⟨x, 0, none⟩ = some vx := hxa.c0
                        have cX := xopen_seen HDUF9.out.fit.ok HDUF9.out.well.room hc1 (by omega) hRb hxa.sectors
                        rw [← hL, ← hR'] at cX
                        have hL12 : L.length ≤ 12 := by rw [hL]; exact Nat.le_trans (Nat.le_trans (whole_length _ _) (run_length _ _ _)) (by omega)
                        have hfo : R'.fine := by rw [hR']; exact opened_fine hc1 (by omega) HDUF9.out.well.room hRb
                        have HF' : Hid (Duf D' R' f c (6 * (j + 1))) := Lib.hid ⟨HDUF9.out.well, HDUF9.out.fit.mono (by omega), HDUF9.out.len, hfo, by rw [hR']; rfl, by rw [hR']; rfl⟩
                        obtain ⟨Ax, cx, hvx⟩ := own_slice hxa.own
                        subst hvx
                        have HB6 := Lib.hid hb6
                        have HRG6 := Lib.hid hrg6
                        have HLL6 := Lib.hid hll6
                        have HR6 := Lib.hid hr6
                        clear hb6 hrg6 hll6 hxa hL hR' hfo hr6
                        go_wp2_with fail
                        refine cX.mono ?_
                        rintro e w7 ⟨x', u7, rfl, hb7, hx7, hu7⟩
                        clear cX
                        have hll7 := HLL6.out.kept (w' := w7) (M' := fun b => r' < b ∧ ¬ U8B w6 b ∧ b < w6.heap.size) (N' := fun b => r' < b ∧ U8B w6 b ∧ b < w6.heap.size) (fun b h hl => ⟨h.1, h.2, hl⟩) (fun b h hl => ⟨h.1, h.2, hl⟩) hb7.size (fun b _ hl => hb7.block b hl)
                        have cE := same_any L L _ _ w7 hll7.ll hu7 (by omega) (by omega)
                        rw [decide_eq_true rfl] at cE
                        obtain ⟨Au, cu, hvu⟩ := hu7.slice
                        subst hvu
                        have HB7 := Lib.hid hb7
                        have HX7 := Lib.hid hx7
                        have HLL7 := Lib.hid hll7
                        have HCE7 := Lib.hid cE
                        have hs7 := hb7.size
                        clear hb7 hx7 hll7 hu7 cE
                        go_wp2_with fail
                        refine HCE7.out.mono ?_
                        rintro e w8 ⟨rfl, ky, rfl⟩
                        obtain ⟨w8, hw8⟩ : ∃ w8, w8 = w7.drewN ky := ⟨_, rfl⟩
                        rw [← hw8]
                        have hb8 : Below w7.heap.size w7 w8 := by rw [hw8]; exact ⟨rfl, rfl, rfl, Nat.le_refl _, fun _ _ => rfl⟩
                        have hs8 := hb8.size
                        have hb68 : Below w6.heap.size w6 w8 := HB7.out.trans (Joins.below_le hb8 hs7)
                        have hbz8 : Below w9z.heap.size w9z w8 := HB6.out.trans (Joins.below_le hb68 hs6)
                        have hll8 := HLL7.out.kept (w' := w8) (fun _ h _ => h) (fun _ h _ => h) hs8 (fun b _ hl => hb8.block b hl)
                        obtain ⟨F, hF⟩ : ∃ F : Nat → Prop, F = fun b => r' < b ∧ U8B w6 b ∧ b < w6.heap.size := ⟨_, rfl⟩
                        rw [← hF] at hll8
                        have hF1 : ∀ b, F b → r' < b ∧ U8B w8 b ∧ b < w6.heap.size := fun b hb => by
                          rw [hF] at hb
                          exact ⟨hb.1, by obtain ⟨C, hC⟩ := hb.2.1; exact ⟨C, (hb68.block b hb.2.2).trans hC⟩, hb.2.2⟩
                        have hM1 : ∀ b, (r' < b ∧ ¬ U8B w6 b ∧ b < w6.heap.size) → ¬ F b := fun b hb h => by rw [hF] at h; exact hb.2.1 h.2.1
                        have hend : ∀ w9, Over w8 w9 F → LP w w9 q f c r' x' (6 * (j + 1)) := fun w9 ho => by
                          have hk9 := ho.1
                          have hs9 := hk9.size
                          have hFr : ¬ F r' := fun h => absurd (hF1 r' h).1 (Nat.lt_irrefl _)
                          have hFz : ∀ b, F b → w9z.heap.size ≤ b := fun b h => by have := (hF1 b h).1; have := HR6.out; omega
                          have hz9 : ∀ b, b < w9z.heap.size → w9.heap[b]? = w9z.heap[b]? := fun b hb => (hk9.block b (by omega) (fun h => by have := hFz b h; omega)).trans (hbz8.block b hb)
                          have hr'l : r' < w6.heap.size := HRG6.out.lt
                          refine ⟨D', R', ⟨G', S', HPD9.out.kept (fun _ h => h) (fun _ h => h) (fun b hb _ => hz9 b hb) (fun b _ _ hb => hz9 b hb), fun b hb => by have h1 := HG9.out b hb; have := HR6.out; exact ⟨h1.1, by omega, by omega⟩, HRG6.out.kept ((hk9.block r' (by omega) hFr).trans (hb68.block r' hr'l)), ?_, by have := HR6.out; have := HBEL9.out.size; omega, ?_⟩, HF'.out⟩
                          · have h1 := (HX7.out.below hb8)
                            refine h1.kept (fun b hb hl => ?_) hs9 (fun b hb hl => hk9.block b hl (fun h => by have h2 : w6.heap.size ≤ b := hb; have := (hF1 b h).2.2; omega))
                            have h2 : w6.heap.size ≤ b := hb
                            refine ⟨by have := HBEL9.out.size; omega, fun h => ?_, by omega⟩
                            have := (HG9.out b h).2.1
                            omega
                          · have b8 := HBEL9.out.trans (Joins.below_le hbz8 HBEL9.out.size)
                            exact b8.trans (hk9.below b8.size (fun b hb => by have := hFz b hb; have := HBEL9.out.size; omega))
                        have hlp := hend w8 (Over.refl _ _)
                        have HLPE := Lib.hid hlp
                        clear hlp hend hF1 hM1 hll8 hF hb8 hb68 hbz8 hw8 HCE7 HLL7 HX7 HB7 x0 x1
                        go_wp2_with fail
                        go_meet
                        exact ⟨r', x', rfl, rfl, HLPE⟩
          · as_aux_lemma =>
              have b0' : ((kd : Int) == 0) = false := by simp; omega
              have b1' : ((kd : Int) == 1) = false := by simp; omega
              have b2' : ((kd : Int) == 2) = false := by simp; omega
              have b3' : ((kd : Int) == 3) = false := by simp; omega
              have b4' : ((kd : Int) == 4) = false := by simp; omega
              have b5' : ((kd : Int) == 5) = false := by simp; omega
              have hlp5 : LP w wz q f c r x (6 * (j + 1)) := ⟨D, R, ⟨G, S, HPD.out, HG.out, HRG.out, HXG.out, HRW.out, HBEL.out⟩, HDUF.out.well, HDUF.out.fit.mono (by omega), HDUF.out.len, HDUF.out.fine, HDUF.out.first, HDUF.out.count⟩
              have HLP5 := Lib.hid hlp5
              clear hlp5
              go_wp2_with fail
              go_meet
              exact ⟨r, x, rfl, rfl, HLP5⟩
        case rest =>
          as_aux_lemma =>
            obtain ⟨r', x', rfl, rfl, hlp'⟩ := hcut
            obtain ⟨w5, hw5⟩ : ∃ w5 : World, w5 = wc := ⟨_, rfl⟩
            subst hw5
            clear HK16 HPD HG HRG HXG HRW HBEL HDUF k0 k1 k2 k3
            obtain ⟨D', R', ⟨G', S', hpd, hG, hrg, hxg, hrw, hbel⟩, hduf⟩ := hlp'.out
            have hsl : (seen D' f c).length = R'.count := by rw [hduf.count]; exact seen_length hduf.well.room
            have cT := told_any hrg hxg hduf.fine hsl
            have HLP' := hlp'
            have HSL := Lib.hid hsl
            clear hpd hG hrg hxg hrw hbel hduf hlp' hsl
            go_wp2_with fail
            refine cT.mono ?_
            rintro e w6 ⟨rfl, kx, rfl⟩
            clear cT
            obtain ⟨w6, hw6⟩ : ∃ w6, w6 = w5.drewN kx := ⟨_, rfl⟩
            have hlp6 : LP w w6 q f c r' x' (6 * (j + 1)) := by
              obtain ⟨D2, R2, ⟨G2, S2, p1, p2, p3, p4, p5, p6⟩, p7⟩ := HLP'.out
              have hb6 : Below w5.heap.size w5 w6 := by rw [hw6]; exact ⟨rfl, rfl, rfl, Nat.le_refl _, fun _ _ => rfl⟩
              exact ⟨D2, R2, ⟨G2, S2, p1.kept (fun _ h => h) (fun _ h => h) (fun b hb _ => hb6.block b hb) (fun b _ _ hb => hb6.block b hb), fun b hb => ⟨(p2 b hb).1, by have := (p2 b hb).2.1; have := hb6.size; omega, (p2 b hb).2.2⟩, p3.kept (hb6.block r' p3.lt), p4.below hb6, p5, p6.trans (Joins.below_le hb6 p6.size)⟩, p7⟩
            rw [← hw6]
            clear HLP' hw6 HSL
            obtain ⟨D', R', ⟨G', S', hpd, hG, hrg, hxg, hrw, hbel⟩, hduf⟩ := hlp6
            have cS := sectors_any hpd hduf.fit.ok hduf.well.live f c hduf.well.room (by rw [hduf.len]; omega)
            have hlp6 : LP w w6 q f c r' x' (6 * (j + 1)) := ⟨D', R', ⟨G', S', hpd, hG, hrg, hxg, hrw, hbel⟩, hduf⟩
            have HLP6 := Lib.hid hlp6
            have HXG6 := Lib.hid hxg
            have hlen : (seen D' f c).length = c := seen_length hduf.well.room
            have HLEN := Lib.hid hlen
            clear hpd hG hrg hxg hrw hbel hduf hlp6 hlen
            go_wp2_with fail
            refine cS.mono ?_
            rintro e w7 ⟨v7, rfl, hll7, hb7⟩
            clear cS
            obtain ⟨A7, c7, hv7⟩ := hll7.slice
            rw [HLEN.out] at hv7
            subst hv7
            obtain ⟨vx, xs, hxa⟩ := HXG6.out.below hb7
            have hsx := hxa.sectors
            obtain ⟨Ax, cx, hvx⟩ := own_slice hxa.own
            have x0 : w7.cell? ⟨x', 0, none⟩ = some vx := hxa.c0
            rw [HLEN.out] at hvx
            subst hvx
            have cE := same_any (seen D' f c) (seen D' f c) _ _ w7 hll7 hsx (by rw [HLEN.out]; omega) (by rw [HLEN.out]; omega)
            rw [decide_eq_true rfl] at cE
            have hlp7 : LP w w7 q f c r' x' (6 * (j + 1)) := by
              obtain ⟨D2, R2, ⟨G2, S2, p1, p2, p3, p4, p5, p6⟩, p7⟩ := HLP6.out
              exact ⟨D2, R2, ⟨G2, S2, p1.kept (fun _ h => h) (fun _ h => h) (fun b hb _ => hb7.block b hb) (fun b _ _ hb => hb7.block b hb), fun b hb => ⟨(p2 b hb).1, by have := (p2 b hb).2.1; have := hb7.size; omega, (p2 b hb).2.2⟩, p3.kept (hb7.block r' p3.lt), p4.below hb7, p5, p6.trans (Joins.below_le hb7 p6.size)⟩, p7⟩
            have HLP7 := Lib.hid hlp7
            have HCE2 := Lib.hid cE
            clear HLP6 HXG6 hll7 hb7 hxa hsx hlp7 cE
            go_wp2_with fail
            refine HCE2.out.mono ?_
            rintro e w8 ⟨rfl, ky, rfl⟩
            obtain ⟨w8, hw8⟩ : ∃ w8, w8 = w7.drewN ky := ⟨_, rfl⟩
            have hlp8 : LP w w8 q f c r' x' (6 * (j + 1)) := by
              obtain ⟨D2, R2, ⟨G2, S2, p1, p2, p3, p4, p5, p6⟩, p7⟩ := HLP7.out
              have hb6 : Below w7.heap.size w7 w8 := by rw [hw8]; exact ⟨rfl, rfl, rfl, Nat.le_refl _, fun _ _ => rfl⟩
              exact ⟨D2, R2, ⟨G2, S2, p1.kept (fun _ h => h) (fun _ h => h) (fun b hb _ => hb6.block b hb) (fun b _ _ hb => hb6.block b hb), fun b hb => ⟨(p2 b hb).1, by have := (p2 b hb).2.1; have := hb6.size; omega, (p2 b hb).2.2⟩, p3.kept (hb6.block r' p3.lt), p4.below hb6, p5, p6.trans (Joins.below_le hb6 p6.size)⟩, p7⟩
            rw [← hw8]
            have HLP8 := Lib.hid hlp8
            clear hlp8 hw8 HLP7 HCE2
            go_wp2_with fail
            exact ⟨⟨r', x', j + 1, rfl, rfl, by go_num, by omega, by omega, HLP8⟩, by simp [intOf]; omega⟩
      · have HBEL := Lib.hid hbel
        clear hpd hG hrg hxg hrw hbel hduf hlp
        by_cases hjl : j < l.length
        · have a1 : (j : Int) < (l.length : Int) := by omega
          have a2 : ¬ (j : Int) < 40 := by omega
          have cA := awake_any wz
          clear hgo
          go_wp2_with fail
          refine cA.mono ?_
          rintro e w9 ⟨rfl, hb9⟩
          have hbf : Below w.heap.size w w9 := HBEL.out.trans (Joins.below_le hb9 HBEL.out.size)
          have HBF := Lib.hid hbf
          clear hbf hb9 cA
          go_wp2_with fail
          go_ret
          exact ⟨rfl, HBF.out⟩
        · have a1 : ¬ (j : Int) < (l.length : Int) := by omega
          have cA := awake_any wz
          clear hgo
          go_wp2_with fail
          refine cA.mono ?_
          rintro e w9 ⟨rfl, hb9⟩
          have hbf : Below w.heap.size w w9 := HBEL.out.trans (Joins.below_le hb9 HBEL.out.size)
          have HBF := Lib.hid hbf
          clear hbf hb9 cA
          go_wp2_with fail
          go_ret
          exact ⟨rfl, HBF.out⟩
end Go.Proofs.Ytlokehekkllbeaa
