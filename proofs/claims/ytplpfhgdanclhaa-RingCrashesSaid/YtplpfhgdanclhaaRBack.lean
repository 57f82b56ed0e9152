/-
  RingBack, walked: without a crash all records are told that were appended since, as they were, in order. No condition but that its arguments lie in memory.
-/
import Derived.Test.YtplpfhgdanclhaaRAwakeW
import Derived.Test.YtplpfhgdanclhaaRSame
namespace Go.Proofs.Ytplpfhgdanclhaa
open Go.RowKit

/-- the slice reads as those numbers -/
def NumAt (w : World) (B : Nat) (v : Value) (zs : List Int) : Prop := ∃ (A : Option Addr) (c : Nat), v = .slice A zs.length c ∧ (∀ n ∈ zs, I64 n) ∧ (zs ≠ [] → ∃ b o, A = some ⟨b, o, none⟩ ∧ b < B ∧ ∀ (i : Nat) (z : Int), zs[i]? = some z → w.cell? ⟨b, o + i, none⟩ = some (.int .i64 z))

/-- uint(n) % m -/
theorem mod_of (n mi : Int) (m : Nat) (hmi : mi = (m : Int)) (hm : 0 < m) (hm2 : m < 4294967296) : ∃ N : Nat, N < m ∧ wrap64 ((IntKind.u64.wrap n).tmod mi) = (N : Int) := by
  subst hmi
  have h1 : IntKind.u64.wrap n = n % 18446744073709551616 := IntKind.wrap_u64 n
  have h0 : 0 ≤ n % 18446744073709551616 := by omega
  have h2 : (n % 18446744073709551616).tmod (m : Int) = n % 18446744073709551616 % (m : Int) := Int.tmod_eq_emod_of_nonneg h0
  have h3 := Int.emod_nonneg (n % 18446744073709551616) (show (m : Int) ≠ 0 by omega)
  have h4 := Int.emod_lt_of_pos (n % 18446744073709551616) (show (0 : Int) < (m : Int) by omega)
  rw [h1, h2]
  refine ⟨(n % 18446744073709551616 % (m : Int)).toNat, by omega, ?_⟩
  unfold wrap64
  omega
theorem wrap_small (z : Int) (h0 : 0 ≤ z) (h1 : z < 9223372036854775808) : wrap64 z = z := by unfold wrap64; omega
theorem Calm.fine {D : DS} {R : RG} {ps : List Pc} {s : Nat} (h : Calm D R ps s) (hr : R.first + R.count ≤ 65536) (hm : R.last ≤ 4611686018427387904) : R.fine := by
  have h1 := h.last
  have h2 := h.top
  have h3 := h.rung.len
  exact ⟨h.rung.pos, hr, by omega, by omega, by omega, by omega⟩

theorem pieces_c' (n : Nat) (w : World) (hn : n ≤ 9223372036854775807) : Calls Try.prog 24 #[.int .i64 (n : Int)] w fun e w' => e = .returned (.int .i64 ((pieces n : Nat) : Int)) ∧ w = w' := ppieces_any n w hn
/-- what RingBack's loop keeps -/
def BInv (w wr : World) (r q C Bs j : Nat) (v12 : Value) : Prop :=
  ∃ (G S : Nat → Prop) (D : DS) (R : RG) (ps : List Pc) (xs : List Value) (n12 : Nat), Calm D R ps 0 ∧ R.first = 1 ∧ R.count = C ∧ R.base = Bs ∧ ps.length ≤ C ∧ Fit D (4 * j) ∧ D.lasts.length = 15 ∧ PD wr G S q D ∧ (∀ x, G x → w.heap.size ≤ x ∧ x < wr.heap.size ∧ x ≠ r) ∧ RgAt wr r q R ∧ w.heap.size ≤ r ∧
    wr.ownsRow w.heap.size 39 1 v12 n12 xs ∧ Els wr (fun x => w.heap.size ≤ x ∧ ¬ G x ∧ U8B wr x) xs (whole [] ps) ∧ (∀ x, v12.ownBlock = some x → ¬ G x) ∧ ps.length ≤ 4 * j ∧ Below w.heap.size w wr

set_option maxHeartbeats 8000000 in
set_option maxRecDepth 100000 in
theorem back_walk (nc nb : Int) (zs : List Int) (a : Value) (w : World) (ha : NumAt w w.heap.size a zs) (hz : zs.length ≤ 9223372036854775807) :
    Calls Try.prog 6 #[.int .i64 nc, .int .i64 nb, a] w fun e w' => e = .returned (.bool true) ∧ Below w.heap.size w w' := by
  obtain ⟨A, ca, rfl, hI, hcell⟩ := ha
  by_cases hlong : 30 < zs.length
  · have h1 : (30 : Int) < (zs.length : Int) := by omega
    clear hlong
    go_enter Try.func6, Try.ntmps6
    go_wp2_with fail
    refine (awake_any w).mono ?_
    rintro e w1 ⟨rfl, hb1⟩
    go_wp2_with fail
    go_ret
    exact ⟨rfl, hb1⟩
  · have h1 : ¬ (30 : Int) < (zs.length : Int) := by omega
    have hl30 : zs.length ≤ 30 := by omega
    clear hlong hz
    have HC := Lib.hid hcell
    have HI := Lib.hid hI
    clear hcell hI
    go_enter Try.func6, Try.ntmps6
    go_wp2_with fail
    refine (awake_any w).mono ?_
    rintro e w1 ⟨rfl, hb1⟩
    have hs1 := hb1.size
    go_upto_region 5 with fail
    obtain ⟨N0, hN0, e0⟩ := mod_of nc 14 14 rfl (by omega) (by omega)
    obtain ⟨Bs, hBs, e1⟩ := mod_of nb 1000 1000 rfl (by omega) (by omega)
    rw [e0, e1]
    obtain ⟨C, hC⟩ : ∃ C, C = 1 + N0 := ⟨_, rfl⟩
    have e2 : wrap64 (1 + (N0 : Int)) = (C : Int) := by rw [wrap_small _ (by omega) (by omega)]; omega
    rw [e2]
    have hC1 : 1 ≤ C := by omega
    have hC2 : C ≤ 14 := by omega
    clear e0 e1 e2 hC hN0
    obtain ⟨o0, i0, k0⟩ := new_blank 15 1 C Bs (by omega) hC1 (by omega)
    have f0 : Fit (DS.new 15) 0 := Fit.new (by omega)
    have hll : (DS.new 15).lasts.length = 15 := List.length_replicate
    have hdd : (DS.new 15).dead = false := rfl
    obtain ⟨D0, hD0⟩ : ∃ D0, D0 = DS.new 15 := ⟨_, rfl⟩
    have cN := pNew_yes 15 w1 (by omega) (by omega)
    rw [← hD0] at o0 i0 k0 f0 hll hdd cN
    have K0 := Lib.hid k0
    have F0 := Lib.hid f0
    have O0 := Lib.hid o0
    have I0 := Lib.hid i0
    clear hD0 k0 f0 o0 i0
    go_wp2_with fail
    refine cN.mono ?_
    rintro e w2 ⟨hb2, q, rfl, hd2⟩
    clear cN
    have hs2 := hb2.size
    have cO := popen_any hd2 (F0.out.fine (by omega)) (fun b hb => hb.2) hdd 1 C Bs hC1 (by rw [hll]; omega) (by rw [hll]; omega) (by omega)
    rw [O0.out, I0.out] at cO
    go_wp2_with fail
    refine cO.mono ?_
    rintro e w3 ⟨r, v3, rfl, hb3, hr3, hrg3, hll3⟩
    clear cO hll3
    have hs3 := hb3.size
    have hrl := hrg3.lt
    have hd3 : PD w3 (Made w1 w2) Nil q D0 := hd2.kept (fun _ h => h) (fun _ h => h) (fun b hb _ => hb3.block b hb) (fun b _ _ hb => hb3.block b hb)
    have hbel3 : Below w.heap.size w w3 := (hb1.trans (Joins.below_le hb2 hs1)).trans (Joins.below_le hb3 (by omega))
    have hinv0 : BInv w w3 r q C Bs 0 (.slice none 0 0) :=
      ⟨Made w1 w2, Nil, D0, ⟨1, C, Bs, Bs, Bs⟩, [], [], 0, K0.out, rfl, rfl, rfl, Nat.zero_le _, F0.out, hll, hd3, fun x hx => ⟨by have := hx.1; omega, by have := hx.2; omega, by have := hx.2; omega⟩, hrg3, by omega, World.ownsRow_nil _ _ _ _, Els.nil _ _, (fun x hx => by cases hx), Nat.zero_le _, hbel3⟩
    have HI0 := Lib.hid hinv0
    clear hinv0 hd2 hd3 hrg3 hb1 hb2 hb3 hbel3 hr3 hs1 hs2 hs3 hrl K0 F0 O0 I0 hll hdd
    go_wp2_with fail
    obtain ⟨ib, hib, hzb0, hzb1, hzb2⟩ := info_parts info_BB
    go_loopw [12, 13] (fun v12 i wr => ∃ j : Nat, i = .int .i64 j ∧ j ≤ zs.length ∧ Hid (BInv w wr r q C Bs j v12)) (fun _ i _ => zs.length - (intOf i).toNat)
    case atStart => exact ⟨0, rfl, Nat.zero_le _, HI0⟩
    case round =>
      obtain ⟨j, rfl, hj, hinv⟩ := hrel
      clear HI0
      obtain ⟨wz, hwz⟩ : ∃ wz : World, wz = wr := ⟨_, rfl⟩
      subst hwz
      obtain ⟨G, S, D, R, ps, xs, n12, hcalm, hRf, hRc, hRb, hpl, hfit, hlen, hpd, hG, hrg, hrw, hown, hels, hoG, hp4, hbel⟩ := hinv.out
      have hsw := hbel.size
      have hRl := hcalm.last
      have hfine : R.fine := hcalm.fine (by omega) (by omega)
      obtain ⟨A12, c12, rfl⟩ := own_slice hown
      have hn12 : n12 = (whole [] ps).length := by have := hown.1; have := hels.1; omega
      subst hn12
      have hwl := whole_length ps []
      by_cases hjl : j < zs.length
      · have a1 : (j : Int) < (zs.length : Int) := by omega
        have a0 : (0 : Int) ≤ (j : Int) := by omega
        have hzj : zs[j]? = some zs[j] := List.getElem?_eq_getElem hjl
        obtain ⟨z, hz⟩ : ∃ z, z = zs[j] := ⟨_, rfl⟩
        rw [← hz] at hzj
        obtain ⟨b, o, rfl, hbw, hcl⟩ := HC.out (by intro e; rw [e] at hjl; simp at hjl)
        have k0 : wz.cell? ⟨b, o + j, none⟩ = some (.int .i64 z) := (hbel.cell (p := ⟨b, o + j, none⟩) hbw).trans (hcl j z hzj)
        obtain ⟨m, hm, em⟩ := mod_of z 2000 2000 rfl (by omega) (by omega)
        obtain ⟨w4, hmk0, hz4, hb4⟩ := made_noughts m (by omega) wz
        have hmk : (Instr.makeSlice 39 (.int .i64 (wrap64 ((IntKind.u64.wrap z).tmod 2000))) (.int .i64 (wrap64 ((IntKind.u64.wrap z).tmod 2000)))).run Try.prog wz = .ok (.slice (some ⟨wz.heap.size, 0, none⟩) m m) w4 := by rw [em]; exact hmk0
        obtain ⟨g, hg⟩ : ∃ g, g = wz.heap.size := ⟨_, rfl⟩
        rw [← hg] at hz4 hmk
        have HGE := Lib.hid hg
        have HZ4 := Lib.hid hz4
        have HB4 := Lib.hid hb4
        have HINV := hinv
        have HCALM := Lib.hid hcalm
        have HFIT := Lib.hid hfit
        have HPD := Lib.hid hpd
        have HG := Lib.hid hG
        have HRG := Lib.hid hrg
        have HOWN := Lib.hid hown
        have HELS := Lib.hid hels
        have HOG := Lib.hid hoG
        have HBEL := Lib.hid hbel
        have HRF := Lib.hid hRf
        have HRC := Lib.hid hRc
        have HRB := Lib.hid hRb
        have HRL := Lib.hid hRl
        have HFINE := Lib.hid hfine
        have hpm : pieces m ≤ 4 := by unfold pieces; split <;> omega
        clear hcalm hfit hpd hG hrg hown hels hoG hbel hRf hRc hRb hRl hfine hz hzj hcl hmk0 em hz4 hb4 hg hinv
        go_wp2_with fail
        go_loopw [15] (fun kv wr => ∃ (kk : Nat) (rec : List UInt8), kv = .int .i64 kk ∧ kk ≤ m ∧ rec.length = m ∧ Hid (wr.ownsRow g 5 1 (.slice (some ⟨g, 0, none⟩) m m) m (BS rec)) ∧ Hid (w4.grownBy wr (some g))) (fun kv _ => m - (intOf kv).toNat)
        case atStart => exact ⟨0, List.replicate m 0, rfl, Nat.zero_le _, List.length_replicate, HZ4, Lib.hid ⟨rfl, rfl, rfl, Nat.le_refl _, fun _ _ _ => rfl⟩⟩
        case round =>
          obtain ⟨kk, rec, rfl, hkk, hrl, hro, hgr⟩ := hrel
          by_cases hkl : kk < m
          · have i1 : (kk : Int) < (m : Int) := by omega
            have i0 : (0 : Int) ≤ (kk : Int) := by omega
            obtain ⟨u, hu⟩ : ∃ u, wr.cell? ⟨g, kk, none⟩ = some u := by
              rw [hro.out.cellAt kk (by omega)]
              exact ⟨_, List.getElem?_eq_getElem (by rw [BS_length]; omega)⟩
            have hz : wr.frozen? ⟨g, kk, none⟩ = false := hro.out.frozenAt kk
            obtain ⟨c, hc⟩ : ∃ c : UInt8, ((j : Int) + 7 * (kk : Int)) % 256 = (c.toNat : Int) := ⟨UInt8.ofNat (j + 7 * kk), by rw [UInt8.toNat_ofNat']; omega⟩
            have hst := hro.out.stored kk (.int .u8 (((j : Int) + 7 * (kk : Int)) % 256))
            have hst1 := hst.1
            rw [hc, ← BS_set, ← hc] at hst1
            have hgn : w4.grownBy (wr.setCell ⟨g, kk, none⟩ (.int .u8 (((j : Int) + 7 * (kk : Int)) % 256))) (some g) := ⟨hst.2.os.trans hgr.out.os, hst.2.tape.trans hgr.out.tape, hst.2.output.trans hgr.out.output, Nat.le_trans hgr.out.size hst.2.size, fun q hq hqg => (hst.2.block q (by have := hgr.out.size; omega) hqg).trans (hgr.out.block q hq hqg)⟩
            have HST := Lib.hid hst1
            have HGN := Lib.hid hgn
            have hrl2 : (rec.set kk c).length = m := by rw [List.length_set]; exact hrl
            have j30 : (j : Int) < 30 := by omega
            have k2000 : (kk : Int) < 2000 := by omega
            have HC2 := Lib.hid hc
            clear hst hst1 hgn hro hgr hc
            go_wp2_with fail
            exact ⟨⟨kk + 1, _, by go_num, hkl, hrl2, HST, HGN⟩, by simp [intOf]; omega⟩
          · have i1 : ¬ (kk : Int) < (m : Int) := by omega
            have hb45 : Below wz.heap.size wz wr := HB4.out.grown hgr.out HB4.out.size (fun k hk => by have h1 : g = k := Option.some.inj hk; have := HGE.out; omega)
            have hsr := hb45.size
            have hrg5 : RgAt wr r q R := HRG.out.kept (hb45.block r HRG.out.lt)
            have hpd5 : PD wr G S q D := HPD.out.kept (fun _ h => h) (fun _ h => h) (fun b hb _ => hb45.block b hb) (fun b _ _ hb => hb45.block b hb)
            have cR := proom_any hrg5 HFINE.out
            rw [HCALM.out.room, HRC.out] at cR
            obtain ⟨rm, hrm⟩ : ∃ rm, rm = C - ps.length := ⟨_, rfl⟩
            rw [← hrm] at cR
            have HRM := Lib.hid hrm
            have HB45 := Lib.hid hb45
            have HRG5 := Lib.hid hrg5
            have HPD5 := Lib.hid hpd5
            have HRO := hro
            clear hb45 hrg5 hpd5 hro hgr hrm
            go_wp2_with fail
            refine cR.mono ?_
            rintro e w6 ⟨rfl, kx, rfl⟩
            clear cR
            obtain ⟨w6, hw6⟩ : ∃ w6, w6 = wr.drewN kx := ⟨_, rfl⟩
            rw [← hw6]
            have hb6 : Below wr.heap.size wr w6 := by rw [hw6]; exact ⟨rfl, rfl, rfl, Nat.le_refl _, fun _ _ => rfl⟩
            have hs6 := hb6.size
            have hb6z : Below wz.heap.size wz w6 := HB45.out.trans (Joins.below_le hb6 HB45.out.size)
            have hrg6 : RgAt w6 r q R := HRG5.out.kept (hb6.block r HRG5.out.lt)
            have hpd6 : PD w6 G S q D := HPD5.out.kept (fun _ h => h) (fun _ h => h) (fun b hb _ => hb6.block b hb) (fun b _ _ hb => hb6.block b hb)
            have hro6 : w6.ownsRow g 5 1 (.slice (some ⟨g, 0, none⟩) m m) m (BS rec) := row_same HRO.out fun x hx => hb6.block x (HRO.out.lt x hx).2
            have hrd6 : RdN w6 (fun x => ¬ G x) (.slice (some ⟨g, 0, none⟩) m m) rec := RdN.own hro6 (fun x hx hm => by have h1 : g = x := Option.some.inj hx; have := HGE.out; have := HG.out x hm; omega)
            have cA := pappend_any hrg6 HFINE.out hpd6 HFIT.out (fun x hx => by have := HG.out x hx; exact ⟨by omega, this.2.2⟩) rec _ hrd6 (by omega) (by rw [hrl]; omega)
            have HB6 := Lib.hid hb6z
            have HRO6 := Lib.hid hro6
            have hgl6 : g < w6.heap.size := (hro6.lt g rfl).2
            have cP := fun W => pieces_c' m W (by omega)
            obtain ⟨n, hn⟩ : ∃ n, n = pieces m := ⟨_, rfl⟩
            have HN := Lib.hid hn
            have hn4 : n ≤ 4 := by omega
            have hn1 : 1 ≤ n := by rw [hn]; exact pieces_pos _
            rw [← hn] at cP
            have HRL2 := Lib.hid hrl
            clear hw6 hb6 hb6z hrg6 hpd6 hro6 hrd6 hn HRG5 HPD5 HB45 HRO
            by_cases hfit : ps.length + n ≤ C
            · obtain ⟨D', e', kc⟩ := HCALM.out.append rec (by rw [hrl, HRC.out]; have := HN.out; omega) (by rw [hrl]; have := HRL.out; have := HRB.out; have := HN.out; omega)
              have f' := fit_append (R := R) HFIT.out rec
              have l' := append_len D R rec
              rw [e'] at cA f' l'
              rw [hrl, ← HN.out] at e' kc f' cA
              obtain ⟨R2, hR2⟩ : ∃ R2 : RG, R2 = { R with last := R.last + n, top := R.last + n } := ⟨_, rfl⟩
              rw [← hR2] at cA kc
              have r2f : R2.first = 1 := by rw [hR2]; exact HRF.out
              have r2c : R2.count = C := by rw [hR2]; exact HRC.out
              have r2b : R2.base = Bs := by rw [hR2]; exact HRB.out
              have hcl : (cut (R.last + 1) rec).length = n := by rw [cut_length, hrl, HN.out]
              have hpsl : (ps ++ cut (R.last + 1) rec).length = ps.length + n := by rw [List.length_append, hcl]
              have r2l := kc.last
              have hfine2 : R2.fine := kc.fine (by omega) (by omega)
              have hwm := whole_more HCALM.out.ended (R.last + 1) rec
              obtain ⟨qs, hqs⟩ : ∃ qs, qs = ps ++ cut (R.last + 1) rec := ⟨_, rfl⟩
              rw [← hqs] at kc hpsl r2l hwm
              have KC := Lib.hid kc
              have F2 := Lib.hid f'
              have L2 := Lib.hid l'
              have HFINE2 := Lib.hid hfine2
              have HWM := Lib.hid hwm
              have HPSL := Lib.hid hpsl
              have R2F := Lib.hid r2f
              have R2C := Lib.hid r2c
              have R2B := Lib.hid r2b
              clear kc f' l' hfine2 hwm hqs hcl hR2 e' hpsl r2f r2c r2b r2l hrl
              go_wp2_with fail
              refine cA.mono ?_
              rintro e w7 ⟨rfl, hk7, hd7, hrg7⟩
              clear cA
              have hs7 := hk7.size
              have cR2 := proom_any hrg7 HFINE2.out
              rw [KC.out.room, HPSL.out, R2C.out] at cR2
              have hle : (n : Int) ≤ (rm : Int) := by have := HRM.out; omega
              obtain ⟨rm2, hrm2⟩ : ∃ rm2, rm2 = C - (ps.length + n) := ⟨_, rfl⟩
              rw [← hrm2] at cR2
              have hneq : (rm2 : Int) = wrap64 ((rm : Int) - (n : Int)) := by
                have := HRM.out
                rw [wrap_small _ (by omega) (by omega)]
                omega
              have HK7 := Lib.hid hk7
              have HD7 := Lib.hid hd7
              have HRG7 := Lib.hid hrg7
              have HB6' := HB6
              clear hk7 hd7 hrg7 hrm2
              go_wp2_with fail
              refine (cP w7).mono ?_
              rintro e w8 ⟨rfl, rfl⟩
              go_wp2_with fail
              refine cR2.mono ?_
              rintro e w8 ⟨rfl, ky, rfl⟩
              clear cR2
              obtain ⟨w8, hw8⟩ : ∃ w8, w8 = w7.drewN ky := ⟨_, rfl⟩
              rw [← hw8]
              have hb8 : Below w7.heap.size w7 w8 := by rw [hw8]; exact ⟨rfl, rfl, rfl, Nat.le_refl _, fun _ _ => rfl⟩
              have hs8 := hb8.size
              have hs6z := HB6.out.size
              -- what was there before the record, and is there still
              have hold : ∀ x, x < wz.heap.size → ¬ G x → x ≠ r → w8.heap[x]? = wz.heap[x]? := fun x hx hn hr => (hb8.block x (by omega)).trans ((HK7.out.block x (by omega) (fun h => h.elim (fun h => hn h.1) hr)).trans (HB6.out.block x hx))
              have hxr : ∀ x, (Value.slice A12 (whole [] ps).length c12).ownBlock = some x → x ≠ r := fun x hx => row_not HRG.out HOWN.out (by decide) x hx
              have hown8 : w8.ownsRow w.heap.size 39 1 (.slice A12 (whole [] ps).length c12) (whole [] ps).length xs := row_same HOWN.out fun x hx => hold x (HOWN.out.lt x hx).2 (HOG.out x hx) (hxr x hx)
              have hgG : ¬ More G w6 w7 g := fun h => h.elim (fun h => by have := HG.out g h; have := HGE.out; omega) (fun h => by omega)
              have hgr : g ≠ r := row_not (HRG7.out : w7.heap[r]? = _) (row_same (w' := w7) HRO6.out fun x hx => by
                have h1 : g = x := Option.some.inj hx
                subst h1
                exact HK7.out.block g hgl6 (fun h => h.elim (fun h => by have := HG.out g h.1; have := HGE.out; omega) (fun h => by have := HRG.out.lt; have := HGE.out; omega))) (by decide) g rfl
              have hro8 : w8.ownsRow g 5 1 (.slice (some ⟨g, 0, none⟩) m m) m (BS rec) := row_same HRO6.out fun x hx => by
                have h1 : g = x := Option.some.inj hx
                subst h1
                exact (hb8.block g (by omega)).trans (HK7.out.block g hgl6 (fun h => h.elim (fun h => by have := HG.out g h.1; have := HGE.out; omega) hgr))
              have hels8 : Els w8 (fun x => w.heap.size ≤ x ∧ ¬ More G w6 w7 x ∧ U8B w8 x) xs (whole [] ps) := HELS.out.kept (fun x hx hl => ⟨hx.1, fun h => h.elim hx.2.1 (fun h => by omega), by
                obtain ⟨Cx, hCx⟩ := hx.2.2
                refine ⟨Cx, (hold x hl hx.2.1 ?_).trans hCx⟩
                rintro rfl
                have h3 := hCx.symm.trans HRG.out
                injection h3 with h3
                injection h3 with _ h3
                exact absurd h3 (by decide)⟩) (by omega) (fun x hx hl => hold x hl hx.2.1 (by
                rintro rfl
                obtain ⟨Cx, hCx⟩ := hx.2.2
                have h3 := hCx.symm.trans HRG.out
                injection h3 with h3
                injection h3 with _ h3
                exact absurd h3 (by decide)))
              have hrd8 : RdN w8 (fun x => w.heap.size ≤ x ∧ ¬ More G w6 w7 x ∧ U8B w8 x) (.slice (some ⟨g, 0, none⟩) m m) rec := RdN.own hro8 (fun x hx => by
                have h1 : g = x := Option.some.inj hx
                subst h1
                exact ⟨by have := HGE.out; have := HBEL.out.size; omega, hgG, row_type hro8 rfl⟩)
              have hpd8 : PD w8 (More G w6 w7) (More S w6 w7) q D' := HD7.out.kept (fun _ h => h) (fun _ h => h) (fun b hb _ => hb8.block b hb) (fun b _ _ hb => hb8.block b hb)
              have hrg8 : RgAt w8 r q R2 := HRG7.out.kept (hb8.block r HRG7.out.lt)
              have hB8 : Below w.heap.size w w8 := by
                have t1 := HBEL.out.trans (Joins.below_le HB6.out HBEL.out.size)
                have t2 := t1.trans (HK7.out.below t1.size (fun x hx => hx.elim (fun h => (HG.out x h.1).1) (fun h => by rw [h]; exact hrw)))
                exact t2.trans (Joins.below_le hb8 t2.size)
              have hrow9 : RowAt (w8.alloc (.cells #[Value.slice (some ⟨g, 0, none⟩) m m] 39)) (.slice (some ⟨w8.heap.size, 0, none⟩) 1 1) 1 1 [Value.slice (some ⟨g, 0, none⟩) m m] :=
                RowAt.of_own (World.ownsRow_lit (base := 0) (e := 39) (size := 1) w8 #[Value.slice (some ⟨g, 0, none⟩) m m] 1 (Nat.zero_le _) (by unfold maxLen; omega) rfl)
              have hown9 := hown8.alloc (.cells #[Value.slice (some ⟨g, 0, none⟩) m m] 39)
              have hsz9 : (w8.alloc (.cells #[Value.slice (some ⟨g, 0, none⟩) m m] 39)).heap.size = w8.heap.size + 1 := by simp
              have hbase9 : w.heap.size ≤ (w8.alloc (.cells #[Value.slice (some ⟨g, 0, none⟩) m m] 39)).heap.size := by have := hB8.size; omega
              have HOWN9 := Lib.hid hown9
              have HROW9 := Lib.hid hrow9
              have HELS8 := Lib.hid hels8
              have HRD8 := Lib.hid hrd8
              have HPD8 := Lib.hid hpd8
              have HRG8 := Lib.hid hrg8
              have HB8 := Lib.hid hB8
              have HSZ9 := Lib.hid hsz9
              have HOG8 : Hid (∀ x, (Value.slice A12 (whole [] ps).length c12).ownBlock = some x → ¬ More G w6 w7 x) := Lib.hid (fun x hx h => h.elim (HOG.out x hx) (fun h => by have := (HOWN.out.lt x hx).2; omega))
              clear hown9 hrow9 hels8 hrd8 hpd8 hrg8 hB8 hsz9 hown8 hro8 hold hxr hb8 hw8 hgr hgG
              go_wp2_with (at_builtin; go_must (refine wpList_appAt rfl (.tmp 126) (.tmp 128) 28 rfl w.heap.size 39 ib _ 1 24 Try.underlying28 hib hzb0 hzb1 hzb2 rfl (by decide) _ _ (whole [] ps).length xs 1 [Value.slice (some ⟨g, 0, none⟩) m m] rfl rfl HOWN9.out HROW9.out (fun u hu => by simp at hu; rw [hu]; rfl) (by unfold maxLen; omega) (by omega) hbase9 ?_; intro A10 c10 w10 ho10 hg10 hat10))
              have hs10 := hg10.size
              have hs9 := HSZ9.out
              have hb9 : Below w8.heap.size w8 (w8.alloc (.cells #[Value.slice (some ⟨g, 0, none⟩) m m] 39)) := (Below.refl _ _).alloc (Nat.le_refl _) _
              have hne10 : ∀ {T : TypeId} {Cx : Array Value} {x : Nat}, w8.heap[x]? = some (.cells Cx T (0, 0)) → T ≠ 39 → x < w8.heap.size ∧ w10.heap[x]? = w8.heap[x]? := fun {T Cx x} hc hT => by
                have hl8 : x < w8.heap.size := (Array.getElem?_eq_some_iff.1 hc).1
                refine ⟨hl8, (hg10.block x (by omega) (fun e => ?_)).trans (hb9.block x hl8)⟩
                obtain ⟨cur, hcur⟩ := row_type HOWN9.out e.symm
                rw [hb9.block x hl8, hc] at hcur
                injection hcur with hcur
                injection hcur with _ hcur
                exact hT hcur
              have hkG : ∀ x, x < w8.heap.size → (More G w6 w7 x ∨ IsSec w8 x) → w10.heap[x]? = w8.heap[x]? := fun x hx h => by
                refine (hg10.block x (by omega) (fun e => ?_)).trans (hb9.block x hx)
                rcases h with h | ⟨cs, hcs⟩
                · exact HOG8.out x e.symm h
                · obtain ⟨cur, hcur⟩ := row_type HOWN9.out e.symm
                  rw [hb9.block x hx, hcs] at hcur
                  injection hcur with hcur
                  injection hcur with _ hcur
                  exact absurd hcur (by decide)
              have hnx : BInv w w10 r q C Bs (j + 1) (.slice A10 ((whole [] ps).length + 1) c10) := by
                refine ⟨More G w6 w7, More S w6 w7, D', R2, qs, xs ++ [Value.slice (some ⟨g, 0, none⟩) m m], (whole [] ps).length + 1, KC.out, R2F.out, R2C.out, R2B.out, by rw [HPSL.out]; exact hfit, F2.out.mono (by omega), L2.out.trans hlen, HPD8.out.kept (fun _ h => h) (fun _ h => h) (fun x hx hm => hkG x hx (.inl hm.1)) (fun x _ hi hx => hkG x hx (.inr hi)), fun x hx => ?_, HRG8.out.kept (hne10 HRG8.out (by decide)).2, hrw, ho10, ?_, fun x hx hm => ?_, by rw [HPSL.out]; omega, ?_⟩
                · rcases hx with h | h
                  · have := HG.out x h; exact ⟨this.1, by omega, this.2.2⟩
                  · have := HBEL.out.size
                    have := HRG.out.lt
                    exact ⟨by omega, by omega, by omega⟩
                · rw [HWM.out]
                  refine ((HELS8.out.kept (fun x hx hl => ⟨hx.1, hx.2.1, ?_⟩) (by omega) (fun x hx hl => ?_)).snoc (HRD8.out.kept (fun x hx hl => ⟨hx.1, hx.2.1, ?_⟩) (by omega) (fun x hx hl => ?_)))
                  · obtain ⟨Cx, hCx⟩ := hx.2.2; exact (hne10 hCx (by decide)).2
                  · obtain ⟨Cx, hCx⟩ := hx.2.2; exact ⟨Cx, (hne10 hCx (by decide)).2.trans hCx⟩
                  · obtain ⟨Cx, hCx⟩ := hx.2.2; exact (hne10 hCx (by decide)).2
                  · obtain ⟨Cx, hCx⟩ := hx.2.2; exact ⟨Cx, (hne10 hCx (by decide)).2.trans hCx⟩
                · have hat' : (Value.slice A10 ((whole [] ps).length + 1) c10).ownBlock = (Value.slice A12 (whole [] ps).length c12).ownBlock ∨ (Value.slice A10 ((whole [] ps).length + 1) c10).ownBlock = some (w8.alloc (.cells #[Value.slice (some ⟨g, 0, none⟩) m m] 39)).heap.size := hat10
                  rcases hat' with h | h
                  · exact HOG8.out x (h.symm.trans hx) hm
                  · rw [h] at hx
                    have h1 := Option.some.inj hx
                    rcases hm with hm | hm
                    · have := HG.out x hm; omega
                    · have := hm.2; omega
                · have t := HB8.out.trans (Joins.below_le hb9 HB8.out.size)
                  exact t.grown hg10 hbase9 (fun x hx => (HOWN9.out.lt x hx).1)
              have HNX := Lib.hid hnx
              exact ⟨⟨j + 1, by go_num, hjl, HNX⟩, by simp [intOf]; omega⟩
            · obtain ⟨x, hx, hx2⟩ : ∃ x : Int, refuseOf D.dead R (pieces rec.length) = x ∧ (x = 3 ∨ x = 40) := by
                rw [HRL2.out, ← HN.out]
                by_cases hcn : C < n
                · refine ⟨40, ?_, .inr rfl⟩
                  unfold refuseOf
                  rw [HCALM.out.rung.live, if_neg Bool.false_ne_true, if_pos (by rw [HRC.out]; exact hcn)]
                · refine ⟨3, ?_, .inl rfl⟩
                  unfold refuseOf
                  rw [HCALM.out.rung.live, if_neg Bool.false_ne_true, if_neg (by rw [HRC.out]; exact hcn), if_neg (by rw [HCALM.out.top]; exact Nat.lt_irrefl _), if_pos (by rw [HCALM.out.room, HRC.out]; omega)]
              have e' := HCALM.out.refuse rec x hx (by omega)
              rw [e'] at cA
              clear hx e'
              have hle : ¬ (n : Int) ≤ (rm : Int) := by have := HRM.out; omega
              rcases hx2 with rfl | rfl
              all_goals (
                go_wp2_with fail
                refine cA.mono ?_
                rintro e w7 ⟨rfl, hk7, hd7, hrg7⟩
                clear cA
                have hs7 := hk7.size
                have hs6 := HB6.out.size
                have hold : ∀ x, x < wz.heap.size → ¬ G x → x ≠ r → w7.heap[x]? = wz.heap[x]? := fun x hx hn hr => (hk7.block x (by omega) (fun h => h.elim (fun h => hn h.1) hr)).trans (HB6.out.block x hx)
                have hnx : BInv w w7 r q C Bs (j + 1) (.slice A12 (whole [] ps).length c12) := by
                  refine ⟨More G w6 w7, More S w6 w7, D, R, ps, xs, (whole [] ps).length, HCALM.out, HRF.out, HRC.out, HRB.out, hpl, HFIT.out.mono (by omega), hlen, hd7, fun x hx => ?_, hrg7, hrw, row_same HOWN.out fun x hx => hold x (HOWN.out.lt x hx).2 (HOG.out x hx) (row_not HRG.out HOWN.out (by decide) x hx), HELS.out.kept (fun x hx hl => ⟨hx.1, fun h => h.elim hx.2.1 (fun h => by omega), ?_⟩) (by omega) (fun x hx hl => hold x hl hx.2.1 ?_), fun x hx h => h.elim (HOG.out x hx) (fun h => by have := (HOWN.out.lt x hx).2; omega), by omega, ?_⟩
                  · rcases hx with h | h
                    · have := HG.out x h; exact ⟨this.1, by omega, this.2.2⟩
                    · have := HBEL.out.size
                      have := HRG.out.lt
                      exact ⟨by omega, by omega, by omega⟩
                  · obtain ⟨Cx, hCx⟩ := hx.2.2
                    refine ⟨Cx, (hold x hl hx.2.1 ?_).trans hCx⟩
                    rintro rfl
                    have h3 := hCx.symm.trans HRG.out
                    injection h3 with h3
                    injection h3 with _ h3
                    exact absurd h3 (by decide)
                  · rintro rfl
                    obtain ⟨Cx, hCx⟩ := hx.2.2
                    have h3 := hCx.symm.trans HRG.out
                    injection h3 with h3
                    injection h3 with _ h3
                    exact absurd h3 (by decide)
                  · have t1 := HBEL.out.trans (Joins.below_le HB6.out HBEL.out.size)
                    exact t1.trans (hk7.below t1.size (fun x hx => hx.elim (fun h => (HG.out x h.1).1) (fun h => by rw [h]; exact hrw)))
                have HNX := Lib.hid hnx
                clear hnx hk7 hd7 hrg7 hold
                go_wp2_with fail
                refine (cP w7).mono ?_
                rintro e w8 ⟨rfl, rfl⟩
                clear cP
                go_wp2_with fail
                exact ⟨⟨j + 1, by go_num, hjl, HNX⟩, by simp [intOf]; omega⟩)
      · have hje : j = zs.length := by omega
        subst hje
        have a1 : ¬ (zs.length : Int) < (zs.length : Int) := Int.lt_irrefl _
        have cO := popen_any hpd (hfit.fine (by omega)) (fun b hb => (hG b hb).2.1) hcalm.rung.live R.first R.count R.base (by omega) (by omega) (by omega) (by omega)
        rw [hcalm.opens, hcalm.told, hRf, hRc, hRb] at cO
        have hL : LL wz (.slice A12 (whole [] ps).length c12) (whole [] ps) := (LLN.own (M := fun _ => True) hown hels (fun _ _ => trivial)).ll
        have hwl2 : (whole [] ps).length ≤ 9223372036854775807 := by omega
        have HPD := Lib.hid hpd
        have HRG := Lib.hid hrg
        have HBEL := Lib.hid hbel
        have HL := Lib.hid hL
        have HCALM := Lib.hid hcalm
        have HFIT := Lib.hid hfit
        have HG := Lib.hid hG
        have HRF := Lib.hid hRf
        have HRC := Lib.hid hRc
        have HRL := Lib.hid hRl
        have HRB := Lib.hid hRb
        have HFINE := Lib.hid hfine
        clear hpd hrg hbel hL hcalm hfit hG hRf hRc hRl hRb hfine hown hels hoG hinv
        go_wp2_with fail
        refine cO.mono ?_
        rintro e w3 ⟨r3, v3, rfl, hb3, hr3, hrg3, hll3⟩
        clear cO
        have hs3 := hb3.size
        have cS := same_any (whole [] ps) (whole [] ps) v3 (.slice A12 (whole [] ps).length c12) w3 hll3.ll (HL.out.kept (fun _ _ _ => trivial) (fun _ _ _ => trivial) hs3 (fun b _ hb => hb3.block b hb)) hwl2 hwl2
        rw [decide_eq_true (rfl : whole [] ps = whole [] ps)] at cS
        have HB3 := Lib.hid hb3
        clear hll3 hrg3 hb3
        go_wp2_with fail
        refine cS.mono ?_
        rintro e w4 ⟨rfl, kx, rfl⟩
        clear cS
        obtain ⟨w4, hw4⟩ : ∃ w4, w4 = w3.drewN kx := ⟨_, rfl⟩
        rw [← hw4]
        have hb34 : Below w3.heap.size w3 w4 := by rw [hw4]; exact ⟨rfl, rfl, rfl, Nat.le_refl _, fun _ _ => rfl⟩
        have hs4 := hb34.size
        have hb4 : Below wz.heap.size wz w4 := HB3.out.trans (Joins.below_le hb34 hs3)
        have hrg4 : RgAt w4 r q R := HRG.out.kept (hb4.block r HRG.out.lt)
        have hpd4 : PD w4 G S q D := HPD.out.kept (fun _ h => h) (fun _ h => h) (fun b hb _ => hb4.block b hb) (fun b _ _ hb => hb4.block b hb)
        have cl := plast_any hrg4
        have cO := popen_any hpd4 (HFIT.out.fine (by omega)) (fun b hb => by have := (HG.out b hb).2.1; omega) HCALM.out.rung.live R.first R.count R.last (by have := HRC.out; omega) (by have := HRC.out; have := HRF.out; omega) (by omega) (by have := HRL.out; have := HRB.out; omega)
        rw [HCALM.out.beyond.1, HCALM.out.beyond.2, HRF.out, HRC.out] at cO
        obtain ⟨L, hL⟩ : ∃ L, L = R.last := ⟨_, rfl⟩
        rw [← hL] at cl cO
        have hLb : L ≤ 1014 := by have := HRL.out; have := HRB.out; omega
        have HB4 := Lib.hid hb4
        clear hw4 hb34 hrg4 hpd4 hb4 hL
        go_wp2_with fail
        refine cl.mono ?_
        rintro e w5 ⟨rfl, rfl⟩
        clear cl
        go_wp2_with fail
        refine cO.mono ?_
        rintro e w5 ⟨r5, v5, rfl, hb5, hr5, hrg5, hll5⟩
        clear cO
        have hs5 := hb5.size
        obtain ⟨A5, c5, rfl⟩ : ∃ A c, v5 = .slice A 0 c := by
          obtain ⟨xs, he, A0, c0, hv, -⟩ := hll5
          exact ⟨A0, c0, hv⟩
        have cR := proom_any hrg5 ⟨by show 0 < C; omega, by show 1 + C ≤ 65536; omega, by show L ≤ L; omega, by show L ≤ L + C; omega, by show L ≤ L; omega, by show L ≤ 4611686018427387904; omega⟩
        have hroom : (RG.mk 1 C L L L).room' = C := by
          unfold RG.room'
          rw [if_neg (Nat.lt_irrefl _)]
          show C - (L - L) = C
          omega
        rw [hroom] at cR
        have HB5 := Lib.hid hb5
        clear hroom hrg5 hll5 hb5
        go_wp2_with fail
        refine cR.mono ?_
        rintro e w6 ⟨rfl, ky, rfl⟩
        clear cR
        go_wp2_with fail
        go_ret
        have t1 := HBEL.out.trans (Joins.below_le HB4.out HBEL.out.size)
        have t2 := t1.trans (Joins.below_le HB5.out t1.size)
        exact ⟨by first | rfl | simp, t2.os, t2.tape, t2.output, t2.size, t2.block⟩
end Go.Proofs.Ytplpfhgdanclhaa
