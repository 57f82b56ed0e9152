/-
  RingCrashes, walked: behind a crash, wherever, all is there that was sure, and of the rest a beginning. No condition but that its arguments lie in memory.
-/
import Derived.Test.YtplpfhgdanclhaaRKeep
import Derived.Deep.DeepCutAuto
namespace Go.Proofs.Ytplpfhgdanclhaa
open Go.RowKit

structure RoundT where
  vl : Value
  lens : List Int
  vs : Value
  syncs : List Bool
  fuse : Int
  vk : Value
  keep : List Bool
  empty : Bool
structure RoundOk (w : World) (x : RoundT) : Prop where
  lens : NumAt w w.heap.size x.vl x.lens
  lenl : x.lens.length ≤ 9223372036854775807
  syncs : RowAt w x.vs x.syncs.length 1 (KS x.syncs)
  keep : RowAt w x.vk x.keep.length 1 (KS x.keep)
def RdR (w : World) (v : Value) (l : List RoundT) : Prop :=
  ∃ A c, v = .slice A l.length c ∧ (∀ x ∈ l, RoundOk w x) ∧ (l ≠ [] → ∃ b o, A = some ⟨b, o, none⟩ ∧ b < w.heap.size ∧ ∀ (i : Nat) (x : RoundT), l[i]? = some x → w.cell? ⟨b, o + i * 5, none⟩ = some x.vl ∧ w.cell? ⟨b, o + i * 5 + 1, none⟩ = some x.vs ∧ w.cell? ⟨b, o + i * 5 + 2, none⟩ = some (.int .i64 x.fuse) ∧ w.cell? ⟨b, o + i * 5 + 3, none⟩ = some x.vk ∧ w.cell? ⟨b, o + i * 5 + 4, none⟩ = some (.bool x.empty))

/-- what RingCrashes' outer loop keeps -/
def CInv (w wr : World) (q C base : Nat) (v8 : Value) : Prop :=
  ∃ (G S : Nat → Prop) (D : DS) (Ls : List (List UInt8)), PD wr G S q D ∧ D.dead = false ∧ D.waits = [] ∧ Fit D 0 ∧ D.lasts.length = 16 ∧ (∀ x, G x → w.heap.size ≤ x ∧ x < wr.heap.size) ∧ base ≤ 4611686018427387904 ∧ LLN wr (fun x => ¬ G x) (fun x => ¬ G x) v8 Ls ∧ Ls <+: inRing D 3 C base ∧ Below w.heap.size w wr

theorem inRing_length (D : DS) (first count base : Nat) : (inRing D first count base).length ≤ count := Nat.le_trans (whole_length _ _) (run_length _ _ _)

/-- a ring that was opened, and emptied if it was torn or that was asked -/
def MInv (w7 wx : World) (r q C base1 : Nat) (D : DS) (v12 : Value) (L1 : List (List UInt8)) : Prop :=
  ∃ (R : RG) (ps : List Pc), RgAt wx r q R ∧ R.first = 3 ∧ R.count = C ∧ R.base = base1 ∧ Live D R ps ps.length ∧ R.top ≤ 4611686018427387904 ∧ whole [] ps = L1 ∧ LLN wx (fun x => r < x) (fun x => r < x) v12 L1 ∧ Kept w7 wx (fun x => x = r)

theorem LLN.rowAt {w : World} {M N : Nat → Prop} {v : Value} {Ls : List (List UInt8)} (h : LLN w M N v Ls) : ∃ xs, Els w N xs Ls ∧ RowAt w v Ls.length 1 xs := by
  obtain ⟨xs, h1, A, c, rfl, h2, h3, h4, h5⟩ := h
  refine ⟨xs, h1, A, c, rfl, by rw [h1.1, Nat.mul_one], h2, h3, h4, fun hn => ?_⟩
  obtain ⟨b, o, hA, -, -, hc⟩ := h5 (by intro e; rw [e] at hn; exact absurd hn (Nat.lt_irrefl _))
  exact ⟨b, o, hA, hc⟩
/-- behind a round: the disk is dead -/
def LInv (w wx : World) (W1 gs r q C base1 : Nat) (Y : Array Value) (v8 v14 : Value) (ps : List Pc) (s : Nat) : Prop :=
  ∃ (G S : Nat → Prop) (D : DS) (k : Nat) (xs : List Value), PD wx G S q D ∧ D.dead = true ∧ Fit D k ∧ D.lasts.length = 16 ∧ Left D 3 C base1 ps s ∧ KMem wx W1 gs r G Y v8 v14 (whole [] ps) (whole [] (ps.take s)) xs ∧ Below w.heap.size w wx
/-- what the loop over a round's records keeps -/
def KInv (w wr : World) (W1 gs r q C base1 : Nat) (Y : Array Value) (k : Nat) (v8 v14 : Value) : Prop :=
  ∃ (G S : Nat → Prop) (D : DS) (R : RG) (ps : List Pc) (s : Nat) (xs : List Value), PD wr G S q D ∧ Fit D (4 * k) ∧ D.lasts.length = 16 ∧ (∀ x, G x → w.heap.size ≤ x ∧ x < wr.heap.size ∧ x ≠ r) ∧ RgAt wr r q R ∧ R.first = 3 ∧ R.count = C ∧ R.base = base1 ∧ (whole [] ps).length ≤ 9 + k ∧
    ((Live D R ps s ∧ R.top ≤ 4611686018427387904) ∨ (D.dead = true ∧ Left D 3 C base1 ps s)) ∧ KMem wr W1 gs r G Y v8 v14 (whole [] ps) (whole [] (ps.take s)) xs ∧ Below w.heap.size w wr

set_option maxHeartbeats 8000000 in
set_option maxRecDepth 100000 in
theorem crashes_walk (nc : Int) (l : List RoundT) (a : Value) (w : World) (ha : RdR w a l) (hl : l.length ≤ 9223372036854775807) :
    Calls Try.prog 5 #[.int .i64 nc, a] w fun e w' => e = .returned (.bool true) ∧ Below w.heap.size w w' := by
  obtain ⟨A, ca, rfl, hok, hcell⟩ := ha
  by_cases hlong : 6 < l.length
  · have h1 : (6 : Int) < (l.length : Int) := by omega
    clear hlong
    go_enter Try.func5, Try.ntmps5
    go_wp2_with fail
    refine (awake_any w).mono ?_
    rintro e w1 ⟨rfl, hb1⟩
    go_wp2_with fail
    go_ret
    exact ⟨rfl, hb1⟩
  · have h1 : ¬ (6 : Int) < (l.length : Int) := by omega
    have hl6 : l.length ≤ 6 := by omega
    clear hlong hl
    have HC := Lib.hid hcell
    have HOK := Lib.hid hok
    clear hcell hok
    go_enter Try.func5, Try.ntmps5
    go_wp2_with fail
    refine (awake_any w).mono ?_
    rintro e w1 ⟨rfl, hb1⟩
    have hs1 := hb1.size
    go_upto_region 4 with fail
    obtain ⟨N0, hN0, e0⟩ := mod_of nc 9 9 rfl (by omega) (by omega)
    rw [e0]
    obtain ⟨C, hC⟩ : ∃ C, C = 1 + N0 := ⟨_, rfl⟩
    have e2 : wrap64 (1 + (N0 : Int)) = (C : Int) := by rw [wrap_small _ (by omega) (by omega)]; omega
    rw [e2]
    have hC1 : 1 ≤ C := by omega
    have hC2 : C ≤ 9 := by omega
    clear e0 e2 hC hN0
    have f0 : Fit (DS.new 16) 0 := Fit.new (by omega)
    have hll : (DS.new 16).lasts.length = 16 := List.length_replicate
    have hdd : (DS.new 16).dead = false := rfl
    have hww : (DS.new 16).waits = [] := rfl
    obtain ⟨D0, hD0⟩ : ∃ D0, D0 = DS.new 16 := ⟨_, rfl⟩
    have cN := pNew_yes 16 w1 (by omega) (by omega)
    rw [← hD0] at f0 hll hdd hww cN
    have F0 := Lib.hid f0
    have HLL := Lib.hid hll
    have HDD := Lib.hid hdd
    have HWW := Lib.hid hww
    clear hD0 f0 hll hdd hww
    go_wp2_with fail
    refine cN.mono ?_
    rintro e w2 ⟨hb2, q, rfl, hd2⟩
    clear cN
    have hs2 := hb2.size
    have hinv0 : CInv w w2 q C 0 (.slice none 0 0) :=
      ⟨Made w1 w2, Nil, D0, [], hd2, HDD.out, HWW.out, F0.out, HLL.out, fun x hx => ⟨by have := hx.1; omega, hx.2⟩, by omega, ⟨[], Els.nil _ _, none, 0, rfl, Nat.le_refl _, by unfold maxLen; omega, fun _ => rfl, fun h => absurd rfl h⟩, List.nil_prefix, hb1.trans (Joins.below_le hb2 hs1)⟩
    have HI0 := Lib.hid hinv0
    clear hinv0 hd2 hb1 hb2 hs1 hs2 F0 HLL HDD HWW
    go_wp2_with fail
    obtain ⟨ib, hib, hzb0, hzb1, hzb2⟩ := info_parts info_BB
    go_loopw [5, 7, 8, 9, 10, 11, 12, 13, 14, 15, 16, 17, 18, 19, 20, 21, 22] (fun d b s i _ _ _ _ _ _ _ _ _ _ _ _ _ wr => ∃ (q base j : Nat), d = .pointer (some ⟨q, 0, none⟩) ∧ b = .int .i64 base ∧ i = .int .i64 j ∧ j ≤ l.length ∧ Hid (CInv w wr q C base s)) (fun _ _ _ i _ _ _ _ _ _ _ _ _ _ _ _ _ _ => l.length - (intOf i).toNat)
    case atStart => exact ⟨q, 0, 0, rfl, rfl, rfl, Nat.zero_le _, HI0⟩
    case round =>
      clear HI0
      obtain ⟨q, base, j, rfl, rfl, rfl, hj, hinv⟩ := hrel
      obtain ⟨wz, hwz⟩ : ∃ wz : World, wz = wr := ⟨_, rfl⟩
      subst hwz
      obtain ⟨G, S, D, Ls, hpd, hdd, hdw, hfit, hlen, hG, hbase, hsure, hpre, hbel⟩ := hinv.out
      have hsw := hbel.size
      by_cases hjl : j < l.length
      · have a1 : (j : Int) < (l.length : Int) := by omega
        have a0 : (0 : Int) ≤ (j : Int) := by omega
        obtain ⟨y, hyj⟩ : ∃ y, l[j]? = some y := ⟨l[j], List.getElem?_eq_getElem hjl⟩
        obtain ⟨b, o, rfl, hbw, hcl⟩ := HC.out (by intro e; rw [e] at hjl; simp at hjl)
        obtain ⟨c0, c1, c2, c3, c4⟩ := hcl j y hyj
        obtain ⟨hln, hlc, hsy, hkp⟩ := HOK.out y (List.mem_of_getElem? hyj)
        obtain ⟨vl, lens, vs, sy, fz, vk, kp, em⟩ := y
        have k0 : wz.cell? ⟨b, o + j * 5, none⟩ = some vl := (hbel.cell (p := ⟨b, o + j * 5, none⟩) hbw).trans c0
        have k1 : wz.cell? ⟨b, o + j * 5 + 1, none⟩ = some vs := (hbel.cell (p := ⟨b, o + j * 5 + 1, none⟩) hbw).trans c1
        have k2 : wz.cell? ⟨b, o + j * 5 + 2, none⟩ = some (.int .i64 fz) := (hbel.cell (p := ⟨b, o + j * 5 + 2, none⟩) hbw).trans c2
        have k3 : wz.cell? ⟨b, o + j * 5 + 3, none⟩ = some vk := (hbel.cell (p := ⟨b, o + j * 5 + 3, none⟩) hbw).trans c3
        have k4 : wz.cell? ⟨b, o + j * 5 + 4, none⟩ = some (.bool em) := (hbel.cell (p := ⟨b, o + j * 5 + 4, none⟩) hbw).trans c4
        have HLN : Hid (NumAt w w.heap.size vl lens) := Lib.hid hln
        have HSY : Hid (RowAt w vs sy.length 1 (KS sy)) := Lib.hid hsy
        have HKP : Hid (RowAt w vk kp.length 1 (KS kp)) := Lib.hid hkp
        have hlc' : lens.length ≤ 9223372036854775807 := hlc
        obtain ⟨Al, cl, ev1, -⟩ := HLN.out
        obtain ⟨As, cs, ev2, -⟩ := HSY.out
        obtain ⟨Ak, ck, ev3, -⟩ := HKP.out
        subst ev1 ev2 ev3
        have HPD := Lib.hid hpd
        have HDD := Lib.hid hdd
        have HDW := Lib.hid hdw
        have HFIT := Lib.hid hfit
        have HLEN := Lib.hid hlen
        have HG := Lib.hid hG
        have HSURE := Lib.hid hsure
        have HPRE := Lib.hid hpre
        have HBEL := Lib.hid hbel
        clear hpd hdd hdw hfit hlen hG hsure hpre hbel hinv hcl c0 c1 c2 c3 c4 hln hsy hkp hlc hyj
        go_upto_region 13 with fail
        have hb5 := Below.alloc (Below.refl wz.heap.size wz) (Nat.le_refl _) (.cells #[.slice Al lens.length cl, .slice As sy.length cs, .int .i64 fz, .slice Ak kp.length ck, .bool em] 59)
        have hnew5 := heap_alloc_new wz (.cells #[.slice Al lens.length cl, .slice As sy.length cs, .int .i64 fz, .slice Ak kp.length ck, .bool em] 59)
        obtain ⟨gs, hgs⟩ : ∃ gs, gs = wz.heap.size := ⟨_, rfl⟩
        rw [← hgs] at hnew5 ⊢
        obtain ⟨w5, hw5⟩ : ∃ w5, w5 = wz.alloc (.cells #[.slice Al lens.length cl, .slice As sy.length cs, .int .i64 fz, .slice Ak kp.length ck, .bool em] 59) := ⟨_, rfl⟩
        rw [← hw5] at hb5 hnew5 ⊢
        have hgs5 : gs < w5.heap.size := (Array.getElem?_eq_some_iff.1 hnew5).1
        have hs5 := hb5.size
        have hpd5 : PD w5 G S q D := HPD.out.kept (fun _ h => h) (fun _ h => h) (fun b hb _ => hb5.block b hb) (fun b _ _ hb => hb5.block b hb)
        have cO := popen_any hpd5 (HFIT.out.fine (by omega)) (fun b hb => by have := (HG.out b hb).2; omega) HDD.out 3 C base hC1 (by rw [HLEN.out]; omega) (by rw [HLEN.out]; omega) hbase
        have HGS := Lib.hid hgs
        have HNEW5 := Lib.hid hnew5
        have HB5 := Lib.hid hb5
        clear hw5 hgs hnew5 k0 k1 k2 k3 k4 hb5 hpd5
        go_wp2_with fail
        refine cO.mono ?_
        rintro e w6 ⟨r, v12, rfl, hb6, hr6, hrg6, hll6⟩
        clear cO
        have hs6 := hb6.size
        obtain ⟨R0, hR0⟩ : ∃ R0, R0 = opened D 3 C base := ⟨_, rfl⟩
        obtain ⟨L0, hL0⟩ : ∃ L0, L0 = inRing D 3 C base := ⟨_, rfl⟩
        have hL0l : L0.length ≤ 9 := by rw [hL0]; have := inRing_length D 3 C base; omega
        rw [← hR0] at hrg6
        rw [← hL0] at hll6
        obtain ⟨A12, c12, rfl⟩ : ∃ A c, v12 = .slice A L0.length c := by
          obtain ⟨xs, he, A0, c0, hv, -⟩ := hll6
          exact ⟨A0, c0, hv⟩
        have hb56 : Below wz.heap.size wz w6 := HB5.out.trans (Joins.below_le hb6 hs5)
        have cB := begins_yes L0 Ls _ _ w6 hll6.ll (HSURE.out.kept (fun _ _ _ => trivial) (fun _ _ _ => trivial) hb56.size (fun b _ hb => hb56.block b hb)) (by rw [hL0]; exact HPRE.out) (by omega)
        have HR0 := Lib.hid hR0
        have HL0 := Lib.hid hL0
        have HRG6 := Lib.hid hrg6
        have HLL6 := Lib.hid hll6
        have HB56 := Lib.hid hb56
        have HB6 := Lib.hid hb6
        clear hR0 hL0 hrg6 hll6 hb56 hb6 HSURE HPRE
        go_wp2_with fail
        refine cB.mono ?_
        rintro e w7 ⟨rfl, kx, rfl⟩
        clear cB
        obtain ⟨w7, hw7⟩ : ∃ w7, w7 = w6.drewN kx := ⟨_, rfl⟩
        rw [← hw7]
        have hb67 : Below w6.heap.size w6 w7 := by rw [hw7]; exact ⟨rfl, rfl, rfl, Nat.le_refl _, fun _ _ => rfl⟩
        have hs7 := hb67.size
        have HB67 := Lib.hid hb67
        clear hw7 hb67
        have hrg7 : RgAt w7 r q R0 := HRG6.out.kept (HB67.out.block r HRG6.out.lt)
        have hnew7 := (HB67.out.block gs (by omega)).trans ((HB6.out.block gs hgs5).trans HNEW5.out)
        have c74 : w7.cell? ⟨gs, 4, none⟩ = some (.bool em) := (row7 hnew7).1 4
        have cT := ptop_any hrg7
        have cL := plast_any hrg7
        have cE := pempty_any hrg7
        have HRG7 := Lib.hid hrg7
        have HRG7L : Hid (w7.heap[r]? = _) := Lib.hid hrg7
        have HR6L := Lib.hid HRG6.out.lt
        have HNEW7 := Lib.hid hnew7
        have hL9 : L0.length ≤ 9 := hL0l
        clear hrg7 hnew7 HNEW5
        obtain ⟨tb, htb⟩ : ∃ tb : Bool, tb = (decide (R0.last < R0.top) || em) := ⟨_, rfl⟩
        have HTB := Lib.hid htb
        clear htb
        go_upto_region 16 with fail
        go_cut [76] (fun c wx => wx = w7 ∧ c = .bool tb)
        case first =>
          as_aux_lemma =>
            by_cases htr : R0.last < R0.top
            · have h1 : (R0.last : Int) < (R0.top : Int) := by omega
              have htb : tb = true := by rw [HTB.out, decide_eq_true htr]; rfl
              have HTB2 := Lib.hid htb
              clear htr htb
              go_wp2_with fail
              refine cT.mono ?_
              rintro e w8 ⟨rfl, rfl⟩
              go_wp2_with fail
              refine cL.mono ?_
              rintro e w8 ⟨rfl, rfl⟩
              go_wp2_with fail
              go_meet
              exact ⟨rfl, by rw [HTB2.out]⟩
            · have h1 : ¬ (R0.last : Int) < (R0.top : Int) := by omega
              have htb : tb = em := by rw [HTB.out, decide_eq_false htr]; rfl
              have HTB2 := Lib.hid htb
              clear htr htb
              go_wp2_with fail
              refine cT.mono ?_
              rintro e w8 ⟨rfl, rfl⟩
              go_wp2_with fail
              refine cL.mono ?_
              rintro e w8 ⟨rfl, rfl⟩
              go_wp2_with fail
              go_meet
              exact ⟨rfl, by first | (rw [HTB2.out]; done) | (rw [HTB2.out, decide_eq_false (by omega)]; rfl)⟩
        case rest =>
          obtain ⟨hwc, rfl⟩ := hcut
          have hwd := hwc.symm
          clear hwc
          subst hwd
          go_upto_if 76 with fail
          go_cut [7, 12] (fun s7 s12 wx => ∃ (base1 : Nat) (A1 : Option Addr) (c1 : Nat) (L1 : List (List UInt8)), s7 = .int .i64 base1 ∧ s12 = .slice A1 L1.length c1 ∧ Hid (MInv w7 wx r q C base1 D s12 L1))
          case first =>
            as_aux_lemma =>
              have hfine : R0.fine := by rw [HR0.out]; exact opened_fine hC1 (by omega) (by rw [HLEN.out]; omega) hbase
              cases tb with
              | true =>
                clear cT cL c74
                have HF := Lib.hid hfine
                clear hfine
                go_wp2_with fail
                refine cE.mono ?_
                rintro e w8 ⟨rfl, hk8, hrg8⟩
                have hm := HF.out.most
                have hmi : MInv w7 w8 r q C R0.top D (.slice none 0 0) [] := ⟨_, [], hrg8, by rw [HR0.out]; rfl, by rw [HR0.out]; rfl, rfl, by rw [HR0.out]; exact live_empty HDD.out HDW.out hC1 (by rw [HLEN.out]; omega), hm, rfl, ⟨[], Els.nil _ _, none, 0, rfl, Nat.le_refl _, by unfold maxLen; omega, fun _ => rfl, fun h => absurd rfl h⟩, hk8⟩
                have HMI := Lib.hid hmi
                clear hmi hk8 hrg8
                go_wp2_with fail
                go_meet
                exact ⟨R0.top, none, 0, [], rfl, rfl, HMI⟩
              | false =>
                have htr : ¬ R0.last < R0.top := by
                  intro h
                  have := HTB.out
                  rw [decide_eq_true h] at this
                  cases this
                obtain ⟨ps, hlive, hwh⟩ := live_open (first := 3) (count := C) (base := base) HDD.out HDW.out hC1 (by rw [HLEN.out]; omega) (by rw [← HR0.out]; exact htr)
                rw [← HR0.out] at hlive
                have hmi : MInv w7 w7 r q C base D (.slice A12 L0.length c12) L0 := ⟨R0, ps, HRG7.out, by rw [HR0.out]; rfl, by rw [HR0.out]; rfl, by rw [HR0.out]; rfl, hlive, hfine.most, by rw [hwh, HL0.out], HLL6.out.kept (fun _ h _ => h) (fun _ h _ => h) hs7 (fun b _ hb => HB67.out.block b hb), Kept.refl _ _⟩
                have HMI := Lib.hid hmi
                clear hmi hwh hlive htr hfine cT cL cE c74
                go_wp2_with fail
                go_meet
                exact ⟨base, A12, c12, L0, rfl, rfl, HMI⟩
          case rest =>
            obtain ⟨base1, A1, c1, L1, rfl, rfl, hmi⟩ := hcut
            clear cT cL cE c74 HLL6 HRG6 HRG7 HTB HL0 HR0
            rename_i wc
            obtain ⟨w8, hw8⟩ : ∃ w8 : World, w8 = wc := ⟨_, rfl⟩
            subst hw8
            obtain ⟨R, ps, hrg8, hR3, hRC, hRB, hlive, htop, hwh, hll8, hk8⟩ := hmi
            have hbase1 : base1 ≤ 4611686018427387904 := by have := hlive.last; have := hlive.top; omega
            have hs8 := hk8.size
            have hgr : gs ≠ r := by omega
            have hrl6 : r < w6.heap.size := HR6L.out
            have hnew8 := (hk8.block gs (by omega) hgr).trans HNEW7.out
            have hpd7 : PD w7 G S q D := HPD.out.kept (fun _ h => h) (fun _ h => h) (fun b hb _ => (HB67.out.block b (by have := HB56.out.size; omega)).trans (HB56.out.block b hb)) (fun b _ _ hb => (HB67.out.block b (by have := HB56.out.size; omega)).trans (HB56.out.block b hb))
            have hpd8 : PD w8 G S q D := hpd7.kept (fun _ h => h) (fun _ h => h) (fun b hb hm => hk8.block b hb (by rintro rfl; have := (HG.out b hm.1).2; have := HGS.out; omega)) (fun b _ hi hb => hk8.block b hb (by
              rintro rfl
              obtain ⟨cs, hcs⟩ := hi
              have h3 := hcs.symm.trans HRG7L.out
              injection h3 with h3
              injection h3 with _ h3
              exact absurd h3 (by decide)))
            have hB8 : Below w.heap.size w w8 := by
              have t1 := HBEL.out.trans (Joins.below_le HB56.out HBEL.out.size)
              have t2 := t1.trans (Joins.below_le HB67.out t1.size)
              exact t2.trans (hk8.below t2.size (fun x hx => by have := HGS.out; omega))
            obtain ⟨xs1, hel8, hrow8⟩ := hll8.rowAt
            have hL1 : L1.length ≤ 9 := by
              rw [← hwh]
              have := whole_length ps []
              have := hlive.rung.len
              omega
            have hown9 : (w8.alloc (.cells #[] 39)).ownsRow w8.heap.size 39 1 (.slice (some ⟨w8.heap.size, 0, none⟩) 0 0) 0 [] :=
              World.ownsRow_lit (base := w8.heap.size) (e := 39) (size := 1) w8 #[] 0 (Nat.le_refl _) (by unfold maxLen; omega) rfl
            have hb89 : Below w8.heap.size w8 (w8.alloc (.cells #[] 39)) := (Below.refl _ _).alloc (Nat.le_refl _) _
            have hrow9 : RowAt (w8.alloc (.cells #[] 39)) (.slice A1 L1.length c1) L1.length 1 xs1 := hrow8.grow hb89
            have hbase9 : w8.heap.size ≤ (w8.alloc (.cells #[] 39)).heap.size := hb89.size
            have hone := hel8.one
            have HNEW8 := Lib.hid hnew8
            have HPD8 := Lib.hid hpd8
            have HB8 := Lib.hid hB8
            have HLIVE := Lib.hid hlive
            have HWH := Lib.hid hwh
            have HLL8 := Lib.hid hll8
            have HRG8 := Lib.hid hrg8
            have HEL8 := Lib.hid hel8
            have HOWN9 := Lib.hid hown9
            have HROW9 := Lib.hid hrow9
            have HONE := Lib.hid hone
            have HB89 := Lib.hid hb89
            have HR3 := Lib.hid hR3
            have HRC := Lib.hid hRC
            have HRB := Lib.hid hRB
            clear hnew8 hpd7 hpd8 hB8 hlive hwh hll8 hrg8 hel8 hown9 hrow9 hone hrow8 hR3 hRC hRB hb89 hk8
            go_upto_region 21 with (at_builtin; go_must (refine wpList_appAt rfl (.tmp 80) (.tmp 81) 28 rfl w8.heap.size 39 ib _ 1 24 Try.underlying28 hib hzb0 hzb1 hzb2 rfl (by decide) _ _ 0 [] L1.length xs1 rfl rfl HOWN9.out HROW9.out HONE.out (by unfold maxLen; omega) (by omega) hbase9 ?_; intro A14 c14 w10 ho10 hg10 hat10; rw [Nat.zero_add] at ho10 hat10 ⊢; rw [List.nil_append] at ho10))
            have hs9 := HB89.out.size
            have hs10 := hg10.size
            have hb10 : Below w8.heap.size w8 w10 := HB89.out.grown hg10 hbase9 (fun x hx => (HOWN9.out.lt x hx).1)
            have hrl8 : r < w8.heap.size := by omega
            have hgl8 : gs < w8.heap.size := by omega
            have hnew10 := (hb10.block gs hgl8).trans HNEW8.out
            have d2 : w10.cell? ⟨gs, 2, none⟩ = some (.int .i64 fz) := (row7 hnew10).1 2
            have d3 : w10.cell? ⟨gs, 3, none⟩ = some (.slice Ak kp.length ck) := (row7 hnew10).1 3
            have hB10 := HB8.out.trans (Joins.below_le hb10 HB8.out.size)
            have HNEW10 := Lib.hid hnew10
            have HO10 := Lib.hid ho10
            have HG10 := Lib.hid hg10
            have Hb10 := Lib.hid hb10
            have HB10 := Lib.hid hB10
            clear hnew10 ho10 hg10 hat10 hb10 hB10
            by_cases hkl : 200 < kp.length
            · have i1 : (200 : Int) < (kp.length : Int) := by omega
              clear hkl
              go_wp2_with fail
              go_ret
              exact ⟨rfl, HB10.out⟩
            · have i1 : ¬ (200 : Int) < (kp.length : Int) := by omega
              obtain ⟨K40, hK40, eK⟩ := mod_of fz 40 40 rfl (by omega) (by omega)
              obtain ⟨D1, eD1, hlive1, hlas1⟩ := HLIVE.out.lit K40 kp
              have fD1 : Fit D1 0 := by have := fit_lit HFIT.out (K40 : Int) (keep := kp) (by omega); rwa [eD1] at this
              rw [← eK] at eD1
              have hpd10 : PD w10 G S q D := HPD8.out.kept (fun _ h => h) (fun _ h => h) (fun b hb _ => Hb10.out.block b hb) (fun b _ _ hb => Hb10.out.block b hb)
              have cF := pFuse_any G S q D (wrap64 ((IntKind.u64.wrap fz).tmod 40)) (.slice Ak kp.length ck) kp w10 hpd10 (by rw [eK]; omega) (HKP.out.grow HB10.out) (by omega)
              rw [eD1] at cF
              have HEK := Lib.hid eK
              have HLIVE1 := Lib.hid hlive1
              have HLAS1 := Lib.hid hlas1
              have FD1 := Lib.hid fD1
              have hkl' : kp.length ≤ 200 := by omega
              clear eK eD1 hlive1 hlas1 fD1 hpd10 hK40 hkl HPD8 HPD
              go_wp2_with fail
              refine cF.mono ?_
              rintro e w11 ⟨rfl, hk11, hpd11⟩
              clear cF
              have hs11 := hk11.size
              have hGr : ∀ x, G x → x < gs := fun x hx => by have := (HG.out x hx).2; have := HGS.out; omega
              have hold : ∀ x, x < w8.heap.size → ¬ G x → w11.heap[x]? = w8.heap[x]? := fun x hx hn => (hk11.block x (by omega) (fun h => hn h.1)).trans (Hb10.out.block x hx)
              have hW1 : ∀ x, (Value.slice A14 L1.length c14).ownBlock = some x → w8.heap.size ≤ x ∧ x < w10.heap.size := fun x hx => HO10.out.lt x hx
              have hnot : ∀ x, r < x → x < w8.heap.size → ¬ More G w10 w11 x := fun x h1 h2 h => h.elim (fun h => by have := hGr x h; omega) (fun h => by omega)
              have hki : KInv w w11 w8.heap.size gs r q C base1 #[.slice Al lens.length cl, .slice As sy.length cs, .int .i64 fz, .slice Ak kp.length ck, .bool em] 0 (.slice A1 L1.length c1) (.slice A14 L1.length c14) := by
                refine ⟨More G w10 w11, More S w10 w11, D1, R, ps, ps.length, xs1, hpd11, FD1.out, HLAS1.out.symm ▸ HLEN.out, fun x hx => ?_, HRG8.out.kept (hold r hrl8 (fun h => by have := hGr r h; omega)), HR3.out, HRC.out, HRB.out, by rw [HWH.out]; omega, .inl ⟨HLIVE1.out, htop⟩, ⟨?_, ?_, fun x hx h => ?_, ?_, ?_, (hold gs hgl8 (fun h => by have := hGr gs h; omega)).trans HNEW8.out, fun h => h.elim (fun h => by have := hGr gs h; omega) (fun h => by omega), by omega, hrl8, hgl8, hgr⟩, ?_⟩
                · rcases hx with h | h
                  · have := hGr x h
                    exact ⟨(HG.out x h).1, by omega, by omega⟩
                  · have := HB10.out.size
                    exact ⟨by omega, h.2, by omega⟩
                · rw [HWH.out]
                  exact row_same HO10.out fun x hx => hk11.block x (hW1 x hx).2 (fun h => by have := hGr x h.1; have := hW1 x hx; omega)
                · rw [HWH.out]
                  exact HEL8.out.kept (fun x hx hl => ⟨hnot x hx hl, by omega, .inl hl⟩) (by omega) (fun x hx hl => hold x hl (fun h => by have := hGr x h; omega))
                · have := hW1 x hx
                  exact h.elim (fun h => by have := hGr x h; omega) (fun h => by omega)
                · rw [List.take_length, HWH.out]
                  exact HLL8.out.kept (fun x hx hl => ⟨hnot x hx hl, by omega⟩) (fun x hx hl => ⟨hnot x hx hl, by omega, .inl hl⟩) (by omega) (fun x hx hl => hold x hl (fun h => by have := hGr x h; rcases hx with hx | hx <;> omega))
                · rw [List.take_length, HWH.out]
                  exact Elder.apart (HLL8.out.kept (M' := fun x => x < w8.heap.size) (N' := fun _ => True) (fun _ _ h => h) (fun _ _ _ => trivial) (Nat.le_refl _) (fun _ _ _ => rfl)) rfl (fun b hb h => by have := hW1 b h; omega)
                · exact HB10.out.trans (hk11.below HB10.out.size (fun x hx => (HG.out x hx.1).1))
              have HKI := Lib.hid hki
              have hW8 : ∃ W1, W1 = w8.heap.size := ⟨_, rfl⟩
              obtain ⟨W1, hW1e⟩ := hW8
              rw [← hW1e] at HKI
              have hrW : r < W1 := by omega
              have hgW : gs < W1 := by omega
              have HRW : Hid (w.heap.size ≤ r) := Lib.hid (by have := HBEL.out.size; have := HGS.out; omega)
              clear hki hW1 hnot hold hGr hk11 hpd11 HLIVE HLIVE1 HLAS1 FD1 HRG8 HR3 HRC HRB HEL8 HLL8 HO10 HG10 HNEW10 HNEW8 Hb10 HB10 HB8 HB89 HOWN9 HROW9 HONE d2 d3 HWH hW1e HEK
              go_wp2_with fail
              go_loopw [8, 14, 15, 16, 17, 18, 19] (fun v8 v14 kv _ _ _ _ wr => ∃ k : Nat, kv = .int .i64 k ∧ k ≤ 20 ∧ Hid (KInv w wr W1 gs r q C base1 #[.slice Al lens.length cl, .slice As sy.length cs, .int .i64 fz, .slice Ak kp.length ck, .bool em] k v8 v14)) (fun _ _ kv _ _ _ _ _ => 20 - (intOf kv).toNat)
              case atStart => exact ⟨0, rfl, Nat.zero_le _, HKI⟩
              case round =>
                clear HKI
                obtain ⟨k, rfl, hk20, hki⟩ := hrel
                obtain ⟨wy, hwy⟩ : ∃ wy : World, wy = wr := ⟨_, rfl⟩
                subst hwy
                obtain ⟨G2, S2, D2, R2, ps2, s2, xs2, hpd, hfit, hlen, hG2, hrg, hR3, hRC, hRB, hwl, hst, hkm, hbel⟩ := hki.out
                obtain ⟨A15, c15, rfl⟩ := own_slice hkm.own
                have hsy := hbel.size
                have hWy := hkm.base
                have e0 : wy.cell? ⟨gs, 0, none⟩ = some (.slice Al lens.length cl) := (row7 hkm.cell).1 0
                have cD := pDead_any G2 S2 q D2 wy hpd
                by_cases hgo : k < lens.length ∧ k < 20 ∧ D2.dead = false
                · obtain ⟨g1, g2, g3⟩ := hgo
                  have i1 : (k : Int) < (lens.length : Int) := by omega
                  have i2 : (k : Int) < 20 := by omega
                  have i0 : (0 : Int) ≤ (k : Int) := by omega
                  rw [g3] at cD
                  have hlv : Live D2 R2 ps2 s2 ∧ R2.top ≤ 4611686018427387904 := hst.elim id (fun h => by rw [h.1] at g3; cases g3)
                  obtain ⟨A', c', eA, -, hcL⟩ := HLN.out
                  obtain ⟨bl, ol, eAl, hbl, hcl⟩ := hcL (by intro e; rw [e] at g1; simp at g1)
                  injection eA with ea1 _ _
                  rw [eAl] at ea1
                  subst ea1
                  clear eAl
                  obtain ⟨z, hz⟩ : ∃ z, lens[k]? = some z := ⟨lens[k], List.getElem?_eq_getElem g1⟩
                  have kz : wy.cell? ⟨bl, ol + k, none⟩ = some (.int .i64 z) := (hbel.cell (p := ⟨bl, ol + k, none⟩) hbl).trans (hcl k z hz)
                  obtain ⟨m, hm, ez⟩ := mod_of z 1300 1300 rfl (by omega) (by omega)
                  obtain ⟨w4, hmk0, hz4, hb4⟩ := made_noughts m (by omega) wy
                  have hmk : (Instr.makeSlice 39 (.int .i64 (wrap64 ((IntKind.u64.wrap z).tmod 1300))) (.int .i64 (wrap64 ((IntKind.u64.wrap z).tmod 1300)))).run Try.prog wy = .ok (.slice (some ⟨wy.heap.size, 0, none⟩) m m) w4 := by rw [ez]; exact hmk0
                  obtain ⟨g, hg⟩ : ∃ g, g = wy.heap.size := ⟨_, rfl⟩
                  rw [← hg] at hz4 hmk
                  have hpm : pieces m ≤ 3 := by unfold pieces; split <;> omega
                  have hfine : R2.fine := hlv.1.fine (by omega) hlv.2
                  have HGE := Lib.hid hg
                  have HZ4 := Lib.hid hz4
                  have HB4 := Lib.hid hb4
                  have HLV := Lib.hid hlv
                  have HFINE := Lib.hid hfine
                  have HPD2 := Lib.hid hpd
                  have HFIT2 := Lib.hid hfit
                  have HLEN2 := Lib.hid hlen
                  have HG2 := Lib.hid hG2
                  have HRG2 := Lib.hid hrg
                  have HR3 := Lib.hid hR3
                  have HRC := Lib.hid hRC
                  have HRB := Lib.hid hRB
                  have HKM := Lib.hid hkm
                  have HBEL2 := Lib.hid hbel
                  clear hpd hfit hlen hG2 hrg hR3 hRC hRB hst hkm hbel hki hcL hcl hz hmk0 ez hz4 hb4 hg hlv hfine g1 g2 g3
                  go_wp2_with fail
                  refine cD.mono ?_
                  rintro e wq ⟨rfl, rfl⟩
                  clear cD
                  go_wp2_with fail
                  go_loopw [17] (fun kv wr => ∃ (kk : Nat) (rec : List UInt8), kv = .int .i64 kk ∧ kk ≤ m ∧ rec.length = m ∧ Hid (wr.ownsRow g 5 1 (.slice (some ⟨g, 0, none⟩) m m) m (BS rec)) ∧ Hid (w4.grownBy wr (some g))) (fun kv _ => m - (intOf kv).toNat)
                  case atStart => exact ⟨0, List.replicate m 0, rfl, Nat.zero_le _, List.length_replicate, HZ4, Lib.hid ⟨rfl, rfl, rfl, Nat.le_refl _, fun _ _ _ => rfl⟩⟩
                  case round =>
                    obtain ⟨kk, rec, rfl, hkk, hrl, hro, hgr2⟩ := hrel
                    by_cases hkl2 : kk < m
                    · have m1 : (kk : Int) < (m : Int) := by omega
                      have m0 : (0 : Int) ≤ (kk : Int) := by omega
                      obtain ⟨u, hu⟩ : ∃ u, wr.cell? ⟨g, kk, none⟩ = some u := by
                        rw [hro.out.cellAt kk (by omega)]
                        exact ⟨_, List.getElem?_eq_getElem (by rw [BS_length]; omega)⟩
                      have hz : wr.frozen? ⟨g, kk, none⟩ = false := hro.out.frozenAt kk
                      obtain ⟨c, hc⟩ : ∃ c : UInt8, ((j : Int) * 40 + (k : Int) + (kk : Int)) % 256 = (c.toNat : Int) := ⟨UInt8.ofNat (j * 40 + k + kk), by rw [UInt8.toNat_ofNat']; omega⟩
                      have hst := hro.out.stored kk (.int .u8 (((j : Int) * 40 + (k : Int) + (kk : Int)) % 256))
                      have hst1 := hst.1
                      rw [hc, ← BS_set, ← hc] at hst1
                      have hgn : w4.grownBy (wr.setCell ⟨g, kk, none⟩ (.int .u8 (((j : Int) * 40 + (k : Int) + (kk : Int)) % 256))) (some g) := ⟨hst.2.os.trans hgr2.out.os, hst.2.tape.trans hgr2.out.tape, hst.2.output.trans hgr2.out.output, Nat.le_trans hgr2.out.size hst.2.size, fun q hq hqg => (hst.2.block q (by have := hgr2.out.size; omega) hqg).trans (hgr2.out.block q hq hqg)⟩
                      have HST := Lib.hid hst1
                      have HGN := Lib.hid hgn
                      have hrl2 : (rec.set kk c).length = m := by rw [List.length_set]; exact hrl
                      have j30 : (j : Int) < 7 := by omega
                      have k2000 : (kk : Int) < 1300 := by omega
                      have HC2 := Lib.hid hc
                      clear hst hst1 hgn hro hgr2 hc
                      go_wp2_with fail
                      exact ⟨⟨kk + 1, _, by go_num, hkl2, hrl2, HST, HGN⟩, by simp [intOf]; omega⟩
                    · have m1 : ¬ (kk : Int) < (m : Int) := by omega
                      obtain ⟨w6, hw6⟩ : ∃ w6 : World, w6 = wr := ⟨_, rfl⟩
                      subst hw6
                      have hb6 : Below wy.heap.size wy w6 := HB4.out.grown hgr2.out HB4.out.size (fun k hk => by have h1 : g = k := Option.some.inj hk; have := HGE.out; omega)
                      have hs6 := hb6.size
                      have hrg6 : RgAt w6 r q R2 := HRG2.out.kept (hb6.block r HRG2.out.lt)
                      have hpd6 : PD w6 G2 S2 q D2 := HPD2.out.kept (fun _ h => h) (fun _ h => h) (fun b hb _ => hb6.block b hb) (fun b _ _ hb => hb6.block b hb)
                      have hrd6 : RdN w6 (fun x => ¬ G2 x) (.slice (some ⟨g, 0, none⟩) m m) rec := RdN.own hro.out (fun x hx hm => by have h1 : g = x := Option.some.inj hx; have := HGE.out; have := HG2.out x hm; omega)
                      have cA := pappend_any hrg6 HFINE.out hpd6 HFIT2.out (fun x hx => by have := HG2.out x hx; exact ⟨by omega, this.2.2⟩) rec _ hrd6 (by omega) (by rw [hrl]; omega)
                      have hgl6 : g < w6.heap.size := (hro.out.lt g rfl).2
                      have HRL := Lib.hid hrl
                      have HB6 := Lib.hid hb6
                      clear hb6 hrg6 hpd6 hrd6 hrl hgr2 hkl2
                      rcases HLV.out.1.append rec with ⟨x, x0, x20, e'⟩ | ⟨D', R', e', hl', q1, q2, q3, q4⟩ | ⟨D', e', hd', hl'⟩
                      · as_aux_lemma =>
                          rw [e'] at cA
                          have b0 : (x == 0) = false := by simpa using x0
                          have b20 : (x == 20) = false := by simpa using x20
                          clear e'
                          go_wp2_with fail
                          refine cA.mono ?_
                          rintro e w7 ⟨rfl, hk7, hd7, hrg7⟩
                          clear cA
                          have hs7 := hk7.size
                          have hnx : KInv w w7 W1 gs r q C base1 #[.slice (some ⟨bl, ol, none⟩) lens.length cl, .slice As sy.length cs, .int .i64 fz, .slice Ak kp.length ck, .bool em] (k + 1) u8 (.slice A15 (whole [] ps2).length c15) := by
                            refine ⟨More G2 w6 w7, More S2 w6 w7, D2, R2, ps2, s2, xs2, hd7, HFIT2.out.mono (by omega), HLEN2.out, fun x hx => ?_, hrg7, HR3.out, HRC.out, HRB.out, by omega, .inl HLV.out, HKM.out.moved (by omega) (fun x hl hn hr => (hk7.block x (by omega) (fun h => h.elim (fun h => hn h.1) hr)).trans (HB6.out.block x hl)) (fun x h => Or.elim (show G2 x ∨ (w6.heap.size ≤ x ∧ x < w7.heap.size) from h) .inl (fun h => .inr (by omega))), ?_⟩
                            · have := HKM.out.rlow
                              exact hx.elim (fun h => by have := HG2.out x h; exact ⟨this.1, by omega, this.2.2⟩) (fun h => ⟨by omega, h.2, by omega⟩)
                            · have t := HBEL2.out.trans (Joins.below_le HB6.out HBEL2.out.size)
                              exact t.trans (hk7.below t.size (fun x hx => hx.elim (fun h => (HG2.out x h.1).1) (fun h => by have := HRW.out; omega)))
                          have HNX := Lib.hid hnx
                          clear hnx hk7 hd7 hrg7
                          go_wp2_with fail
                          exact ⟨⟨k + 1, by go_num, by omega, HNX⟩, by simp [intOf]; omega⟩
                      · as_aux_lemma =>
                          have f' := fit_append (R := R2) HFIT2.out rec
                          have l' := append_len D2 R2 rec
                          rw [e'] at cA f' l'
                          rw [HRL.out] at f'
                          have F2 := Lib.hid f'
                          have L2 := Lib.hid (l'.trans HLEN2.out)
                          clear f' l' e'
                          have HL := Lib.hid hl'
                          have Q1 := Lib.hid (q1.trans HR3.out)
                          have Q2 := Lib.hid (q2.trans HRC.out)
                          have Q3 := Lib.hid (q3.trans HRB.out)
                          clear hl' q1 q2 q3
                          go_wp2_with fail
                          refine cA.mono ?_
                          rintro e w7 ⟨rfl, hk7, hd7, hrg7⟩
                          clear cA
                          have hs7 := hk7.size
                          have hrW : r < W1 := HKM.out.rlow
                          have hB7 : Below w.heap.size w w7 := by
                            have t := HBEL2.out.trans (Joins.below_le HB6.out HBEL2.out.size)
                            exact t.trans (hk7.below t.size (fun x hx => hx.elim (fun h => (HG2.out x h.1).1) (fun h => by have := HRW.out; omega)))
                          have hold7 : ∀ x, x < wy.heap.size → ¬ G2 x → x ≠ r → w7.heap[x]? = wy.heap[x]? := fun x hl hn hr => (hk7.block x (by omega) (fun h => h.elim (fun h => hn h.1) hr)).trans (HB6.out.block x hl)
                          have hG7 : ∀ x, More G2 w6 w7 x → w.heap.size ≤ x ∧ x < w7.heap.size ∧ x ≠ r := fun x hx => hx.elim (fun h => by have := HG2.out x h; exact ⟨this.1, by omega, this.2.2⟩) (fun h => ⟨by omega, h.2, by omega⟩)
                          have hgG7 : ¬ More G2 w6 w7 g := fun h => h.elim (fun h => by have := HG2.out g h; have := HGE.out; omega) (fun h => by omega)
                          have hgr7 : g ≠ r := by have := HGE.out; omega
                          have hro7 : w7.ownsRow g 5 1 (.slice (some ⟨g, 0, none⟩) m m) m (BS rec) := row_same hro.out fun x hx => by
                            have h1 : g = x := Option.some.inj hx
                            subst h1
                            exact hk7.block g hgl6 (fun h => h.elim (fun h => by have := HG2.out g h.1; have := HGE.out; omega) hgr7)
                          have hb79 : Below w7.heap.size w7 (w7.alloc (.cells #[Value.slice (some ⟨g, 0, none⟩) m m] 39)) := (Below.refl _ _).alloc (Nat.le_refl _) _
                          have hro9 : (w7.alloc (.cells #[Value.slice (some ⟨g, 0, none⟩) m m] 39)).ownsRow g 5 1 (.slice (some ⟨g, 0, none⟩) m m) m (BS rec) := row_same hro7 fun x hx => hb79.block x (hro7.lt x hx).2
                          have hrow9 : RowAt (w7.alloc (.cells #[Value.slice (some ⟨g, 0, none⟩) m m] 39)) (.slice (some ⟨w7.heap.size, 0, none⟩) 1 1) 1 1 [Value.slice (some ⟨g, 0, none⟩) m m] :=
                            RowAt.of_own (World.ownsRow_lit (base := 0) (e := 39) (size := 1) w7 #[Value.slice (some ⟨g, 0, none⟩) m m] 1 (Nat.zero_le _) (by unfold maxLen; omega) rfl)
                          have hsz9 : (w7.alloc (.cells #[Value.slice (some ⟨g, 0, none⟩) m m] 39)).heap.size = w7.heap.size + 1 := by simp
                          have km9 := HKM.out.moved (w' := w7.alloc (.cells #[Value.slice (some ⟨g, 0, none⟩) m m] 39)) (G' := More G2 w6 w7) (by omega) (fun x hl hn hr => (hb79.block x (by omega)).trans (hold7 x hl hn hr)) (fun x h => Or.elim (show G2 x ∨ (w6.heap.size ≤ x ∧ x < w7.heap.size) from h) .inl (fun h => .inr (by omega)))
                          have hrd9 : RdN (w7.alloc (.cells #[Value.slice (some ⟨g, 0, none⟩) m m] 39)) (NN (w7.alloc (.cells #[Value.slice (some ⟨g, 0, none⟩) m m] 39)) W1 r (More G2 w6 w7)) (.slice (some ⟨g, 0, none⟩) m m) rec := RdN.own hro9 (fun x hx => by
                            have h1 : g = x := Option.some.inj hx
                            subst h1
                            exact ⟨hgG7, hgr7, .inr (row_type hro9 rfl)⟩)
                          have hpd9 : PD (w7.alloc (.cells #[Value.slice (some ⟨g, 0, none⟩) m m] 39)) (More G2 w6 w7) (More S2 w6 w7) q D' := hd7.kept (fun _ h => h) (fun _ h => h) (fun b hb _ => hb79.block b hb) (fun b _ _ hb => hb79.block b hb)
                          have hrg9 := hrg7.kept (hb79.block r hrg7.lt)
                          have hb9 := hB7.trans (Joins.below_le hb79 hB7.size)
                          have hbase9 := km9.base
                          have KM9 := Lib.hid km9
                          have HRD9 := Lib.hid hrd9
                          have HPD9 := Lib.hid hpd9
                          have HRG9 := Lib.hid hrg9
                          have HB9 := Lib.hid hb9
                          have HOWN9 := Lib.hid km9.own
                          have HROW9 := Lib.hid hrow9
                          have HSZ9 := Lib.hid hsz9
                          have HG7 := Lib.hid hG7
                          clear km9 hrd9 hpd9 hrg9 hb9 hrow9 hsz9 hro9 hro7 hb79 hold7 hB7 hk7 hd7 hrg7 hgG7 hgr7 hG7
                          go_upto_region 34 with (at_builtin; go_must (refine wpList_appOn rfl (.tmp 153) (.tmp 155) 28 rfl W1 39 ib _ 1 24 Try.underlying28 hib hzb0 hzb1 hzb2 rfl (by decide) _ _ (whole [] ps2).length xs2 1 [Value.slice (some ⟨g, 0, none⟩) m m] rfl rfl HOWN9.out HROW9.out (fun u hu => by simp at hu; rw [hu]; rfl) (by unfold maxLen; omega) (by omega) hbase9 ?_; intro A10 c10 w10 ho10 hg10 hat10))
                          have hs10 := hg10.size
                          have hs9 := HSZ9.out
                          have km10 := KM9.out.push (fun x hx => by have := (HG7.out x hx).2.1; omega) HRD9.out ho10 hg10 hat10
                          have hpd10 : PD w10 (More G2 w6 w7) (More S2 w6 w7) q D' := HPD9.out.kept (fun _ h => h) (fun _ h => h) (fun x hx hm => hg10.block x hx (fun e => KM9.out.out x e.symm hm.1)) (fun x _ hi hx => hg10.block x hx (fun e => by
                            obtain ⟨cs', hcs⟩ := hi
                            obtain ⟨cur, hcur⟩ := row_type HOWN9.out e.symm
                            rw [hcs] at hcur
                            injection hcur with hcur
                            injection hcur with _ hcur
                            exact absurd hcur (by decide)))
                          have hrg10 := HRG9.out.kept (hg10.block r HRG9.out.lt (fun e => by have := (HOWN9.out.lt r e.symm).1; omega))
                          have hB10 := HB9.out.grown hg10 HB9.out.size (fun x hx => by have := (HOWN9.out.lt x hx).1; have := HBEL2.out.size; have := HRW.out; omega)
                          have hG10 : ∀ x, More G2 w6 w7 x → w.heap.size ≤ x ∧ x < w10.heap.size ∧ x ≠ r := fun x hx => by have := HG7.out x hx; exact ⟨this.1, by omega, this.2.2⟩
                          have hsu2 := HLV.out.1.rung.sure
                          have hwm := whole_more HLV.out.1.ended (R2.last + 1) rec
                          rw [← hwm] at km10
                          have hwl2 : (whole [] (ps2 ++ cut (R2.last + 1) rec)).length = (whole [] ps2).length + 1 := by rw [hwm, List.length_append, List.length_singleton]
                          rw [← List.take_append_of_le_length (l₂ := cut (R2.last + 1) rec) hsu2] at km10
                          obtain ⟨n1, hn1⟩ : ∃ n1, n1 = (whole [] ps2).length + 1 := ⟨_, rfl⟩
                          rw [← hn1] at hwl2 km10 ⊢
                          have d1 : w10.cell? ⟨gs, 1, none⟩ = some (.slice As sy.length cs) := (row7 km10.cell).1 1
                          have hle1 : n1 ≤ c10 := by
                            obtain ⟨A', c', he, -, h, -⟩ := RowAt.of_own ho10
                            injection he with _ _ e2
                            omega
                          have KM10 := Lib.hid km10
                          have HPD10 := Lib.hid hpd10
                          have HRG10 := Lib.hid hrg10
                          have HB10 := Lib.hid hB10
                          have HG10 := Lib.hid hG10
                          have HWL2 := Lib.hid hwl2
                          have HN1 : n1 ≤ 10 + k := by omega
                          clear km10 hpd10 hrg10 hB10 hG10 hwm hwl2 hsu2 ho10 hg10 hat10 hn1 KM9 HRD9 HPD9 HRG9 HB9 HOWN9 HROW9
                          by_cases hks : k < sy.length
                          · have s1 : (k : Int) < (sy.length : Int) := by omega
                            obtain ⟨As', cs', hs', -, -, -, -, hcs⟩ := HSY.out.grow HB10.out
                            obtain ⟨bs, os, eAs, hcs⟩ := hcs (by omega)
                            injection hs' with es1 _ _
                            rw [eAs] at es1
                            subst es1
                            obtain ⟨sb, hsb⟩ : ∃ sb, sy[k]? = some sb := ⟨sy[k], List.getElem?_eq_getElem hks⟩
                            have ks : w10.cell? ⟨bs, os + k, none⟩ = some (.bool sb) := hcs k (.bool sb) (by unfold KS; rw [List.getElem?_map, hsb]; rfl)
                            clear hsb hcs hks eAs
                            cases sb with
                            | false =>
                              have hnx : KInv w w10 W1 gs r q C base1 #[.slice (some ⟨bl, ol, none⟩) lens.length cl, .slice (some ⟨bs, os, none⟩) sy.length cs, .int .i64 fz, .slice Ak kp.length ck, .bool em] (k + 1) u8 (.slice A10 n1 c10) := ⟨More G2 w6 w7, More S2 w6 w7, D', R', _, s2, _, HPD10.out, F2.out.mono (by omega), L2.out, HG10.out, HRG10.out, Q1.out, Q2.out, Q3.out, by rw [HWL2.out]; omega, .inl ⟨HL.out, q4⟩, KM10.out, HB10.out⟩
                              have HNX := Lib.hid hnx
                              clear hnx
                              go_wp2_with fail
                              exact ⟨⟨k + 1, by go_num, by omega, HNX⟩, by simp [intOf]; omega⟩
                            | true =>
                              have hs1 : ∀ W, (Instr.sliceAt 28 (.slice A10 n1 c10) none (some (.int .i64 (n1 : Int))) none).run Try.prog W = .ok (.slice A10 n1 c10) W := fun W => (sliceAt_lists W _ _ _ _).trans (lists_till W _ _ _ _ _ rfl hle1)
                              have hs2 : ∀ W, (Instr.slice 28 (.slice A10 n1 c10) none (some (.int .i64 (n1 : Int))) none).run Try.prog W = .ok (.slice A10 n1 c10) W := fun W => lists_till W _ _ _ _ _ rfl hle1
                              have cY := psync_any HRG10.out HPD10.out (F2.out.fine (by omega))
                              have f3 := fit_flush F2.out
                              have l3 := flush_len D'
                              rcases HL.out.sync with ⟨D3, e3, hl3⟩ | ⟨D3, e3, hd3, hl3⟩
                              · rw [e3] at cY f3 l3
                                have F3 := Lib.hid f3
                                have L3 := Lib.hid (l3.trans L2.out)
                                have HL3 := Lib.hid hl3
                                clear e3 f3 l3 hl3
                                go_wp2_with fail
                                refine cY.mono ?_
                                rintro e w11 ⟨rfl, hk11, hd11⟩
                                clear cY
                                have hs11 := hk11.size
                                have km11 := (KM10.out.moved (w' := w11) (G' := More (More G2 w6 w7) w10 w11) hs11 (fun x hl hn _ => hk11.block x hl (fun h => hn h.1)) (fun x h => Or.elim (show More G2 w6 w7 x ∨ (w10.heap.size ≤ x ∧ x < w11.heap.size) from h) .inl (fun h => .inr h.1))).synced
                                have hnx : KInv w w11 W1 gs r q C base1 #[.slice (some ⟨bl, ol, none⟩) lens.length cl, .slice (some ⟨bs, os, none⟩) sy.length cs, .int .i64 fz, .slice Ak kp.length ck, .bool em] (k + 1) (.slice A10 n1 c10) (.slice A10 n1 c10) := by
                                  refine ⟨More (More G2 w6 w7) w10 w11, More (More S2 w6 w7) w10 w11, D3, R', _, _, _, hd11, F3.out.mono (by omega), L3.out, fun x hx => ?_, HRG10.out.kept (hk11.block r HRG10.out.lt (fun h => (HG10.out r h.1).2.2 rfl)), Q1.out, Q2.out, Q3.out, by rw [HWL2.out]; omega, .inl ⟨HL3.out, q4⟩, by rw [List.take_length]; exact km11, HB10.out.trans (hk11.below HB10.out.size (fun x hx => (HG10.out x hx.1).1))⟩
                                  have := HRG10.out.lt
                                  have := HB10.out.size
                                  exact hx.elim (fun h => by have := HG10.out x h; exact ⟨this.1, by omega, this.2.2⟩) (fun h => ⟨by omega, h.2, by omega⟩)
                                have HNX := Lib.hid hnx
                                clear hnx km11 hk11 hd11
                                go_wp2_with fail
                                exact ⟨⟨k + 1, by go_num, by omega, HNX⟩, by simp [intOf]; omega⟩
                              · rw [e3] at cY f3 l3
                                have F3 := Lib.hid f3
                                have L3 := Lib.hid (l3.trans L2.out)
                                have HL3 := Lib.hid hl3
                                have HD3 := Lib.hid hd3
                                clear e3 f3 l3 hl3 hd3
                                go_wp2_with fail
                                refine cY.mono ?_
                                rintro e w11 ⟨rfl, hk11, hd11⟩
                                clear cY
                                have hs11 := hk11.size
                                have km11 := (KM10.out.moved (w' := w11) (G' := More (More G2 w6 w7) w10 w11) hs11 (fun x hl hn _ => hk11.block x hl (fun h => hn h.1)) (fun x h => Or.elim (show More G2 w6 w7 x ∨ (w10.heap.size ≤ x ∧ x < w11.heap.size) from h) .inl (fun h => .inr h.1)))
                                have hnx : KInv w w11 W1 gs r q C base1 #[.slice (some ⟨bl, ol, none⟩) lens.length cl, .slice (some ⟨bs, os, none⟩) sy.length cs, .int .i64 fz, .slice Ak kp.length ck, .bool em] (k + 1) u8 (.slice A10 n1 c10) := by
                                  refine ⟨More (More G2 w6 w7) w10 w11, More (More S2 w6 w7) w10 w11, D3, R', _, s2, _, hd11, F3.out.mono (by omega), L3.out, fun x hx => ?_, HRG10.out.kept (hk11.block r HRG10.out.lt (fun h => (HG10.out r h.1).2.2 rfl)), Q1.out, Q2.out, Q3.out, by rw [HWL2.out]; omega, .inr ⟨HD3.out, ?_⟩, km11, HB10.out.trans (hk11.below HB10.out.size (fun x hx => (HG10.out x hx.1).1))⟩
                                  · have := HRG10.out.lt
                                    have := HB10.out.size
                                    exact hx.elim (fun h => by have := HG10.out x h; exact ⟨this.1, by omega, this.2.2⟩) (fun h => ⟨by omega, h.2, by omega⟩)
                                  · have := HL3.out
                                    rwa [Q1.out, Q2.out, Q3.out] at this
                                have HNX := Lib.hid hnx
                                clear hnx km11 hk11 hd11
                                go_wp2_with fail
                                exact ⟨⟨k + 1, by go_num, by omega, HNX⟩, by simp [intOf]; omega⟩
                          · have s1 : ¬ (k : Int) < (sy.length : Int) := by omega
                            have hnx : KInv w w10 W1 gs r q C base1 #[.slice (some ⟨bl, ol, none⟩) lens.length cl, .slice As sy.length cs, .int .i64 fz, .slice Ak kp.length ck, .bool em] (k + 1) u8 (.slice A10 n1 c10) := ⟨More G2 w6 w7, More S2 w6 w7, D', R', _, s2, _, HPD10.out, F2.out.mono (by omega), L2.out, HG10.out, HRG10.out, Q1.out, Q2.out, Q3.out, by rw [HWL2.out]; omega, .inl ⟨HL.out, q4⟩, KM10.out, HB10.out⟩
                            have HNX := Lib.hid hnx
                            clear hnx
                            go_wp2_with fail
                            exact ⟨⟨k + 1, by go_num, by omega, HNX⟩, by simp [intOf]; omega⟩
                      · as_aux_lemma =>
                          have f' := fit_append (R := R2) HFIT2.out rec
                          have l' := append_len D2 R2 rec
                          rw [e'] at cA f' l'
                          rw [HRL.out] at f'
                          have F2 := Lib.hid f'
                          have L2 := Lib.hid (l'.trans HLEN2.out)
                          clear f' l' e'
                          have HL := Lib.hid hl'
                          have HDE := Lib.hid hd'
                          clear hl' hd'
                          go_wp2_with fail
                          refine cA.mono ?_
                          rintro e w7 ⟨rfl, hk7, hd7, hrg7⟩
                          clear cA
                          have hs7 := hk7.size
                          have hrW : r < W1 := HKM.out.rlow
                          have hB7 : Below w.heap.size w w7 := by
                            have t := HBEL2.out.trans (Joins.below_le HB6.out HBEL2.out.size)
                            exact t.trans (hk7.below t.size (fun x hx => hx.elim (fun h => (HG2.out x h.1).1) (fun h => by have := HRW.out; omega)))
                          have hold7 : ∀ x, x < wy.heap.size → ¬ G2 x → x ≠ r → w7.heap[x]? = wy.heap[x]? := fun x hl hn hr => (hk7.block x (by omega) (fun h => h.elim (fun h => hn h.1) hr)).trans (HB6.out.block x hl)
                          have hG7 : ∀ x, More G2 w6 w7 x → w.heap.size ≤ x ∧ x < w7.heap.size ∧ x ≠ r := fun x hx => hx.elim (fun h => by have := HG2.out x h; exact ⟨this.1, by omega, this.2.2⟩) (fun h => ⟨by omega, h.2, by omega⟩)
                          have hgG7 : ¬ More G2 w6 w7 g := fun h => h.elim (fun h => by have := HG2.out g h; have := HGE.out; omega) (fun h => by omega)
                          have hgr7 : g ≠ r := by have := HGE.out; omega
                          have hro7 : w7.ownsRow g 5 1 (.slice (some ⟨g, 0, none⟩) m m) m (BS rec) := row_same hro.out fun x hx => by
                            have h1 : g = x := Option.some.inj hx
                            subst h1
                            exact hk7.block g hgl6 (fun h => h.elim (fun h => by have := HG2.out g h.1; have := HGE.out; omega) hgr7)
                          have hb79 : Below w7.heap.size w7 (w7.alloc (.cells #[Value.slice (some ⟨g, 0, none⟩) m m] 39)) := (Below.refl _ _).alloc (Nat.le_refl _) _
                          have hro9 : (w7.alloc (.cells #[Value.slice (some ⟨g, 0, none⟩) m m] 39)).ownsRow g 5 1 (.slice (some ⟨g, 0, none⟩) m m) m (BS rec) := row_same hro7 fun x hx => hb79.block x (hro7.lt x hx).2
                          have hrow9 : RowAt (w7.alloc (.cells #[Value.slice (some ⟨g, 0, none⟩) m m] 39)) (.slice (some ⟨w7.heap.size, 0, none⟩) 1 1) 1 1 [Value.slice (some ⟨g, 0, none⟩) m m] :=
                            RowAt.of_own (World.ownsRow_lit (base := 0) (e := 39) (size := 1) w7 #[Value.slice (some ⟨g, 0, none⟩) m m] 1 (Nat.zero_le _) (by unfold maxLen; omega) rfl)
                          have hsz9 : (w7.alloc (.cells #[Value.slice (some ⟨g, 0, none⟩) m m] 39)).heap.size = w7.heap.size + 1 := by simp
                          have km9 := HKM.out.moved (w' := w7.alloc (.cells #[Value.slice (some ⟨g, 0, none⟩) m m] 39)) (G' := More G2 w6 w7) (by omega) (fun x hl hn hr => (hb79.block x (by omega)).trans (hold7 x hl hn hr)) (fun x h => Or.elim (show G2 x ∨ (w6.heap.size ≤ x ∧ x < w7.heap.size) from h) .inl (fun h => .inr (by omega)))
                          have hrd9 : RdN (w7.alloc (.cells #[Value.slice (some ⟨g, 0, none⟩) m m] 39)) (NN (w7.alloc (.cells #[Value.slice (some ⟨g, 0, none⟩) m m] 39)) W1 r (More G2 w6 w7)) (.slice (some ⟨g, 0, none⟩) m m) rec := RdN.own hro9 (fun x hx => by
                            have h1 : g = x := Option.some.inj hx
                            subst h1
                            exact ⟨hgG7, hgr7, .inr (row_type hro9 rfl)⟩)
                          have hpd9 : PD (w7.alloc (.cells #[Value.slice (some ⟨g, 0, none⟩) m m] 39)) (More G2 w6 w7) (More S2 w6 w7) q D' := hd7.kept (fun _ h => h) (fun _ h => h) (fun b hb _ => hb79.block b hb) (fun b _ _ hb => hb79.block b hb)
                          have hrg9 := hrg7.kept (hb79.block r hrg7.lt)
                          have hb9 := hB7.trans (Joins.below_le hb79 hB7.size)
                          have hbase9 := km9.base
                          have KM9 := Lib.hid km9
                          have HRD9 := Lib.hid hrd9
                          have HPD9 := Lib.hid hpd9
                          have HRG9 := Lib.hid hrg9
                          have HB9 := Lib.hid hb9
                          have HOWN9 := Lib.hid km9.own
                          have HROW9 := Lib.hid hrow9
                          have HSZ9 := Lib.hid hsz9
                          have HG7 := Lib.hid hG7
                          clear km9 hrd9 hpd9 hrg9 hb9 hrow9 hsz9 hro9 hro7 hb79 hold7 hB7 hk7 hd7 hrg7 hgG7 hgr7 hG7
                          go_upto_region 34 with (at_builtin; go_must (refine wpList_appOn rfl (.tmp 153) (.tmp 155) 28 rfl W1 39 ib _ 1 24 Try.underlying28 hib hzb0 hzb1 hzb2 rfl (by decide) _ _ (whole [] ps2).length xs2 1 [Value.slice (some ⟨g, 0, none⟩) m m] rfl rfl HOWN9.out HROW9.out (fun u hu => by simp at hu; rw [hu]; rfl) (by unfold maxLen; omega) (by omega) hbase9 ?_; intro A10 c10 w10 ho10 hg10 hat10))
                          have hs10 := hg10.size
                          have hs9 := HSZ9.out
                          have km10 := KM9.out.push (fun x hx => by have := (HG7.out x hx).2.1; omega) HRD9.out ho10 hg10 hat10
                          have hpd10 : PD w10 (More G2 w6 w7) (More S2 w6 w7) q D' := HPD9.out.kept (fun _ h => h) (fun _ h => h) (fun x hx hm => hg10.block x hx (fun e => KM9.out.out x e.symm hm.1)) (fun x _ hi hx => hg10.block x hx (fun e => by
                            obtain ⟨cs', hcs⟩ := hi
                            obtain ⟨cur, hcur⟩ := row_type HOWN9.out e.symm
                            rw [hcs] at hcur
                            injection hcur with hcur
                            injection hcur with _ hcur
                            exact absurd hcur (by decide)))
                          have hrg10 := HRG9.out.kept (hg10.block r HRG9.out.lt (fun e => by have := (HOWN9.out.lt r e.symm).1; omega))
                          have hB10 := HB9.out.grown hg10 HB9.out.size (fun x hx => by have := (HOWN9.out.lt x hx).1; have := HBEL2.out.size; have := HRW.out; omega)
                          have hG10 : ∀ x, More G2 w6 w7 x → w.heap.size ≤ x ∧ x < w10.heap.size ∧ x ≠ r := fun x hx => by have := HG7.out x hx; exact ⟨this.1, by omega, this.2.2⟩
                          have hsu2 := HLV.out.1.rung.sure
                          have hwm := whole_more HLV.out.1.ended (R2.last + 1) rec
                          rw [← hwm] at km10
                          have hwl2 : (whole [] (ps2 ++ cut (R2.last + 1) rec)).length = (whole [] ps2).length + 1 := by rw [hwm, List.length_append, List.length_singleton]
                          rw [← List.take_append_of_le_length (l₂ := cut (R2.last + 1) rec) hsu2] at km10
                          have hnx : KInv w w10 W1 gs r q C base1 #[.slice (some ⟨bl, ol, none⟩) lens.length cl, .slice As sy.length cs, .int .i64 fz, .slice Ak kp.length ck, .bool em] (k + 1) u8 (.slice A10 ((whole [] ps2).length + 1) c10) := by
                            refine ⟨More G2 w6 w7, More S2 w6 w7, D', R2, _, s2, _, hpd10, F2.out.mono (by omega), L2.out, hG10, hrg10, HR3.out, HRC.out, HRB.out, by rw [hwl2]; omega, .inr ⟨HDE.out, ?_⟩, km10, hB10⟩
                            have := HL.out
                            rwa [HR3.out, HRC.out, HRB.out] at this
                          have HNX := Lib.hid hnx
                          clear hnx km10 hpd10 hrg10 hB10 hG10 hwm hwl2 hsu2 ho10 hg10 hat10
                          go_wp2_with fail
                          exact ⟨⟨k + 1, by go_num, by omega, HNX⟩, by simp [intOf]; omega⟩
                · have HKM := Lib.hid hkm
                  have HPD2 := Lib.hid hpd
                  have HFIT2 := Lib.hid hfit
                  have HLEN2 := Lib.hid hlen
                  have HG2 := Lib.hid hG2
                  have HBEL2 := Lib.hid hbel
                  have HST := Lib.hid hst
                  have HR3 := Lib.hid hR3
                  have HRC := Lib.hid hRC
                  have HRB := Lib.hid hRB
                  have e3 : wy.cell? ⟨gs, 3, none⟩ = some (.slice Ak kp.length ck) := (row7 hkm.cell).1 3
                  clear hkm hpd hfit hlen hG2 hbel hst hR3 hRC hRB hki hrg
                  obtain ⟨dd, hdd2⟩ : ∃ dd, dd = D2.dead := ⟨_, rfl⟩
                  rw [← hdd2] at cD hgo
                  have HD2 := Lib.hid hdd2
                  clear hdd2
                  go_upto_region 24 with fail
                  go_cut [116] (fun c wx => wx = wy ∧ c = .bool false)
                  case first =>
                    by_cases t1 : k < lens.length
                    · have i1 : (k : Int) < (lens.length : Int) := by omega
                      by_cases t2 : k < 20
                      · have i2 : (k : Int) < 20 := by omega
                        have hddt : dd = true := by
                          cases dd with
                          | true => rfl
                          | false => exact absurd ⟨t1, t2, rfl⟩ hgo
                        subst hddt
                        clear hgo t1 t2
                        go_wp2_with fail
                        refine cD.mono ?_
                        rintro e wq ⟨rfl, rfl⟩
                        go_wp2_with fail
                        go_meet
                        exact ⟨rfl, rfl⟩
                      · have i2 : ¬ (k : Int) < 20 := by omega
                        clear hgo t1 t2
                        go_wp2_with fail
                        go_meet
                        exact ⟨rfl, rfl⟩
                    · have i1 : ¬ (k : Int) < (lens.length : Int) := by omega
                      clear hgo t1
                      go_wp2_with fail
                      go_meet
                      exact ⟨rfl, rfl⟩
                  case rest =>
                    obtain ⟨hwc, rfl⟩ := hcut
                    have hwd := hwc.symm
                    clear hwc hgo
                    subst hwd
                    go_upto_region 38 with fail
                    go_cut [190] (fun c wx => c = .bool false ∧ Hid (LInv w wx W1 gs r q C base1 #[.slice Al lens.length cl, .slice As sy.length cs, .int .i64 fz, .slice Ak kp.length ck, .bool em] u8 (.slice A15 (whole [] ps2).length c15) ps2 s2))
                    case first =>
                      as_aux_lemma =>
                        cases dd with
                        | true =>
                          have hlf : Left D2 3 C base1 ps2 s2 := HST.out.elim (fun h => by have h1 := h.1.rung.live; rw [← HD2.out] at h1; cases h1) (fun h => h.2)
                          have hli : LInv w wy W1 gs r q C base1 #[.slice Al lens.length cl, .slice As sy.length cs, .int .i64 fz, .slice Ak kp.length ck, .bool em] u8 (.slice A15 (whole [] ps2).length c15) ps2 s2 := ⟨G2, S2, D2, _, xs2, HPD2.out, HD2.out.symm, HFIT2.out, HLEN2.out, hlf, HKM.out, HBEL2.out⟩
                          have HLI := Lib.hid hli
                          clear hli hlf
                          go_wp2_with fail
                          refine cD.mono ?_
                          rintro e wq ⟨rfl, rfl⟩
                          go_wp2_with fail
                          go_meet
                          exact ⟨rfl, HLI⟩
                        | false =>
                          have hlv : Live D2 R2 ps2 s2 := HST.out.elim (fun h => h.1) (fun h => by have h1 := h.1; rw [← HD2.out] at h1; cases h1)
                          obtain ⟨D3, e3', hd3, hl3⟩ := hlv.crashed kp
                          have cC := pCrash_any G2 S2 q D2 (.slice Ak kp.length ck) kp wy HPD2.out (HKP.out.grow HBEL2.out) (by omega) (HFIT2.out.fine (by omega))
                          have f3 := fit_crashed HFIT2.out kp
                          have l3 := crashed_len D2 kp
                          rw [e3'] at cC f3 l3
                          rw [HR3.out, HRC.out, HRB.out] at hl3
                          have F3 := Lib.hid f3
                          have L3 := Lib.hid (l3.trans HLEN2.out)
                          have HL3 := Lib.hid hl3
                          have HD3 := Lib.hid hd3
                          clear e3' f3 l3 hl3 hd3 hlv
                          go_wp2_with fail
                          refine cD.mono ?_
                          rintro e wq ⟨rfl, rfl⟩
                          go_wp2_with fail
                          refine cC.mono ?_
                          rintro e w12 ⟨rfl, hk12, hd12⟩
                          have hs12 := hk12.size
                          have hli : LInv w w12 W1 gs r q C base1 #[.slice Al lens.length cl, .slice As sy.length cs, .int .i64 fz, .slice Ak kp.length ck, .bool em] u8 (.slice A15 (whole [] ps2).length c15) ps2 s2 := ⟨More G2 wy w12, More S2 wy w12, D3, _, xs2, hd12, HD3.out, F3.out, L3.out, HL3.out, HKM.out.moved hs12 (fun x hl hn _ => hk12.block x hl (fun h => hn h.1)) (fun x h => Or.elim (show G2 x ∨ (wy.heap.size ≤ x ∧ x < w12.heap.size) from h) .inl (fun h => .inr h.1)), HBEL2.out.trans (hk12.below HBEL2.out.size (fun x hx => (HG2.out x hx.1).1))⟩
                          have HLI := Lib.hid hli
                          clear hli hk12 hd12 cC
                          go_wp2_with fail
                          go_meet
                          exact ⟨rfl, HLI⟩
                    case rest =>
                      as_aux_lemma =>
                        obtain ⟨rfl, hli⟩ := hcut
                        obtain ⟨w12, hw12⟩ : ∃ w12 : World, w12 = wc := ⟨_, rfl⟩
                        subst hw12
                        obtain ⟨G3, S3, D3, k3, xs3, hpd, hdd3, hfit, hlen, hleft, hkm, hbel⟩ := hli.out
                        have cRe := pReopen_any G3 S3 q D3 w12 hpd (by omega)
                        simp only [hdd3, ↓reduceIte] at cRe
                        have hsw := hbel.size
                        have FA := Lib.hid (fit_again hfit)
                        have HLEN3 := Lib.hid hlen
                        have HLEFT := Lib.hid hleft
                        have HKM3 := Lib.hid hkm
                        have HBEL3 := Lib.hid hbel
                        have hwl3 : (whole [] ps2).length ≤ 29 := by omega
                        clear hli hpd hdd3 hfit hlen hleft hkm hbel HKM HPD2 HFIT2 HLEN2 HG2 HBEL2 HST HD2 cD e3 e0
                        go_wp2_with fail
                        refine cRe.mono ?_
                        rintro e w13 ⟨hb13, q', rfl, hd13⟩
                        clear cRe
                        have hs13 := hb13.size
                        have cO := popen_any hd13 (FA.out.fine (by omega)) (fun b hb => hb.2) rfl 3 C base1 hC1 (by show 3 + C ≤ D3.lasts.length; rw [HLEN3.out]; omega) (by show D3.lasts.length ≤ 65536; rw [HLEN3.out]; omega) hbase1
                        have HD13 := Lib.hid hd13
                        have HB13 := Lib.hid hb13
                        clear hd13 hb13
                        go_wp2_with fail
                        refine cO.mono ?_
                        rintro e w14 ⟨r', v22, rfl, hb14, hr14, -, hll14⟩
                        clear cO
                        have hs14 := hb14.size
                        obtain ⟨t1, t2⟩ := HLEFT.out.again
                        obtain ⟨L2, hL2⟩ : ∃ L2, L2 = inRing D3.again 3 C base1 := ⟨_, rfl⟩
                        have hL2l : L2.length ≤ 9 := by rw [hL2]; have := inRing_length D3.again 3 C base1; omega
                        rw [← hL2] at t1 t2 hll14
                        obtain ⟨A22, c22, rfl⟩ : ∃ A c, v22 = .slice A L2.length c := by
                          obtain ⟨xs, he, A0, c0, hv, -⟩ := hll14
                          exact ⟨A0, c0, hv⟩
                        have hb1214 : Below w12.heap.size w12 w14 := HB13.out.trans (Joins.below_le hb14 hs13)
                        have hall : LL w12 (.slice A15 (whole [] ps2).length c15) (whole [] ps2) := (LLN.own (M := fun _ => True) HKM3.out.own HKM3.out.els (fun _ _ => trivial)).ll
                        have cB1 := begins_yes L2 (whole [] (ps2.take s2)) _ u8 w14 hll14.ll (HKM3.out.sure.kept (fun _ _ _ => trivial) (fun _ _ _ => trivial) hb1214.size (fun b _ hb => hb1214.block b hb)) t1 (by omega)
                        have hallk : ∀ n, LL (w14.drewN n) (.slice A15 (whole [] ps2).length c15) (whole [] ps2) := fun n => hall.kept (fun _ _ _ => trivial) (fun _ _ _ => trivial) hb1214.size (fun b _ hb => hb1214.block b hb)
                        have cB2 := fun n => begins_yes (whole [] ps2) L2 (.slice A15 (whole [] ps2).length c15) (.slice A22 L2.length c22) (w14.drewN n) (hallk n) (hll14.ll.drew n) t2 (by omega)
                        have HL2 := Lib.hid hL2
                        have HLL14 := Lib.hid hll14
                        have HB14 := Lib.hid hb14
                        have HCB2 := Lib.hid cB2
                        clear hL2 hll14 hb14 hb1214 hall hallk t1 t2 cB2
                        go_wp2_with fail
                        refine cB1.mono ?_
                        rintro e w15 ⟨rfl, kx, rfl⟩
                        clear cB1
                        have cB2 := HCB2.out kx
                        clear HCB2
                        obtain ⟨w15, hw15⟩ : ∃ w15, w15 = w14.drewN kx := ⟨_, rfl⟩
                        rw [← hw15] at cB2 ⊢
                        have hb15 : Below w14.heap.size w14 w15 := by rw [hw15]; exact ⟨rfl, rfl, rfl, Nat.le_refl _, fun _ _ => rfl⟩
                        have HB15 := Lib.hid hb15
                        have hs15 := hb15.size
                        clear hw15 hb15
                        go_wp2_with fail
                        refine cB2.mono ?_
                        rintro e w16 ⟨rfl, ky, rfl⟩
                        clear cB2
                        obtain ⟨w16, hw16⟩ : ∃ w16, w16 = w15.drewN ky := ⟨_, rfl⟩
                        rw [← hw16]
                        have hb16 : Below w15.heap.size w15 w16 := by rw [hw16]; exact ⟨rfl, rfl, rfl, Nat.le_refl _, fun _ _ => rfl⟩
                        have hs16 := hb16.size
                        have hb1416 : Below w14.heap.size w14 w16 := HB15.out.trans (Joins.below_le hb16 hs15)
                        have hb1316 : Below w13.heap.size w13 w16 := HB14.out.trans (Joins.below_le hb1416 hs14)
                        have hci : CInv w w16 q' C base1 (.slice A22 L2.length c22) :=
                          ⟨Made w12 w13, S3, D3.again, L2, HD13.out.kept (fun _ h => h) (fun _ h => h) (fun b hb _ => hb1316.block b hb) (fun b _ _ hb => hb1316.block b hb), rfl, rfl, FA.out, HLEN3.out, fun x hx => ⟨by have := hx.1; omega, by have := hx.2; omega⟩, hbase1, HLL14.out.kept (fun x hx _ h => by have := h.2; omega) (fun x hx _ h => by have := h.2; omega) hb1416.size (fun b _ hb => hb1416.block b hb), by rw [HL2.out]; exact List.prefix_refl _, by
                            have t1 := HBEL3.out.trans (Joins.below_le HB13.out HBEL3.out.size)
                            exact t1.trans (Joins.below_le hb1316 t1.size)⟩
                        have HCI := Lib.hid hci
                        clear hci hw16 hb16 hb1416 hb1316 HLL14 HD13
                        go_wp2_with fail
                        exact ⟨⟨q', base1, j + 1, rfl, rfl, by go_num, hjl, HCI⟩, by simp [intOf]; omega⟩
      · have a1 : ¬ (j : Int) < (l.length : Int) := by omega
        have HBEL := Lib.hid hbel
        clear hpd hdd hdw hfit hlen hG hsure hpre hbel hinv
        go_wp2_with fail
        go_ret
        exact ⟨rfl, HBEL.out⟩
end Go.Proofs.Ytplpfhgdanclhaa
