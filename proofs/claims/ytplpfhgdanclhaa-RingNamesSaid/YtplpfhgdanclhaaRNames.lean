/-
  RingNames, walked: the examples; nobody's ring; the greatest numbers. No condition.
-/
import Derived.Test.YtplpfhgdanclhaaRAwakeW
namespace Go.Proofs.Ytplpfhgdanclhaa
open Go.RowKit

theorem pappend_nil (v : Value) (l : List UInt8) (w : World) (hv : Rd w w.heap.size v l) (hl : l.length < 140737488355328) : Calls Try.prog 13 #[.pointer none, v] w fun e w' => e = .returned (.int .i64 2) ∧ w = w' := by
  obtain ⟨A, cp, rfl, -⟩ := hv
  go_enter Try.func13, Try.ntmps13
  go_wp2_with fail
  refine (ppieces_any l.length w (by omega)).mono ?_
  rintro e w1 ⟨rfl, rfl⟩
  go_wp2_with fail
  refine (prefuse_nil _ w).mono ?_
  rintro e w1 ⟨rfl, rfl⟩
  go_wp2_with fail
  go_ret
  exact ⟨rfl, rfl⟩

theorem pieces_c (n : Nat) (z x : Int) (w : World) (hz : z = (n : Int)) (hn : n ≤ 9223372036854775807) (hx : x = ((pieces n : Nat) : Int)) : Calls Try.prog 24 #[.int .i64 z] w fun e w' => e = .returned (.int .i64 x) ∧ w = w' := by
  subst hz
  subst hx
  exact ppieces_any n w hn

/-- a ring and its disk, all above block B -/
def Mine (B : Nat) (w : World) (r q : Nat) (R : RG) (D : DS) : Prop := B ≤ w.heap.size ∧ ∃ G S, PD w G S q D ∧ (∀ b, G b → B ≤ b ∧ b < w.heap.size ∧ b ≠ r) ∧ RgAt w r q R ∧ B ≤ r
theorem Mine.grow {B : Nat} {w w' : World} {r q : Nat} {R : RG} {D : DS} (h : Mine B w r q R D) (hb : Below w.heap.size w w') : Mine B w' r q R D := by
  obtain ⟨hB, G, S, h1, h2, h3, h4⟩ := h
  have := hb.size
  exact ⟨by omega, G, S, h1.kept (fun _ h => h) (fun _ h => h) (fun b hb' _ => hb.block b hb') (fun b _ _ hb' => hb.block b hb'), fun b hb' => by have := h2 b hb'; exact ⟨this.1, by omega, this.2.2⟩, h3.kept (hb.block r h3.lt), h4⟩
theorem mine_append {B k : Nat} {w w1 : World} {r q : Nat} {R : RG} {D : DS} (h : Mine B w r q R D) (hR : R.fine) (hF : Fit D k) (hb : Below w.heap.size w w1) (rec : List UInt8) (v : Value) (hv : RdN w1 (fun x => w.heap.size ≤ x) v rec) (hl : rec.length < 140737488355328) (hk : k + pieces rec.length < 1000000) :
    Calls Try.prog 13 #[.pointer (some ⟨r, 0, none⟩), v] w1 fun e w' => e = .returned (.int .i64 (appendOf D R rec).1) ∧ Below B w w' ∧ Mine B w' r q (appendOf D R rec).2.2 (appendOf D R rec).2.1 := by
  obtain ⟨hB, G, S, h1, h2, h3, h4⟩ := h
  have hs := hb.size
  have h1' : PD w1 G S q D := h1.kept (fun _ h => h) (fun _ h => h) (fun b hb' _ => hb.block b hb') (fun b _ _ hb' => hb.block b hb')
  refine (pappend_any (h3.kept (hb.block r h3.lt)) hR h1' hF (fun b hb' => by have := h2 b hb'; exact ⟨by omega, this.2.2⟩) rec v (hv.mono (fun x hx _ hm => by have := h2 x hm; omega)) hl hk).mono ?_
  rintro e w' ⟨he, hk', hd, hr⟩
  have hs' := hk'.size
  refine ⟨he, (hb.mono hB).trans (hk'.below (by omega) (fun b hb' => ?_)), by omega, _, _, hd, fun b hb' => ?_, hr, h4⟩
  · rcases hb' with hh | hh
    · exact (h2 b hh.1).1
    · omega
  · rcases hb' with hh | hh
    · have := h2 b hh; exact ⟨this.1, by omega, this.2.2⟩
    · refine ⟨by omega, hh.2, ?_⟩
      have := h3.lt
      omega
theorem mine_open {B k : Nat} {w : World} {r q : Nat} {R : RG} {D : DS} (h : Mine B w r q R D) (hF : Fit D k) (hk : k < 1000000) (hdead : D.dead = false) (first count base : Nat) (hc : 1 ≤ count) (hl : first + count ≤ D.lasts.length) (hll : D.lasts.length ≤ 65536) (hb : base ≤ 4611686018427387904) :
    Calls Try.prog 8 #[.pointer (some ⟨q, 0, none⟩), .int .i64 (first : Int), .int .i64 (count : Int), .int .i64 (base : Int)] w fun e w' => ∃ r' v, e = .returned (.tuple #[.pointer (some ⟨r', 0, none⟩), v, .int .i64 0]) ∧ Below w.heap.size w w' ∧ Mine B w' r' q (opened D first count base) D ∧ LLN w' (fun x => r' < x) (fun x => r' < x) v (inRing D first count base) := by
  obtain ⟨hB, G, S, h1, h2, h3, h4⟩ := h
  refine (popen_any h1 (hF.fine hk) (fun b hb' => (h2 b hb').2.1) hdead first count base hc hl hll hb).mono ?_
  rintro e w' ⟨r', v, he, hb', hr', hrg, hll'⟩
  have hs := hb'.size
  exact ⟨r', v, he, hb', ⟨by omega, G, S, h1.kept (fun _ h => h) (fun _ h => h) (fun b hb'' _ => hb'.block b hb'') (fun b _ _ hb'' => hb'.block b hb''), fun b hb'' => by have := h2 b hb''; exact ⟨this.1, by omega, by omega⟩, hrg, by omega⟩, hll'⟩

def nB : Nat := 4611686018427387903
def nM : Nat := 4611686018427387904
def nR0 : RG := ⟨2, 4, nB, nB, nB⟩
def nR1 : RG := ⟨2, 4, nB, nM, nM⟩
def nE : RG := ⟨10, 10, nM, nM, nM⟩
theorem names_disks : ∃ D1, appendOf (DS.new 20) nR0 Z502 = (70, DS.new 20, nR0) ∧ appendOf (DS.new 20) nR0 [120] = (0, D1, nR1) ∧ appendOf D1 nR1 [120] = (70, D1, nR1) ∧ D1.dead = false ∧ Fit D1 1 ∧ D1.lasts.length = 20 ∧ opened D1 10 10 nM = nE ∧ inRing D1 10 10 nM = [] ∧ appendOf D1 nE [] = (70, D1, nE) := by
  have hll : (DS.new 20).lasts.length = 20 := List.length_replicate
  have k0 : Calm (DS.new 20) nR0 [] 0 := (new_blank 20 2 4 nB (by omega) (by omega) (by omega)).2.2
  have f0 : Fit (DS.new 20) 0 := Fit.new (by omega)
  have e0 := k0.refuse Z502 70 (by rw [z502_length]; decide) (by decide)
  have hp : pieces [(120 : UInt8)].length = 1 := rfl
  obtain ⟨D1, e1, k1⟩ := k0.append [120] (by decide) (by decide)
  have e1' : appendOf (DS.new 20) nR0 [120] = (0, D1, nR1) := e1
  have f1 := fit_append (R := nR0) f0 [120]
  have l1 := append_len (DS.new 20) nR0 [120]
  rw [e1'] at f1 l1
  have hl1 : D1.lasts.length = 20 := l1.trans hll
  -- what waits
  have hw := write_calm (D := DS.new 20) rfl rfl (i := 2) (b := Pc.sec ⟨nM, true, [120]⟩) (by rw [hll]; omega) (Pc.sec_length _ (by decide))
  have hD1 : D1 = ((DS.new 20).wrote 2 (Pc.sec ⟨nM, true, [120]⟩)).tick := by
    have h2 : refuseOf (DS.new 20).dead nR0 (pieces [(120 : UInt8)].length) = 0 := by decide
    have h3 : appendOf (DS.new 20) nR0 [120] = (0, ((DS.new 20).wrote 2 (Pc.sec ⟨nM, true, [120]⟩)).tick, nR1) := by
      unfold appendOf
      have hc : cut (nR0.last + 1) [120] = [⟨nM, true, [120]⟩] := cut_short _ (by decide)
      have hpa : (DS.new 20).putAll nR0.first nR0.count [⟨nM, true, [120]⟩] = (0, ((DS.new 20).wrote 2 (Pc.sec ⟨nM, true, [120]⟩)).tick) := by
        rw [DS.putAll]
        have hi : ((nR0.first + (Pc.mk nM true [120]).n % nR0.count : Nat) : Int) = ((2 : Nat) : Int) := by decide
        rw [hi, hw.1, if_pos rfl]
        rfl
      rw [h2, if_neg (by simp), hc, hpa, if_neg (by simp)]
      rfl
    rw [e1'] at h3
    exact congrArg (fun x => x.2.1) h3
  have hb : ∀ i, i < (seen D1 10 10).length → pcOf ((seen D1 10 10).getD i []) i (seen D1 10 10).length = none := fun i hi => by
    rw [seen_length (by rw [hl1]; decide)] at hi
    rw [seen_get (by rw [hl1]; decide) hi, hD1]
    show pcOf (if 2 = 10 + i then _ else (List.replicate 20 (List.replicate 512 (0 : UInt8))).getD (10 + i) []) i _ = none
    rw [if_neg (by omega), List.getD_eq_getElem?_getD, List.getElem?_replicate, if_pos (by omega)]
    exact zeros_none _ _
  have hs10 := seen_length (D := D1) (first := 10) (count := 10) (by rw [hl1]; decide)
  have hr := blank_run (by omega) hb 10 (nM + 1)
  have ht := blank_top hb nM 10 (by omega)
  refine ⟨D1, e0, e1', k1.refuse [120] 70 ?_ (by decide), k1.rung.live, f1, hl1, ?_, ?_, ?_⟩
  · rw [k1.rung.live]
    decide
  · unfold opened
    rw [hr, ht]
    rfl
  · unfold inRing
    rw [hr]
    rfl
  · unfold appendOf
    have : refuseOf D1.dead nE (pieces ([] : List UInt8).length) = 70 := by rw [k1.rung.live]; decide
    rw [this, if_pos (by decide)]

set_option maxHeartbeats 8000000 in
set_option maxRecDepth 100000 in
theorem names_walk (w : World) : Calls Try.prog 4 #[] w fun e w' => e = .returned (.bool true) ∧ Below w.heap.size w w' := by
  obtain ⟨D1, e0, e1, e2, d1, f1, hl1, o1, in1, e3⟩ := names_disks
  obtain ⟨o0, in0, -⟩ := new_blank 20 2 4 nB (by omega) (by omega) (by omega)
  have f0 : Fit (DS.new 20) 0 := Fit.new (by omega)
  have hll : (DS.new 20).lasts.length = 20 := List.length_replicate
  have hdd : (DS.new 20).dead = false := rfl
  obtain ⟨D0, hD0⟩ : ∃ D0, D0 = DS.new 20 := ⟨_, rfl⟩
  rw [← hD0] at e0 e1 o0 in0 f0 hll hdd
  have cN := pNew_yes 20 w (by omega) (by omega)
  rw [← hD0] at cN
  have E0 := Lib.hid e0
  have E1 := Lib.hid e1
  have E2 := Lib.hid e2
  have E3 := Lib.hid e3
  have O0 := Lib.hid o0
  have I0 := Lib.hid in0
  have O1 := Lib.hid o1
  have I1 := Lib.hid in1
  have F0 := Lib.hid f0
  have F1 := Lib.hid f1
  have fR0 : nR0.fine := ⟨by decide, by decide, by decide, by decide, by decide, by decide⟩
  have fR1 : nR1.fine := ⟨by decide, by decide, by decide, by decide, by decide, by decide⟩
  have fE : nE.fine := ⟨by decide, by decide, by decide, by decide, by decide, by decide⟩
  clear hD0 e0 e1 e2 e3 o0 in0 o1 in1 f0 f1
  go_enter Try.func4, Try.ntmps4
  go_wp2_with fail
  refine cN.mono ?_
  rintro e w1 ⟨hb1, q, rfl, hd1⟩
  clear cN
  have hs1 := hb1.size
  go_wp2_with fail
  refine (popen_nil _ _ _ w1).mono ?_
  rintro e w2 ⟨rfl, rfl⟩
  go_wp2_with fail
  refine (popen_arg hd1 (by omega) 2 19 0 (by omega) (by rw [hll]; omega)).mono ?_
  rintro e w2 ⟨rfl, rfl⟩
  have cO := popen_any hd1 (F0.out.fine (by omega)) (fun b hb => hb.2) hdd 2 4 nB (by omega) (by rw [hll]; omega) (by rw [hll]; omega) (by decide)
  rw [O0.out, I0.out] at cO
  go_wp2_with fail
  refine cO.mono ?_
  rintro e w2 ⟨r, v, rfl, hb2, hr2, hrg2, hll2⟩
  clear cO
  obtain ⟨xs, -, Av, cv, rfl, -⟩ := hll2
  have hs2 := hb2.size
  have hrl := hrg2.lt
  have hd2 : PD w2 (Made w w1) Nil q D0 := hd1.kept (fun _ h => h) (fun _ h => h) (fun b hb _ => hb2.block b hb) (fun b _ _ hb => hb2.block b hb)
  have hrg2 : RgAt w2 r q nR0 := hrg2
  have cR := proom_any hrg2 fR0
  rw [show nR0.room' = 4 by decide, show ((4 : Nat) : Int) = 4 from rfl] at cR
  have hm2 : Mine w.heap.size w2 r q nR0 D0 := ⟨by omega, Made w w1, Nil, hd2, fun b hb => ⟨hb.1, by have := hb.2; omega, by have := hb.2; omega⟩, hrg2, by omega⟩
  have HB2 := Lib.hid (hb1.trans (Joins.below_le hb2 hs1))
  have HM2 := Lib.hid hm2
  clear hd1 hd2 hrg2 hb1 hb2 hm2
  go_wp2_with fail
  refine cR.mono ?_
  rintro e w3 ⟨rfl, kk, rfl⟩
  clear cR
  obtain ⟨w3, hw3⟩ : ∃ w3, w3 = w2.drewN kk := ⟨_, rfl⟩
  have hb3 : Below w2.heap.size w2 w3 := by rw [hw3]; exact ⟨rfl, rfl, rfl, Nat.le_refl _, fun _ _ => rfl⟩
  rw [← hw3]
  have hm3 := HM2.out.grow hb3
  have HB3 := Lib.hid (HB2.out.trans (Joins.below_le hb3 (by omega)))
  obtain ⟨w4, hmk, hz4, hb4⟩ := made_noughts 502 (by omega) w3
  have hmk : (Instr.makeSlice 39 (.int .i64 502) (.int .i64 502)).run Try.prog w3 = .ok (.slice (some ⟨w3.heap.size, 0, none⟩) 502 502) w4 := hmk
  have cA := mine_append hm3 fR0 F0.out hb4 Z502 _ (RdN.own hz4 (fun b hb => by have h1 : w3.heap.size = b := Option.some.inj hb; omega)) (by rw [z502_length]; omega) (by rw [z502_length]; decide)
  rw [E0.out] at cA
  clear hw3 hb3 hm3 hz4 hb4
  go_wp2_with fail
  refine cA.mono ?_
  rintro e w5 ⟨rfl, hb5, hm5⟩
  clear cA hmk
  have HB5 := Lib.hid (HB3.out.trans hb5)
  obtain ⟨w6, hcv6, hr6, hb6⟩ := lit_bytes w5 #[.int .u8 120] [120] 1 rfl rfl (by unfold maxLen; decide)
  have cA := mine_append hm5 fR0 F0.out hb6 [120] _ hr6 (by decide) (by decide)
  rw [E1.out] at cA
  clear hb5 hm5 hr6 hb6
  go_wp2_with fail
  refine cA.mono ?_
  rintro e w7 ⟨rfl, hb7, hm7⟩
  clear cA hcv6
  have HB7 := Lib.hid (HB5.out.trans hb7)
  obtain ⟨w8, hcv8, hr8, hb8⟩ := lit_bytes w7 #[.int .u8 120] [120] 1 rfl rfl (by unfold maxLen; decide)
  have cA := mine_append hm7 fR1 F1.out hb8 [120] _ hr8 (by decide) (by decide)
  rw [E2.out] at cA
  clear hb7 hm7 hr8 hb8
  go_wp2_with fail
  refine cA.mono ?_
  rintro e w9 ⟨rfl, hb9, hm9⟩
  clear cA hcv8
  have HB9 := Lib.hid (HB7.out.trans hb9)
  have cO := mine_open hm9 F1.out (by omega) d1 10 10 nM (by omega) (by rw [hl1]; decide) (by rw [hl1]; decide) (by decide)
  rw [O1.out, I1.out] at cO
  clear hb9 hm9
  go_wp2_with fail
  refine cO.mono ?_
  rintro e w10 ⟨r10, v10, rfl, hb10, hm10, -⟩
  clear cO
  have HB10 := Lib.hid (HB9.out.trans (Joins.below_le hb10 HB9.out.size))
  have cA := mine_append hm10 fE F1.out (Below.refl _ _) [] _ (RdN.nil w10 _) (by decide) (by decide)
  rw [E3.out] at cA
  clear hb10 hm10
  go_wp2_with fail
  refine cA.mono ?_
  rintro e w11 ⟨rfl, hb11, hm11⟩
  clear cA
  have HB11 := Lib.hid (HB10.out.trans hb11)
  obtain ⟨hB11, G11, S11, hd11, -⟩ := hm11
  have cO := popen_arg hd11 (by rw [hl1]; decide) 0 1 4611686018427387905 (by omega) (by rw [hl1]; omega)
  clear hb11 hd11
  go_wp2_with fail
  refine cO.mono ?_
  rintro e w12 ⟨rfl, rfl⟩
  clear cO
  go_wp2_with fail
  refine (pieces_c 0 0 1 w11 rfl (by omega) (by decide)).mono ?_
  rintro e w12 ⟨rfl, rfl⟩
  go_wp2_with fail
  refine (pieces_c 501 501 1 w11 rfl (by omega) (by decide)).mono ?_
  rintro e w12 ⟨rfl, rfl⟩
  go_wp2_with fail
  refine (pieces_c 502 502 2 w11 rfl (by omega) (by decide)).mono ?_
  rintro e w12 ⟨rfl, rfl⟩
  go_wp2_with fail
  refine (pieces_c 1002 1002 2 w11 rfl (by omega) (by decide)).mono ?_
  rintro e w12 ⟨rfl, rfl⟩
  go_wp2_with fail
  refine (ppieces_no (-1) w11 (by omega)).mono ?_
  rintro e w12 ⟨rfl, rfl⟩
  go_wp2_with fail
  refine (pappend_nil _ [] w11 (Rd.nil _ _) (by decide)).mono ?_
  rintro e w12 ⟨rfl, rfl⟩
  go_wp2_with fail
  refine (psync_nil w11).mono ?_
  rintro e w12 ⟨rfl, rfl⟩
  go_wp2_with fail
  refine (pempty_nil w11).mono ?_
  rintro e w12 ⟨rfl, rfl⟩
  go_wp2_with fail
  refine (proom_nil w11).mono ?_
  rintro e w12 ⟨rfl, rfl⟩
  go_wp2_with fail
  refine (pbase_nil w11).mono ?_
  rintro e w12 ⟨rfl, rfl⟩
  go_wp2_with fail
  refine (plast_nil w11).mono ?_
  rintro e w12 ⟨rfl, rfl⟩
  go_wp2_with fail
  refine (ptop_nil w11).mono ?_
  rintro e w12 ⟨rfl, rfl⟩
  go_wp2_with fail
  refine (awake_any w11).mono ?_
  rintro e w12 ⟨rfl, hb12⟩
  go_wp2_with fail
  go_ret
  exact ⟨rfl, HB11.out.trans (Joins.below_le hb12 HB11.out.size)⟩
end Go.Proofs.Ytplpfhgdanclhaa
