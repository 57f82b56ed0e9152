/-
  The document's own disk: Crash, Read, Flush. Conditions: none but that it lies in memory and its lists are not too long.
-/
import Derived.Test.YthchnnddnjibmaaDRefB
namespace Go.Proofs.Ythchnnddnjibmaa
open Go.RowKit

set_option maxHeartbeats 1000000 in
theorem xCrash_any (F : Nat → Prop) (p : Nat) (D : DS) (vks : Value) (ks : List Bool) (w : World) (h : XD w F p D) (hok : D.ok) (hks : RowAt w vks ks.length 1 (KS ks)) (hne : 0 < ks.length → ∀ b, vks.ownBlock = some b → ¬ F b) (hlen : D.waits.length ≤ 1000000) (hll : D.lasts.length ≤ 1000000) :
    Calls Try.prog 28 #[.pointer (some ⟨p, 0, none⟩), vks] w fun e w' => e = .returned (.int .i64 (D.crashed ks).1) ∧ Kept w w' F ∧ XD w' F p (D.crashed ks).2 := by
  obtain ⟨vl, vw, vk, left, h⟩ := h
  have c3 : w.cell? ⟨p, 3, none⟩ = some (.bool D.dead) := (row7 h.cells).1 3
  have H := Lib.hid h
  have HK := Lib.hid hks
  have HN := Lib.hid hne
  have HOK := Lib.hid hok
  obtain ⟨Ak, ck, rfl, -⟩ := hks
  cases hdead : D.dead with
  | true =>
    rw [hdead] at c3
    have hR : D.crashed ks = (20, D) := by unfold DS.crashed; rw [hdead]; rfl
    rw [hR]
    clear hdead hR h hok hne
    go_enter Try.func28, Try.ntmps28
    go_wp2_with fail
    go_ret
    exact ⟨rfl, Kept.refl _ _, _, _, _, _, H.out⟩
  | false =>
    rw [hdead] at c3
    have hR : D.crashed ks = (0, D.crash ks) := by unfold DS.crashed; rw [hdead]; rfl
    rw [hR]
    clear hdead hR h hok hne
    go_enter Try.func28, Try.ntmps28
    go_wp2_with fail
    refine (xcrash_at F p D vl vw vk _ left ks w H.out HOK.out HK.out (fun h0 b hb e => HN.out h0 b hb (H.out.lastsF b e)) hlen hll).mono ?_
    rintro e w1 ⟨rfl, hk1, hx1⟩
    go_wp2_with fail
    go_ret
    exact ⟨rfl, hk1, hx1⟩

set_option maxHeartbeats 2000000 in
theorem xRead_any (F : Nat → Prop) (p : Nat) (D : DS) (i : Int) (w : World) (h : XD w F p D) (hlen : D.waits.length ≤ 1000000) (hll : D.lasts.length ≤ 1000000) :
    Calls Try.prog 25 #[.pointer (some ⟨p, 0, none⟩), .int .i64 i] w fun e w' => e = .returned (.tuple #[.string ⟨(D.read i).2.toArray⟩, .int .i64 (D.read i).1]) ∧ w = w' := by
  obtain ⟨vl, vw, vk, left, h⟩ := h
  have hc := (row7 h.cells).1
  have c3 : w.cell? ⟨p, 3, none⟩ = some (.bool D.dead) := hc 3
  have c0 : w.cell? ⟨p, 0, none⟩ = some vl := hc 0
  have c1 : w.cell? ⟨p, 1, none⟩ = some vw := hc 1
  have hemp : Value.string ⟨([] : List UInt8).toArray⟩ = .string ByteArray.empty := rfl
  cases hdead : D.dead with
  | true =>
    rw [hdead] at c3
    have hR : D.read i = (20, []) := by unfold DS.read; rw [hdead]; rfl
    rw [hR]
    clear hdead hR h hc
    go_enter Try.func25, Try.ntmps25
    go_wp2_with fail
    go_ret2
    exact ⟨rfl, rfl⟩
  | false =>
    rw [hdead] at c3
    obtain ⟨_, _, hvl, -⟩ := RowAt.of_own h.lasts
    have hvl' : ∃ Al cl, vl = .slice Al D.lasts.length cl := ⟨_, _, hvl⟩
    clear hvl
    obtain ⟨Al, cl, rfl⟩ := hvl'
    by_cases hin : inside D i = true
    · have hR : D.read i = (0, look D.lasts D.waits i.toNat) := by unfold DS.read; rw [hdead, hin]; rfl
      unfold inside at hin
      simp only [Bool.and_eq_true, decide_eq_true_eq] at hin
      obtain ⟨a, rfl⟩ := Int.eq_ofNat_of_zero_le hin.1
      have ha : a < D.lasts.length := by omega
      rw [Int.toNat_natCast] at hR
      rw [hR]
      have a0 : ¬ (a : Int) < 0 := by omega
      have a1 : ¬ (D.lasts.length : Int) ≤ (a : Int) := by omega
      have a2 : (0 : Int) ≤ (a : Int) := by omega
      have a3 : (a : Int) < (D.lasts.length : Int) := by omega
      obtain ⟨gl, cl', hvl, -, -⟩ := h.lasts.form (by omega)
      injection hvl with e1 _ e2
      subst e1
      subst e2
      have k0 : w.cell? ⟨gl, a, none⟩ = some (.string ⟨(D.lasts.getD a []).toArray⟩) := (h.lasts.cellAt a (by omega)).trans (SS_get ha)
      obtain ⟨_, _, hvw, -⟩ := RowAt.of_own h.waits
      have hvw' : ∃ Aw cw, vw = .slice Aw D.waits.length cw := ⟨_, _, hvw⟩
      clear hvw
      obtain ⟨Aw, cw, rfl⟩ := hvw'
      have H := Lib.hid h
      clear hdead hR h hc hin
      go_enter Try.func25, Try.ntmps25
      go_wp2_with fail
      go_loop [6, 7] (fun s k => ∃ (j : Nat) (t : List UInt8), s = .string ⟨t.toArray⟩ ∧ k = .int .i64 j ∧ j ≤ D.waits.length ∧ Hid (t = look D.lasts (D.waits.take j) a)) (fun _ k => D.waits.length - (intOf k).toNat)
      case atStart => exact ⟨0, _, rfl, rfl, by omega, (by unfold Hid look; simp [List.getD, ha])⟩
      case round =>
        obtain ⟨j, t, rfl, rfl, hj, ht⟩ := hrel
        by_cases hlt : j < D.waits.length
        · have j1 : (j : Int) < (D.waits.length : Int) := by omega
          have j0 : (0 : Int) ≤ (j : Int) := by omega
          have hxj : D.waits[j]? = some D.waits[j] := List.getElem?_eq_getElem hlt
          have htk := take_snoc hxj
          obtain ⟨⟨q, sx⟩, hxx⟩ : ∃ x, x = D.waits[j] := ⟨_, rfl⟩
          rw [← hxx] at hxj htk
          have hnext : look D.lasts (D.waits.take (j + 1)) a = if q = a then sx else look D.lasts (D.waits.take j) a := by rw [htk, look_snoc]
          obtain ⟨gw, cw', hvw, -, -⟩ := H.out.waits.form (by omega)
          injection hvw with e1 _ e2
          subst e1
          subst e2
          obtain ⟨w1, w2⟩ := WS_get hxj
          have k1 : w.cell? ⟨gw, j * 2, none⟩ = some (.int .i64 (q : Int)) := (H.out.waits.cellAt (j * 2) (by omega)).trans w1
          have k2 : w.cell? ⟨gw, j * 2 + 1, none⟩ = some (.string ⟨sx.toArray⟩) := (H.out.waits.cellAt (j * 2 + 1) (by omega)).trans w2
          clear w1 w2 htk hxx hxj
          by_cases hq : q = a
          · have hqe : ((q : Int) == (a : Int)) = true := by simp; omega
            rw [if_pos hq] at hnext
            have HNX := Lib.hid hnext.symm
            clear hnext hq
            go_wp2_with fail
            exact ⟨⟨j + 1, sx, rfl, by go_num, hlt, HNX⟩, by simp [intOf]; omega⟩
          · have hqe : ((q : Int) == (a : Int)) = false := by simp; omega
            rw [if_neg hq] at hnext
            have HNX : Hid (t = look D.lasts (D.waits.take (j + 1)) a) := ht.out.trans hnext.symm
            clear hnext hq
            go_wp2_with fail
            exact ⟨⟨j + 1, t, rfl, by go_num, hlt, HNX⟩, by simp [intOf]; omega⟩
        · have j1 : ¬ (j : Int) < (D.waits.length : Int) := by omega
          have hall : t = look D.lasts D.waits a := by rw [ht.out, List.take_of_length_le (by omega)]
          have HALL := Lib.hid hall
          clear hall ht
          go_wp2_with fail
          go_ret2
          rw [← HALL.out]
          exact ⟨rfl, rfl⟩
    · have hR : D.read i = (1, []) := by unfold DS.read; rw [hdead]; simp [hin]
      rw [hR]
      unfold inside at hin
      simp only [Bool.and_eq_true, decide_eq_true_eq] at hin
      have key : i < 0 ∨ (¬ i < 0 ∧ (D.lasts.length : Int) ≤ i) := by omega
      clear hdead hR h hc hin
      rcases key with k1 | ⟨k1, k2⟩
      · go_enter Try.func25, Try.ntmps25
        go_wp2_with fail
        go_ret2
        exact ⟨rfl, rfl⟩
      · go_enter Try.func25, Try.ntmps25
        go_wp2_with fail
        go_ret2
        exact ⟨rfl, rfl⟩

set_option maxHeartbeats 2000000 in
theorem xFlush_any (F : Nat → Prop) (p : Nat) (D : DS) (w : World) (h : XD w F p D) (hok : D.ok) (hd : D.done < 4611686018427387904) (hlen : D.waits.length ≤ 1000000) (hll : D.lasts.length ≤ 1000000) :
    Calls Try.prog 27 #[.pointer (some ⟨p, 0, none⟩)] w fun e w' => e = .returned (.int .i64 D.flush.1) ∧ Kept w w' F ∧ XD w' F p D.flush.2 := by
  have hx0 := h
  obtain ⟨vl, vw, vk, left, h⟩ := h
  have c3 : w.cell? ⟨p, 3, none⟩ = some (.bool D.dead) := (row7 h.cells).1 3
  have hp := h.inF
  cases hdead : D.dead with
  | true =>
    rw [hdead] at c3
    have hR : D.flush = (20, D) := by unfold DS.flush; rw [hdead]; rfl
    rw [hR]
    have H := Lib.hid h
    clear hdead hR h hx0 hok
    go_enter Try.func27, Try.ntmps27
    go_wp2_with fail
    go_ret
    exact ⟨rfl, Kept.refl _ _, _, _, _, _, H.out⟩
  | false =>
    rw [hdead] at c3
    have hR : D.flush = (if D.fuse = some 0 then (20, D.crash D.keep) else (0, D.tick.flushed)) := by unfold DS.flush; rw [hdead]; rfl
    obtain ⟨R, hRR⟩ : ∃ R, R = D.flush := ⟨_, rfl⟩
    rw [← hRR]
    have HR := Lib.hid (hRR.trans hR)
    have HOK := Lib.hid hok
    have c4 := xdue_any F p D w hx0 hd
    clear hdead hR h hx0 hok hRR
    go_enter Try.func27, Try.ntmps27
    go_wp2_with fail
    refine c4.mono ?_
    rintro e w1 ⟨rfl, hk1, hx1⟩
    by_cases hf : D.fuse = some 0
    · rw [if_pos hf] at hx1
      rw [decide_eq_true hf]
      have HFU := Lib.hid hf
      obtain ⟨vl1, vw1, vk1, l1, hx1⟩ := hx1
      have c6 : w1.cell? ⟨p, 6, none⟩ = some vk1 := (row7 hx1.cells).1 6
      have c5 := xcrash_at F p D vl1 vw1 vk1 vk1 l1 D.keep w1 hx1 HOK.out (RowAt.of_own hx1.keep) (fun _ q h1 h2 => rows_apart hx1.keep hx1.lasts (by decide) h1 h2 rfl) hlen hll
      clear hx1 hf c4
      go_wp2_with fail
      refine c5.mono ?_
      rintro e w2 ⟨rfl, hk2, hx2⟩
      go_wp2_with fail
      go_ret
      have hr := HR.out
      rw [if_pos HFU.out] at hr
      rw [hr]
      exact ⟨rfl, hk1.trans hk2 (fun _ h => .inl h), hx2⟩
    · rw [if_neg hf] at hx1
      rw [decide_eq_false hf]
      have HFU := Lib.hid hf
      obtain ⟨vl1, vw1, vk1, l1, hx1⟩ := hx1
      clear hf c4
      go_wp2_with fail
      go_loopw [3] (fun i wr => ∃ j : Nat, i = .int .i64 j ∧ j ≤ D.waits.length ∧ Hid (XR wr F p { D.tick with lasts := setAll D.lasts (D.waits.take j) } vl1 vw1 vk1 l1) ∧ Kept w wr F) (fun i _ => D.waits.length - (intOf i).toNat)
      case atStart => exact ⟨0, rfl, by omega, hx1, hk1⟩
      case round =>
        obtain ⟨j, rfl, hj1, hx, hkept⟩ := hrel
        clear hx1 hk1
        have hc := (row7 hx.out.cells).1
        have c1 : wr.cell? ⟨p, 1, none⟩ = some vw1 := hc 1
        obtain ⟨_, _, hvw, -⟩ := RowAt.of_own hx.out.waits
        have hvw' : ∃ Aw cw, vw1 = .slice Aw D.waits.length cw := ⟨_, _, hvw⟩
        clear hvw
        obtain ⟨Aw, cw, rfl⟩ := hvw'
        by_cases hin1 : j < D.waits.length
        · have i1 : (j : Int) < (D.waits.length : Int) := by omega
          have i0 : (0 : Int) ≤ (j : Int) := by omega
          have hxj : D.waits[j]? = some D.waits[j] := List.getElem?_eq_getElem hin1
          have hsn := take_snoc hxj
          have hwhole := HOK.out.1 _ (List.getElem_mem hin1)
          obtain ⟨⟨a, sx⟩, hxx⟩ : ∃ x, x = D.waits[j] := ⟨_, rfl⟩
          rw [← hxx] at hxj hsn hwhole
          clear hxx
          have hnew : setAll D.lasts (D.waits.take (j + 1)) = (setAll D.lasts (D.waits.take j)).set a sx := by rw [hsn, setAll_snoc]
          have hL : (setAll D.lasts (D.waits.take j)).length = D.lasts.length := setAll_length _ _
          obtain ⟨L, hLL⟩ : ∃ L, L = setAll D.lasts (D.waits.take j) := ⟨_, rfl⟩
          rw [← hLL] at hL hnew hx
          have ha : a < D.lasts.length := hwhole.1
          have hlr : wr.ownsRow 0 9 1 vl1 L.length (SS L) := hx.out.lasts
          obtain ⟨gl, cl, hvl, -, hgl⟩ := hlr.form (by omega)
          have hwr : wr.ownsRow 0 88 2 (.slice Aw D.waits.length cw) D.waits.length (WS D.waits) := hx.out.waits
          obtain ⟨gw, cw', hvw, -, hgw⟩ := hwr.form (by omega)
          injection hvw with e1 _ e2
          subst e1
          subst e2
          rw [hL] at hvl
          subst hvl
          have c0 : wr.cell? ⟨p, 0, none⟩ = some (.slice (some ⟨gl, 0, none⟩) D.lasts.length cl) := hc 0
          obtain ⟨w1, w2⟩ := WS_get hxj
          have k1 : wr.cell? ⟨gw, j * 2, none⟩ = some (.int .i64 (a : Int)) := (hwr.cellAt (j * 2) (by omega)).trans w1
          have k2 : wr.cell? ⟨gw, j * 2 + 1, none⟩ = some (.string ⟨sx.toArray⟩) := (hwr.cellAt (j * 2 + 1) (by omega)).trans w2
          have k3 : wr.cell? ⟨gl, a, none⟩ = some (.string ⟨(L.getD a []).toArray⟩) := by
            rw [hL] at hlr
            exact (hlr.cellAt a (by omega)).trans (SS_get (by omega))
          have z3 : wr.frozen? ⟨gl, a, none⟩ = false := by
            rw [hL] at hlr
            exact hlr.frozenAt a
          have a0 : (0 : Int) ≤ (a : Int) := by omega
          have a1 : (a : Int) < (D.lasts.length : Int) := by omega
          have hset : XR (wr.setCell ⟨gl, a, none⟩ (.string ⟨sx.toArray⟩)) F p { D.tick with lasts := L.set a sx } (.slice (some ⟨gl, 0, none⟩) D.lasts.length cl) (.slice (some ⟨gw, 0, none⟩) D.waits.length cw) vk1 l1 := by
            have h0 : XR wr F p { D.tick with lasts := L } (.slice (some ⟨gl, 0, none⟩) ({ D.tick with lasts := L } : DS).lasts.length cl) (.slice (some ⟨gw, 0, none⟩) D.waits.length cw) vk1 l1 := by
              rw [show ({ D.tick with lasts := L } : DS).lasts.length = D.lasts.length from hL]
              exact hx.out
            have h1 := XR.setLast h0 a sx
            rw [show ({ D.tick with lasts := L } : DS).lasts.length = D.lasts.length from hL] at h1
            exact h1
          have hF : F gl := hx.out.lastsF gl rfl
          have hkp2 := hkept.trans (Kept.setCell wr ⟨gl, a, none⟩ (.string ⟨sx.toArray⟩) F hF) (fun _ h => .inl h)
          rw [← hnew] at hset
          have HSET := Lib.hid hset
          clear hset hc hsn hnew hLL hlr hwr w1 w2 hx hkept hwhole
          go_wp2_with fail
          go_region
          all_goals go_wp2_with fail
          all_goals exact ⟨⟨j + 1, by go_num, hin1, HSET.out.drew, hkp2.trans (Kept.drew _ F) (fun _ h => .inl h)⟩, by simp [intOf]; omega⟩
        · have i1 : ¬ (j : Int) < (D.waits.length : Int) := by omega
          rw [List.take_of_length_le (by omega)] at hx
          have z1 : wr.frozen? ⟨p, 1, none⟩ = false := (row7 hx.out.cells).2 1
          have hfin : XR (wr.setCell ⟨p, 1, none⟩ (.slice none 0 0)) F p D.tick.flushed vl1 (.slice none 0 0) vk1 l1 := by
            refine hx.out.emptied (fun b hb => set_other hb) ?_ rfl rfl rfl rfl
            rw [Joins.block_setCell hx.out.cells _]
            unfold DS.flushed
            simp
          have HFIN := Lib.hid hfin
          have hkp := hkept.trans (Kept.setCell wr ⟨p, 1, none⟩ (.slice none 0 0) F hp) (fun _ h => .inl h)
          have HKP := Lib.hid hkp
          clear hfin hkp hc hx hkept
          go_wp2_with fail
          go_ret
          have hr := HR.out
          rw [if_neg HFU.out] at hr
          rw [hr]
          exact ⟨rfl, HKP.out, _, _, _, _, HFIN.out⟩
end Go.Proofs.Ythchnnddnjibmaa
