/-
  A node read: the program's read, walked. No statement is proved here. No condition.
-/
import Derived.Test.YtedcknlafkokkaaNReadN
import Derived.Test.YtedcknlafkokkaaPlainD
namespace Go.Proofs.Ytedcknlafkokkaa
open Go.RowKit

theorem told_count_le (most : Nat) (st : Option (List UInt8)) : (told 0 (gCount (most : Int)) st).1 = (((told 0 (gCount (most : Int)) st).1.toNat : Nat) : Int) ∧ (told 0 (gCount (most : Int)) st).1.toNat ≤ most := by
  cases st with
  | none => exact ⟨rfl, Nat.zero_le _⟩
  | some l =>
    cases hg : gCount (most : Int) l with
    | none => rw [told_none hg]; exact ⟨rfl, Nat.zero_le _⟩
    | some p =>
      obtain ⟨n, t⟩ := p
      rw [told_some hg]
      obtain ⟨q, rfl, h1, h2⟩ := gCount_nat hg
      exact ⟨by simp, by simp; omega⟩
theorem told_flag_len (st : Option (List UInt8)) : ((told false gFlag st).2.getD []).length ≤ (st.getD []).length := by
  cases st with
  | none => exact Nat.le_refl _
  | some l =>
    cases hg : gFlag l with
    | none => rw [told_none hg]; simp
    | some p =>
      obtain ⟨b, t⟩ := p
      rw [told_some hg, gFlag_is hg]
      simp
set_option maxHeartbeats 4000000 in
set_option maxRecDepth 100000 in
theorem read_any (R : Nat) (st : Option (List UInt8)) (w : World) (h : Rdr 101 w R st) (hlen : (st.getD []).length ≤ 600) :
    Calls Try.prog 48 #[.pointer (some ⟨R, 0, none⟩)] w fun e w' => ∃ v', e = .returned v' ∧ OwnN w' w.heap.size v' (rdNode st).1 ∧ w.grownBy w' (some R) ∧ Rdr 101 w' R (rdNode st).2 := by
  have hR := h.lt
  obtain ⟨w1, hw1⟩ : ∃ w1, w1 = w.alloc (.cells #[.bool false, .slice none 0 0, .slice none 0 0] 31) := ⟨_, rfl⟩
  have hz1 : w1.heap[w.heap.size]? = some (.cells #[.bool false, .slice none 0 0, .slice none 0 0] 31 (0, 0)) := by rw [hw1]; exact heap_alloc_new w _
  have hg1 : w.grownBy w1 (some R) := by rw [hw1]; exact grown_alloc (grown_refl w _) _
  have hr1 : Rdr 101 w1 R st := by rw [hw1]; exact h.alloc _
  have cF := Flag_any R st w1 hr1
  obtain ⟨lf, hlf⟩ : ∃ lf, lf = (told false gFlag st).1 := ⟨_, rfl⟩
  obtain ⟨s1, hs1⟩ : ∃ s1, s1 = (told false gFlag st).2 := ⟨_, rfl⟩
  have hs1l : (s1.getD []).length ≤ 600 := by rw [hs1]; exact Nat.le_trans (told_flag_len st) hlen
  unfold Tells at cF
  rw [← hlf, ← hs1] at cF
  obtain ⟨L, hL⟩ : ∃ L, L = (s1.getD []).length := ⟨_, rfl⟩
  obtain ⟨hm1, hm2⟩ := told_count_le L s1
  obtain ⟨m, hm⟩ : ∃ m, m = (told 0 (gCount (L : Int)) s1).1.toNat := ⟨_, rfl⟩
  obtain ⟨s2, hs2⟩ : ∃ s2, s2 = (told 0 (gCount (L : Int)) s1).2 := ⟨_, rfl⟩
  rw [← hm] at hm1 hm2
  obtain ⟨cs, s3, hcs⟩ : ∃ cs s3, rdCells lf m s2 = (cs, s3) := ⟨_, _, rfl⟩
  have hcl : cs.length = m := by have := rdCells_length lf m s2; rw [hcs] at this; exact this
  have hmany : rdMany s1 = m := by unfold rdMany; rw [← hL, hm]
  have hnode : rdNode st = if lf then (⟨lf, cs, []⟩, s3) else (⟨lf, cs, (rdKids (m + 1) s3).1⟩, (rdKids (m + 1) s3).2) := by
    unfold rdNode
    dsimp only
    rw [← hlf, ← hs1, hmany, ← hL, ← hs2, hcs]
  have hmb : m ≤ 600 := by omega
  have hLb : L ≤ 600 := by omega
  have HLL := Lib.hid hL
  have HNODE := Lib.hid hnode
  have HCS := Lib.hid hcs
  have HCL := Lib.hid hcl
  have HM1 := Lib.hid hm1
  have HS2 := Lib.hid hs2
  have HW1 := Lib.hid hw1
  have HZ1 := Lib.hid hz1
  have HG1 := Lib.hid hg1
  rw [hw1] at cF
  clear hnode hcs hcl hm1 hm2 hm hs2 hs1 hlf hmany hw1 hz1 hg1 hr1 h hlen hL hs1l
  have hzn := zero_node
  go_enter Try.func48, Try.ntmps48
  go_wp2_with fail
  refine cF.mono ?_
  rintro e w2 ⟨rfl, hg2, hr2⟩
  rw [← HW1.out] at hg2
  clear cF
  have hsz1 := HG1.out.size
  have hsz2 := hg2.size
  have hl1 : w.heap.size < w1.heap.size := (Array.getElem?_eq_some_iff.1 HZ1.out).1
  have hz2 := (hg2.block _ hl1 (fun e => by injection e with e; omega)).trans HZ1.out
  obtain ⟨w3, hw3⟩ : ∃ w3, w3 = w2.alloc (.cells #[.bool lf, .slice none 0 0, .slice none 0 0] 31) := ⟨_, rfl⟩
  have hj3 : RdJ w w3 R w2.heap.size ⟨lf, [], []⟩ s1 none 0 none 0 := ⟨by rw [hw3]; exact heap_alloc_new w2 _, by rw [hw3]; exact (heap_alloc_old _ _ (by omega)).trans hz2, ⟨rfl, .inl ⟨rfl, rfl⟩⟩, ⟨rfl, .inl ⟨rfl, rfl⟩⟩, by rw [hw3]; exact hr2.alloc _, by rw [hw3]; exact grown_alloc (grown_trans HG1.out hg2) _, by omega⟩
  have cL := left_any R s1 w3 hj3.rdr
  rw [← HLL.out] at cL
  have cN := Count_any R (L : Int) s1 w3 hj3.rdr
  unfold Tells at cN
  rw [HM1.out, ← HS2.out] at cN
  have HW3 := Lib.hid hw3
  have HJ3 := Lib.hid hj3
  obtain ⟨B, hB⟩ : ∃ B, B = w2.heap.size := ⟨_, rfl⟩
  rw [← hB] at HJ3
  have HBE := Lib.hid hB
  rw [hw3] at cL cN
  clear hw3 hj3 hz2 hg2 hr2 hB
  go_wp2_with fail
  refine cL.mono ?_
  rintro e w3' ⟨rfl, rfl⟩
  go_wp2_with fail
  refine cN.mono ?_
  rintro e w4 ⟨rfl, hg4, hr4⟩
  rw [← HW3.out] at hg4
  have hj4 := HJ3.out.step hR hg4 hr4
  have HI4 : Hid (RdI w w4 R B ⟨lf, [], []⟩ s2) := Lib.hid ⟨_, _, _, _, hj4⟩
  have hcs0 : (([] : List PC) ++ (rdCells lf (m - 0) s2).1, (rdCells lf (m - 0) s2).2) = (cs, s3) := by rw [Nat.sub_zero, HCS.out]; rfl
  have HC0 := Lib.hid hcs0
  clear cL cN hg4 hr4 hj4 hcs0
  rw [← HBE.out]
  go_wp2_with fail
  go_loopw [11] (fun s11 wr => ∃ (i : Nat) (xs : List PC) (s : Option (List UInt8)), s11 = .int .i64 (i : Int) ∧ i ≤ m ∧ xs.length = i ∧ Hid (RdI w wr R B ⟨lf, xs, []⟩ s) ∧ Hid ((xs ++ (rdCells lf (m - i) s).1, (rdCells lf (m - i) s).2) = (cs, s3))) (fun s11 _ => m - (intOf s11).toNat)
  case atStart => exact ⟨0, [], s2, rfl, Nat.zero_le _, rfl, HI4, HC0⟩
  case round =>
    clear HI4 HC0
    obtain ⟨i, xs, s, rfl, hi, hxl, hri, hcs⟩ := hrel
    subst hxl
    obtain ⟨wz, hwz⟩ : ∃ wz : World, wz = wr := ⟨_, rfl⟩
    subst hwz
    obtain ⟨A, c, A', c', hj⟩ := hri.out
    have b0 : wz.cell? ⟨B, 0, none⟩ = some (.bool lf) := (row_cells hj.blk).1 0
    have b1 : wz.cell? ⟨B, 1, none⟩ = some (.slice A xs.length c) := (row_cells hj.blk).1 1
    by_cases him : xs.length < m
    · have a1 : (xs.length : Int) < (m : Int) := by omega
      have cR := readcell_any R s lf wz.drew (by obtain ⟨x, h1, h2⟩ := hj.rdr; exact ⟨x, h1, h2⟩)
      obtain ⟨x, s', hx⟩ : ∃ x s', rdCell lf s = (x, s') := ⟨_, _, rfl⟩
      rw [hx] at cR
      unfold PC.agg at cR
      have hnext : ((xs ++ [x]) ++ (rdCells lf (m - (xs.length + 1)) s').1, (rdCells lf (m - (xs.length + 1)) s').2) = (cs, s3) := by
        have := hcs.out
        rw [show m - xs.length = (m - (xs.length + 1)) + 1 by omega] at this
        unfold rdCells at this
        rw [hx] at this
        rw [List.append_assoc]
        exact this
      have HNEXT := Lib.hid hnext
      have hpush : ∀ wy, wz.drew.grownBy wy (some R) → Rdr 101 wy R s' → _ := fun wy hg hr => (hj.step hR (grown_undrew hg) hr).pushC hR x (by show xs.length ≤ 1000; omega)
      have hcells : ∀ wy, wz.drew.grownBy wy (some R) → wy.cell? ⟨B, 0, none⟩ = some (.bool lf) ∧ wy.cell? ⟨B, 1, none⟩ = some (.slice A xs.length c) ∧ B < wy.heap.size := fun wy hg => by
        have hBl : B < wz.heap.size := (Array.getElem?_eq_some_iff.1 hj.blk).1
        have hb := ((grown_undrew hg).block B hBl (fun e => by injection e with e; have := hj.far; omega)).trans hj.blk
        exact ⟨(row_cells hb).1 0, (row_cells hb).1 1, (Array.getElem?_eq_some_iff.1 hb).1⟩
      have HPUSH := Lib.hid hpush
      have HCELLS := Lib.hid hcells
      have CR := Lib.hid cR
      clear hnext hpush hcells cR hcs hri hj
      go_upto_region 4 with fail
      go_region_law (first | (refine stepApp rfl (.tmp 14) (.tmp 19) 29 rfl _ _ rfl rfl HAP.out ?_) | (go_simp; go_at_call 72; refine CR.out.mono ?_; rintro e wy ⟨rfl, hgy, hry⟩; obtain ⟨A7, c7, w7, hr7, f1, f2, hj7⟩ := HPUSH.out wy hgy hry; obtain ⟨d0, d1, d2⟩ := HCELLS.out wy hgy; have HAP := Lib.hid hr7; have HJ7 := Lib.hid hj7; clear hr7 hj7 hgy hry))
      all_goals
        clear HAP
        go_wp2_with fail
        exact ⟨⟨xs.length + 1, xs ++ [x], s', by go_num, him, by rw [List.length_append]; rfl, Lib.hid ⟨_, _, _, _, HJ7.out⟩, HNEXT⟩, by simp [intOf]; omega⟩
    · have a1 : ¬ (xs.length : Int) < (m : Int) := by omega
      have hme : m = xs.length := by omega
      have hfin := hcs.out
      rw [hme, Nat.sub_self] at hfin
      have hxs : xs = cs := by have := (Prod.mk.inj hfin).1; rw [← this]; exact (List.append_nil xs).symm
      have hss : s = s3 := (Prod.mk.inj hfin).2
      subst hss
      rw [← hxs] at HNODE
      have HME := Lib.hid hme
      clear hfin hxs hcs hme hri
      cases lf with
      | true =>
        have hnd : rdNode st = (⟨true, xs, []⟩, s) := by rw [HNODE.out]; rfl
        have HND := Lib.hid hnd
        clear hnd
        obtain ⟨e1, e2, e3, e4⟩ := hj.told hR
        obtain ⟨wf, hwf⟩ : ∃ wf, wf = ((wz.setCell ⟨w.heap.size, 0, none⟩ (.bool true)).setCell ⟨w.heap.size, 1, none⟩ (.slice A xs.length c)).setCell ⟨w.heap.size, 2, none⟩ (.slice A' 0 c') := ⟨_, rfl⟩
        dsimp only [List.length_nil] at e1 e2 e3 e4
        rw [← hwf] at e1 e2 e3 e4
        have x0 : wz.cell? ⟨B, 0, none⟩ = some (.bool true) := (row_cells hj.blk).1 0
        have x1 : wz.cell? ⟨B, 1, none⟩ = some (.slice A xs.length c) := (row_cells hj.blk).1 1
        have x2 : wz.cell? ⟨B, 2, none⟩ = some (.slice A' 0 c') := (row_cells hj.blk).1 2
        have z0 : wz.cell? ⟨w.heap.size, 0, none⟩ = some (.bool false) := (row_cells hj.res).1 0
        have z1 : wz.cell? ⟨w.heap.size, 1, none⟩ = some (.slice none 0 0) := (row_cells hj.res).1 1
        have z2 : wz.cell? ⟨w.heap.size, 2, none⟩ = some (.slice none 0 0) := (row_cells hj.res).1 2
        have z3 : wz.frozen? ⟨w.heap.size, 0, none⟩ = false := (row_cells hj.res).2 0
        have z4 : wz.frozen? ⟨w.heap.size, 1, none⟩ = false := (row_cells hj.res).2 1
        have z5 : wz.frozen? ⟨w.heap.size, 2, none⟩ = false := (row_cells hj.res).2 2
        have r0 : wf.cell? ⟨w.heap.size, 0, none⟩ = some (.bool true) := (row_cells e1).1 0
        have r1 : wf.cell? ⟨w.heap.size, 1, none⟩ = some (.slice A xs.length c) := (row_cells e1).1 1
        have r2 : wf.cell? ⟨w.heap.size, 2, none⟩ = some (.slice A' 0 c') := (row_cells e1).1 2
        have HE2 := Lib.hid e2
        have HE3 := Lib.hid e3
        have HE4 := Lib.hid e4
        have HWF := Lib.hid hwf
        clear e1 e2 e3 e4 hwf hj b0 b1
        go_wp2_with fail
        rw [← HWF.out]
        refine bodyPost_ret (v := .agg #[.bool true, .slice A xs.length c, .slice A' 0 c']) (by rw [results_c rfl]; go_simp; try rfl) rfl ?_
        rw [HND.out]
        exact ⟨_, rfl, HE2.out, HE3.out, HE4.out⟩
      | false =>
        have hnd : rdNode st = (⟨false, xs, (rdKids (m + 1) s).1⟩, (rdKids (m + 1) s).2) := by rw [HNODE.out]; rfl
        obtain ⟨ks, s4, hks⟩ : ∃ ks s4, rdKids (m + 1) s = (ks, s4) := ⟨_, _, rfl⟩
        rw [hks] at hnd
        have HND := Lib.hid hnd
        obtain ⟨T, hT⟩ : ∃ T, T = m + 1 := ⟨_, rfl⟩
        have hTx : T = xs.length + 1 := by rw [hT, HME.out]
        have hTb : T ≤ 601 := by omega
        rw [← hT] at hks
        have hk0 : (([] : List Int) ++ (rdKids (T - 0) s).1, (rdKids (T - 0) s).2) = (ks, s4) := by rw [Nat.sub_zero, hks]; rfl
        have HK0 := Lib.hid hk0
        have HI0 : Hid (RdI w wz R B ⟨false, xs, []⟩ s) := Lib.hid ⟨_, _, _, _, hj⟩
        have hTi : wrap64 ((xs.length : Int) + 1) = (T : Int) := by unfold wrap64; omega
        have hTi2 : (xs.length : Int) + 1 = (T : Int) := by omega
        clear hnd hks hk0 hT hj hTx
        go_upto_region 8 with fail
        go_wp2_with fail
        go_loopw [30] (fun s30 wr => ∃ (j : Nat) (ys : List Int) (q : Option (List UInt8)), s30 = .int .i64 (j : Int) ∧ j ≤ T ∧ ys.length = j ∧ Hid (RdI w wr R B ⟨false, xs, ys⟩ q) ∧ Hid ((ys ++ (rdKids (T - j) q).1, (rdKids (T - j) q).2) = (ks, s4))) (fun s30 _ => T - (intOf s30).toNat)
        case atStart => exact ⟨0, [], s, rfl, Nat.zero_le _, rfl, HI0, HK0⟩
        case round =>
          clear HI0 HK0 b0 b1
          obtain ⟨j, ys, q, rfl, hj', hyl, hri, hcs⟩ := hrel
          subst hyl
          obtain ⟨wv, hwv⟩ : ∃ wv : World, wv = wr := ⟨_, rfl⟩
          subst hwv
          obtain ⟨A, c, A', c', hj⟩ := hri.out
          by_cases hjT : ys.length < T
          · have a3 : (ys.length : Int) < (T : Int) := by omega
            have a4 : (ys.length : Int) < (xs.length : Int) + 1 := by omega
            have b2 : wv.cell? ⟨B, 2, none⟩ = some (.slice A' ys.length c') := (row_cells hj.blk).1 2
            have cR := Count_any R 2147483647 q wv.drew (by obtain ⟨x, h1, h2⟩ := hj.rdr; exact ⟨x, h1, h2⟩)
            unfold Tells at cR
            obtain ⟨x, q', hx⟩ : ∃ x q', told 0 (gCount 2147483647) q = (x, q') := ⟨_, _, rfl⟩
            rw [hx] at cR
            have hnext : ((ys ++ [x]) ++ (rdKids (T - (ys.length + 1)) q').1, (rdKids (T - (ys.length + 1)) q').2) = (ks, s4) := by
              have := hcs.out
              rw [show T - ys.length = (T - (ys.length + 1)) + 1 by omega] at this
              unfold rdKids at this
              rw [hx] at this
              rw [List.append_assoc]
              exact this
            have HNEXT := Lib.hid hnext
            have hpush : ∀ wy, wv.drew.grownBy wy (some R) → Rdr 101 wy R q' → _ := fun wy hg hr => (hj.step hR (grown_undrew hg) hr).pushK hR x (by show ys.length ≤ 1001; omega)
            have hcells : ∀ wy, wv.drew.grownBy wy (some R) → wy.cell? ⟨B, 2, none⟩ = some (.slice A' ys.length c') ∧ B < wy.heap.size := fun wy hg => by
              have hBl : B < wv.heap.size := (Array.getElem?_eq_some_iff.1 hj.blk).1
              have hb := ((grown_undrew hg).block B hBl (fun e => by injection e with e; have := hj.far; omega)).trans hj.blk
              exact ⟨(row_cells hb).1 2, (Array.getElem?_eq_some_iff.1 hb).1⟩
            have HPUSH := Lib.hid hpush
            have HCELLS := Lib.hid hcells
            have CR := Lib.hid cR
            clear hnext hpush hcells cR hcs hri hj
            go_upto_region 10 with fail
            go_region_law (first | (refine stepApp rfl (.tmp 33) (.tmp 36) 23 rfl _ _ rfl rfl HAP.out ?_) | (go_simp; go_at_call 71; refine CR.out.mono ?_; rintro e wy ⟨rfl, hgy, hry⟩; obtain ⟨A7, c7, w7, hr7, f1, f2, hj7⟩ := HPUSH.out wy hgy hry; obtain ⟨d1, d2⟩ := HCELLS.out wy hgy; have HAP := Lib.hid hr7; have HJ7 := Lib.hid hj7; clear hr7 hj7 hgy hry))
            all_goals
              clear HAP
              go_wp2_with fail
              exact ⟨⟨ys.length + 1, ys ++ [x], q', by go_num, hjT, by rw [List.length_append]; rfl, Lib.hid ⟨_, _, _, _, HJ7.out⟩, HNEXT⟩, by simp [intOf]; omega⟩
          · have a3 : ¬ (ys.length : Int) < (T : Int) := by omega
            have a4 : ¬ (ys.length : Int) < (xs.length : Int) + 1 := by omega
            have hTe : T - ys.length = 0 := by omega
            have hfin := hcs.out
            rw [hTe] at hfin
            have hys : ys = ks := by have := (Prod.mk.inj hfin).1; rw [← this]; exact (List.append_nil ys).symm
            have hqs : q = s4 := (Prod.mk.inj hfin).2
            subst hqs
            rw [← hys] at HND
            clear hfin hys hcs hri hTe
            obtain ⟨e1, e2, e3, e4⟩ := hj.told hR
            obtain ⟨wf, hwf⟩ : ∃ wf, wf = ((wv.setCell ⟨w.heap.size, 0, none⟩ (.bool false)).setCell ⟨w.heap.size, 1, none⟩ (.slice A xs.length c)).setCell ⟨w.heap.size, 2, none⟩ (.slice A' ys.length c') := ⟨_, rfl⟩
            dsimp only at e1 e2 e3 e4
            rw [← hwf] at e1 e2 e3 e4
            have x0 : wv.cell? ⟨B, 0, none⟩ = some (.bool false) := (row_cells hj.blk).1 0
            have x1 : wv.cell? ⟨B, 1, none⟩ = some (.slice A xs.length c) := (row_cells hj.blk).1 1
            have x2 : wv.cell? ⟨B, 2, none⟩ = some (.slice A' ys.length c') := (row_cells hj.blk).1 2
            have z0 : wv.cell? ⟨w.heap.size, 0, none⟩ = some (.bool false) := (row_cells hj.res).1 0
            have z1 : wv.cell? ⟨w.heap.size, 1, none⟩ = some (.slice none 0 0) := (row_cells hj.res).1 1
            have z2 : wv.cell? ⟨w.heap.size, 2, none⟩ = some (.slice none 0 0) := (row_cells hj.res).1 2
            have z3 : wv.frozen? ⟨w.heap.size, 0, none⟩ = false := (row_cells hj.res).2 0
            have z4 : wv.frozen? ⟨w.heap.size, 1, none⟩ = false := (row_cells hj.res).2 1
            have z5 : wv.frozen? ⟨w.heap.size, 2, none⟩ = false := (row_cells hj.res).2 2
            have r0 : wf.cell? ⟨w.heap.size, 0, none⟩ = some (.bool false) := (row_cells e1).1 0
            have r1 : wf.cell? ⟨w.heap.size, 1, none⟩ = some (.slice A xs.length c) := (row_cells e1).1 1
            have r2 : wf.cell? ⟨w.heap.size, 2, none⟩ = some (.slice A' ys.length c') := (row_cells e1).1 2
            have HE2 := Lib.hid e2
            have HE3 := Lib.hid e3
            have HE4 := Lib.hid e4
            have HWF := Lib.hid hwf
            clear e1 e2 e3 e4 hwf hj
            go_wp2_with fail
            rw [← HWF.out]
            refine bodyPost_ret (v := .agg #[.bool false, .slice A xs.length c, .slice A' ys.length c']) (by rw [results_c rfl]; go_simp; try rfl) rfl ?_
            rw [HND.out]
            exact ⟨_, rfl, HE2.out, HE3.out, HE4.out⟩
end Go.Proofs.Ytedcknlafkokkaa
