/-
  NetHolds walked. No statement is proved here. No condition.
-/
import Derived.Test.YtmnaekeecjlapaaKMap
namespace Go.Proofs.Ytmnaekeecjlapaa
open Go.RowKit Go.Maps

theorem CntM.mono {w : World} {b n m : Nat} {l : List PK} (h : CntM w b n l) (hnm : n ≤ m) : CntM w b m l := by
  obtain ⟨D, h1, h2⟩ := h
  exact ⟨D, h1.mono hnm, h2⟩
/-- how it stands behind i steps -/
structure HI (w wr : World) (p mb m i : Nat) (N : NT) (v : Value) : Prop where
  net : PNetM wr w.heap.size p 58 36 v N
  ok : N.ok i
  most : N.most = m
  map : CntM wr mb i N.row
  good : ∀ x ∈ N.row, x.good
  bel : Below w.heap.size w wr
  base : w.heap.size ≤ mb
section
variable {w wr w' : World} {p mb m i : Nat} {N : NT} {v : Value}
theorem HI.grow (h : HI w wr p mb m i N v) (hb : Below wr.heap.size wr w') : HI w w' p mb m i N v :=
  ⟨h.net.grow hb, h.ok, h.most, h.map.same (hb.block _ h.map.lt), h.good, h.bel.trans (Joins.below_le hb h.bel.size), h.base⟩
theorem HI.next (h : HI w wr p mb m i N v) : HI w wr p mb m (i + 1) N v := ⟨h.net, h.ok.mono (Nat.le_succ i), h.most, h.map.mono (Nat.le_succ i), h.good, h.bel, h.base⟩
theorem HI.mb_ne (h : HI w wr p mb m i N v) : mb ≠ p ∧ v.ownBlock ≠ some mb := by
  obtain ⟨es, clock, hb⟩ := h.map.is_map
  refine ⟨fun e => ?_, fun e => ?_⟩
  · have := h.net.net
    rw [← e, hb] at this
    cases this
  · obtain ⟨C, hC⟩ := own_type h.net.row e
    rw [hb] at hC
    cases hC
/-- behind a call of the program: the net is another one, the map is not yet -/
theorem HI.step (h : HI w wr p mb m i N v) {v' : Value} {N' : NT} (hn : PNetM w' w.heap.size p 58 36 v' N') (hb : Below w.heap.size wr w') (hm : Moved p v wr w') : CntM w' mb i N.row ∧ Below w.heap.size w w' ∧ mb ≠ p ∧ v'.ownBlock ≠ some mb := by
  have h1 := h.mb_ne
  have hs := hm mb h.map.lt h1.1 h1.2
  refine ⟨h.map.same hs, h.bel.trans hb, h1.1, fun e => ?_⟩
  obtain ⟨es, clock, hbk⟩ := h.map.is_map
  obtain ⟨C, hC⟩ := own_type hn.row e
  rw [hs, hbk] at hC
  cases hC
/-- the map turned, the net is as it was -/
theorem pnet_beside_map (hn : PNetM wr w.heap.size p 58 36 v N) (h1 : mb ≠ p) (h2 : v.ownBlock ≠ some mb) (hf : ∀ g, g ≠ mb → w'.heap[g]? = wr.heap[g]?) : PNetM w' w.heap.size p 58 36 v N :=
  hn.kept fun b _ hb => hf b (hb.elim (fun e => by omega) fun e e2 => h2 (by rw [← e2]; exact e))
end
theorem cntK_snoc (q x : PK) (l : List PK) : (cntK q (l ++ [x]) : Int) = (cntK q l : Int) + (if x = q then 1 else 0) := by
  rw [cntK_append, cntK_one]
  split <;> simp
theorem cntK_other {q x : PK} {l : List PK} (h : q ≠ x) : cntK q (l ++ [x]) = cntK q l := by rw [cntK_append, cntK_one, if_neg (fun e => h e.symm)]; rfl
theorem send_good {n : NT} {x : PK} (hg : ∀ y ∈ n.row, y.good) (hx : x.good) (h : (n.send x).1.row = n.row ++ [x] ∨ (n.send x).1.row = n.row) : ∀ y ∈ (n.send x).1.row, y.good := by
  rcases h with h | h
  · rw [h]
    intro y hy
    rcases List.mem_append.1 hy with hy | hy
    · exact hg y hy
    · rw [List.mem_singleton.1 hy]; exact hx
  · rw [h]; exact hg
theorem take_good {n : NT} (i : Int) (hg : ∀ y ∈ n.row, y.good) : ∀ y ∈ (n.take i).1.row, y.good := by
  unfold NT.take
  split
  · exact hg
  · exact fun y hy => hg y (List.mem_of_mem_eraseIdx hy)
theorem NT.most_send (n : NT) (x : PK) : (n.send x).1.most = n.most := by
  unfold NT.send NT.add
  split
  · rfl
  · split <;> rfl
theorem NT.most_take (n : NT) (i : Int) : (n.take i).1.most = n.most := by unfold NT.take; split <;> rfl
theorem NT.most_double (n : NT) (i : Int) : (n.double i).1.most = n.most := by
  unfold NT.double NT.add
  split
  · rfl
  · split <;> rfl
/-- what Double tells and does -/
theorem NT.double_row (n : NT) (i : Int) : ((n.double i).2 = 0 ∧ ∃ x, n.at? i = some x ∧ (n.double i).1.row = n.row ++ [x]) ∨ ((n.double i).2 ≠ 0 ∧ (n.double i).1.row = n.row) := by
  unfold NT.double
  cases h : n.at? i with
  | none => exact .inr ⟨show (1 : Int) ≠ 0 by decide, rfl⟩
  | some x =>
    by_cases h2 : (n.add x).2 = 0
    · exact .inl ⟨h2, x, rfl, by rw [NT.add_yes h2]⟩
    · exact .inr ⟨h2, NT.add_no h2⟩
theorem at_mem {n : NT} {i : Int} {x : PK} (h : n.at? i = some x) : x ∈ n.row := by
  obtain ⟨-, -, h⟩ := NT.at_lt h
  exact List.mem_of_getElem? h
theorem wrap_less {a b : Nat} (h : a + 1 = b) (hb : b ≤ 1000) : wrap64 ((b : Int) - 1) = (a : Int) ∧ IntKind.i64.wrap ((b : Int) - 1) = (a : Int) := by
  constructor
  · unfold wrap64; omega
  · rw [IntKind.wrap_i64]; omega
theorem not_more {a b : Nat} (h : a ≤ b) : ¬ (b : Int) < (a : Int) := by omega
theorem not_neg (a : Nat) : ¬ (a : Int) < 0 := by omega
/-- the room that is asked for -/
theorem room_of (n : Int) (h : -9223372036854775808 ≤ n ∧ n ≤ 9223372036854775807) : ∃ m : Nat, m ≤ 1000 ∧ (IntKind.u64.wrap n).tmod 1001 = (m : Int) := by
  have hw : 0 ≤ IntKind.u64.wrap n := by rw [show IntKind.u64.wrap n = n % 18446744073709551616 by simp [IntKind.wrap, IntKind.bits, IntKind.signed]]; omega
  refine ⟨((IntKind.u64.wrap n).tmod 1001).toNat, ?_, ?_⟩
  · have h1 := Int.tmod_lt_of_pos (IntKind.u64.wrap n) (show (0 : Int) < 1001 by decide)
    omega
  · have h1 := Int.tmod_nonneg 1001 hw
    omega
set_option maxHeartbeats 4000000 in
set_option maxRecDepth 100000 in
theorem hold_walk (nm : Int) (l : List PS) (u : Value) (w : World) (hu : psR.N w Any u l) (hnm : -9223372036854775808 ≤ nm ∧ nm ≤ 9223372036854775807) :
    Calls Try.prog 5 #[.int .i64 nm, u] w fun e w' => e = .returned (.bool true) ∧ Below w.heap.size w w' := by
  obtain ⟨A, c, rfl, hlc, hcm⟩ := hu.slice
  have HU := Lib.hid hu
  clear hu hlc hcm
  have cA := awake_any w
  have hzp := zero_pk
  obtain ⟨m, hm, hroom⟩ := room_of nm hnm
  have HM := Lib.hid hm
  by_cases hlong : 150 < l.length
  · have h1 : (150 : Int) < (l.length : Int) := by omega
    clear hroom hm hnm
    go_enter Try.func5, Try.ntmps5
    go_wp2_with fail
    refine cA.mono ?_
    rintro e w1 ⟨rfl, hb⟩
    have HB := Lib.hid hb
    clear cA hb
    go_wp2_with fail
    go_ret
    exact ⟨rfl, HB.out⟩
  · have h1 : ¬ (150 : Int) < (l.length : Int) := by omega
    have HR := Lib.hid hroom
    clear hroom hnm
    go_enter Try.func5, Try.ntmps5
    go_wp2_with fail
    refine cA.mono ?_
    rintro e w1 ⟨rfl, hb1⟩
    have hs1 := hb1.size
    have HB1 := Lib.hid hb1
    clear cA hb1
    go_upto_region 4 with fail
    rw [HR.out, show wrap64 ((m : Nat) : Int) = (m : Int) by have := HM.out; unfold wrap64; omega]
    go_wp2_with fail
    refine (pnew_any (m : Int) w1).mono ?_
    rintro e w2 h
    have hm0 := HM.out
    rcases h with ⟨h, -⟩ | ⟨-, rfl, hN2, hb2⟩
    · exact absurd (show newErr (m : Int) = 0 by unfold newErr; rw [if_neg (by omega)]) h
    rw [Int.toNat_natCast] at hN2
    have hs2 := hb2.size
    have hp2 := hN2.lt
    obtain ⟨p, hp⟩ : ∃ p, p = w1.heap.size := ⟨_, rfl⟩
    rw [← hp] at hN2 hp2 ⊢
    have hb3 : Below w2.heap.size w2 (w2.alloc (.map #[] 0)) := (Below.refl _ _).alloc (Nat.le_refl _) _
    have hbw2 := HB1.out.trans (Joins.below_le hb2 hs1)
    have hI : HI w (w2.alloc (.map #[] 0)) p w2.heap.size m 0 (NT.new m) (.slice none 0 0) :=
      ⟨PNetM.grow ⟨hN2.net, by omega, Rec.Own.none _ _ _ _⟩ hb3, NT.new_ok hm0, rfl, CntM.made w2, (fun x hx => by cases hx), hbw2.trans (Joins.below_le hb3 (by omega)), by omega⟩
    have HI0 := Lib.hid hI
    obtain ⟨mb, hmb⟩ : ∃ mb, mb = w2.heap.size := ⟨_, rfl⟩
    rw [← hmb] at HI0
    have HMB := Lib.hid hmb
    clear hI hbw2 hb3 hN2 hb2 HB1 hs1 hs2 hp2 hp hmb HR
    have hmm := run_makeMap (P := Try.prog) 54 w2
    go_upto_region 8 with fail
    rw [← HMB.out]
    clear hmm
    go_wp2_with fail
    go_loopw [8, 9] (fun s8 s9 wr => ∃ (i : Nat) (N : NT) (v : Value), s9 = .int .i64 (i : Int) ∧ s8 = .int .i64 (N.row.length : Int) ∧ i ≤ l.length ∧ Hid (HI w wr p mb m i N v)) (fun _ s9 _ => l.length - (intOf s9).toNat)
    case atStart => exact ⟨0, _, _, rfl, rfl, Nat.zero_le _, HI0⟩
    case round =>
      obtain ⟨i, N, v, rfl, rfl, hi, hJ⟩ := hrel
      obtain ⟨wz, hwz⟩ : ∃ wz : World, wz = wr := ⟨_, rfl⟩
      subst hwz
      by_cases hil : i < l.length
      · have a1 : (i : Int) < (l.length : Int) := by omega
        have a0 : (0 : Int) ≤ (i : Int) := by omega
        obtain ⟨s, hsi⟩ : ∃ s, l[i]? = some s := ⟨_, List.getElem?_eq_getElem hil⟩
        obtain ⟨b, o, n', k', hv, -, hbl, x0, x1, x2, x3, x4⟩ := ps_cell (HU.out.grow hJ.out.bel) hsi
        injection hv with e1 e2 e3
        subst e1 e3
        clear e2
        obtain ⟨kk, hkk⟩ : ∃ kk, kk = s.kind := ⟨_, rfl⟩
        rw [← hkk] at x0
        have hsg : s.pk.good := ⟨s.hf.1, s.hf.2, by have := s.hd; show s.data.size ≤ maxLen; unfold maxLen; omega⟩
        obtain ⟨w3, hw3⟩ : ∃ w3, w3 = wz.alloc (.cells #[.int .u8 kk, .int .i64 s.frm, .int .i64 s.dst, .string s.data, .int .i64 s.n] 31) := ⟨_, rfl⟩
        have hb3 : Below wz.heap.size wz w3 := by rw [hw3]; exact (Below.refl _ _).alloc (Nat.le_refl _) _
        have hx3 : w3.heap[wz.heap.size]? = some (.cells #[.int .u8 kk, .int .i64 s.frm, .int .i64 s.dst, .string s.data, .int .i64 s.n] 31 (0, 0)) := by rw [hw3]; exact heap_alloc_new wz _
        have hs3 : w3.heap.size = wz.heap.size + 1 := by rw [hw3]; simp
        have hI3 := hJ.out.grow hb3
        have hbx : wz.heap.size ≠ mb := by have := hJ.out.map.lt; omega
        obtain ⟨bx, hbxe⟩ : ∃ bx, bx = wz.heap.size := ⟨_, rfl⟩
        rw [← hbxe] at hx3 hbx
        have hbxl : bx < w3.heap.size := by omega
        have hlen1 : N.row.length ≤ m := by have := hJ.out.ok.row; rw [hJ.out.most] at this; exact this
        obtain ⟨k0, k1, k2, k3, k4⟩ : w3.cell? ⟨bx, 0, none⟩ = some (.int .u8 kk) ∧ w3.cell? ⟨bx, 1, none⟩ = some (.int .i64 s.frm) ∧ w3.cell? ⟨bx, 2, none⟩ = some (.int .i64 s.dst) ∧ w3.cell? ⟨bx, 3, none⟩ = some (.string s.data) ∧ w3.cell? ⟨bx, 4, none⟩ = some (.int .i64 s.n) := ⟨(blk_cells hx3).1 0, (blk_cells hx3).1 1, (blk_cells hx3).1 2, (blk_cells hx3).1 3, (blk_cells hx3).1 4⟩
        have HW3 := Lib.hid (show w3 = wz.alloc (.cells #[.int .u8 kk, .int .i64 s.frm, .int .i64 s.dst, .string s.data, .int .i64 s.n] 31) from hw3)
        have HBX := Lib.hid hbxe
        have HX3 := Lib.hid hx3
        have HI3 := Lib.hid hI3
        have HSG := Lib.hid hsg
        clear hw3 hbxe hx3 hI3 hb3 hsi hkk hsg hs3
        go_upto_region 13 with fail
        rw [← HW3.out, ← HBX.out]
        clear x0 x1 x2 x3 x4
        by_cases q0 : kk = 0
        · subst q0
          obtain ⟨Ad, cd, wcv, hcv, hrd, hbc, hsc, -⟩ := conv_bytes s.data w3 s.hd
          have hI4 := HI3.out.grow hbc
          have hx4 := (hbc.block bx hbxl).trans HX3.out
          have cS := psend_any N s.pk s.data.data.toList _ _ i w.heap.size p v wcv hI4.net hI4.ok (by omega) hI4.bel.size hrd (bytes_of s.data).symm
          have hok2 := hI4.ok.send s.pk
          have hrow2 := NT.send_row N s.pk
          have hmost2 := NT.most_send N s.pk
          have hg2 := send_good hI4.good HSG.out (hrow2.elim (fun h => .inl h.2) fun h => .inr h.2)
          obtain ⟨R, hR⟩ : ∃ R, R = N.send s.pk := ⟨_, rfl⟩
          rw [← hR] at cS hok2 hrow2 hmost2 hg2
          obtain ⟨N2, E⟩ := R
          have HI4 := Lib.hid hI4
          have HX4 := Lib.hid hx4
          have HOK2 := Lib.hid hok2
          have HROW2 := Lib.hid hrow2
          have HMO2 := Lib.hid hmost2
          have HG2 := Lib.hid hg2
          have hl4 : wcv.heap.size = w3.heap.size + 1 := hsc
          dsimp only [PS.pk] at cS
          clear hI4 hx4 hok2 hrow2 hmost2 hg2 hR hbc hrd hsc hlong
          go_wp2_with fail
          refine cS.mono ?_
          rintro e wd ⟨rfl, v2, hn2, hb2, hm2, hv2⟩
          obtain ⟨g1, g2, g3, g4⟩ := HI4.out.step hn2 hb2 hm2
          have tb : TyAt wcv bx 31 := ⟨_, HX4.out⟩
          have hxd := (hm2 bx (by omega) (tb.ne HI4.out.net.ty (by decide)) (fun e => tb.ne (own_type HI4.out.net.row e) (by decide) rfl)).trans HX4.out
          clear cS hcv k0 k1 k2 k3 k4
          rcases HROW2.out with ⟨hE, hrow⟩ | ⟨hE, hrow⟩
          · have hE : E = 0 := hE
            subst hE
            have hrow : N2.row = N.row ++ [s.pk] := hrow
            obtain ⟨v0, st, we, hme, hfe, hbe, hCe, wf, hsto, hCf, hff, hbf⟩ := CntM.put (w := wd.drew) (g1.same rfl) HSG.out (m := N.row ++ [s.pk]) (by unfold maxLen; omega) (fun q hq => cntK_other hq)
            obtain ⟨cnt, hcnt⟩ : ∃ cnt, cnt = cntK s.pk N.row := ⟨_, rfl⟩
            have hcl : cnt ≤ 1000 := by rw [hcnt]; exact Nat.le_trans (List.length_filter_le _ _) (by omega)
            rw [cntK_snoc, if_pos rfl, ← hcnt] at hsto
            have hag : s.pk.agg = .agg #[.int .i64 s.frm, .int .i64 s.dst, .string s.data] := rfl
            have hgi : goInt (st : Int) = .int .i64 (st : Int) := rfl
            have hl1 := CntM.look (w := wd.drew) (g1.same rfl) HSG.out
            have hl2 := hCe.look HSG.out
            rw [hag, ← hcnt] at hl1 hl2
            rw [hag, hgi] at hme
            rw [hgi] at hsto
            have hw12 := wrap_one (j := cnt) (Nat.lt_of_le_of_lt hcl (by decide))
            obtain ⟨hw1, hw2⟩ := hw12
            have hxe := (hfe bx hbx).trans hxd
            have hxf := (hff bx hbx).trans hxd
            have hsd : wd.drew.cell? ⟨bx, 1, none⟩ = some (.int .i64 s.frm) ∧ wd.drew.cell? ⟨bx, 2, none⟩ = some (.int .i64 s.dst) ∧ wd.drew.cell? ⟨bx, 3, none⟩ = some (.string s.data) := ⟨(blk_cells (w := wd.drew) hxd).1 1, (blk_cells (w := wd.drew) hxd).1 2, (blk_cells (w := wd.drew) hxd).1 3⟩
            have hse : we.cell? ⟨bx, 1, none⟩ = some (.int .i64 s.frm) ∧ we.cell? ⟨bx, 2, none⟩ = some (.int .i64 s.dst) ∧ we.cell? ⟨bx, 3, none⟩ = some (.string s.data) := ⟨(blk_cells hxe).1 1, (blk_cells hxe).1 2, (blk_cells hxe).1 3⟩
            have hsf : wf.cell? ⟨bx, 1, none⟩ = some (.int .i64 s.frm) ∧ wf.cell? ⟨bx, 2, none⟩ = some (.int .i64 s.dst) ∧ wf.cell? ⟨bx, 3, none⟩ = some (.string s.data) := ⟨(blk_cells hxf).1 1, (blk_cells hxf).1 2, (blk_cells hxf).1 3⟩
            have hF : HI w wf p mb m (i + 1) N2 v2 := ⟨pnet_beside_map hn2 g3 g4 hff, HOK2.out, HMO2.out.trans HI4.out.most, by rw [hrow]; exact hCf, HG2.out, (g2.trans (Below.refl _ _).drew).trans (Joins.below_le hbf HI4.out.base), HI4.out.base⟩
            have hlen2 : (N2.row.length : Int) = (N.row.length : Int) + 1 := by rw [hrow]; simp
            have hle2 : ¬ (m : Int) < (N.row.length : Int) + 1 := by have := hF.ok.row; rw [hF.most] at this; omega
            have ha1 : wrap64 ((N.row.length : Int) + 1) = (N.row.length : Int) + 1 := (wrap_one (j := N.row.length) (Nat.lt_of_le_of_lt hlen1 (Nat.lt_of_le_of_lt hm0 (by decide)))).1
            have HF := Lib.hid hF
            have HLEN := Lib.hid hlen2
            clear hF hlen2 hxe hxf hxd tb hCf hff hbf hCe hfe hbe g1 g2 g3 g4 hn2 hb2 hm2 hv2 hcnt hrow
            go_upto_region 16 with fail
            refine wp_region_held_drew (S := (fun W : World => W.cell? ⟨bx, 1, none⟩ = some (.int .i64 s.frm) ∧ W.cell? ⟨bx, 2, none⟩ = some (.int .i64 s.dst) ∧ W.cell? ⟨bx, 3, none⟩ = some (.string s.data))) (by kernel_rfl) hsd (fun hHeld => ?_)
            refine takeD (i := 0) (d := 59) (v := .map (some mb)) rfl rfl (by kernel_rfl) (by kernel_rfl) (by kernel_rfl) (fun _ _ _ h => h) (.inl ⟨by rfl, fun w hSw => by dsimp only at hSw; go_simp; try with_reducible rfl⟩) (by assumption) ?_
            simp only [Act.put, List.setIfInBounds_toArray, List.set_cons_zero, List.set_cons_succ]
            refine takeD (i := 1) (d := 60) (v := .pointer (some ⟨bx, 1, none⟩)) rfl rfl (by kernel_rfl) (by kernel_rfl) (by kernel_rfl) (fun _ _ _ h => h) (.inl ⟨by rfl, fun w hSw => by dsimp only at hSw; go_simp; try with_reducible rfl⟩) (by assumption) ?_
            simp only [Act.put, List.setIfInBounds_toArray, List.set_cons_zero, List.set_cons_succ]
            refine takeD (i := 2) (d := 61) (v := .int .i64 s.frm) rfl rfl (by kernel_rfl) (by kernel_rfl) (by kernel_rfl) (fun _ _ _ h => h) (.inl ⟨by rfl, fun w hSw => by dsimp only at hSw; go_simp; try with_reducible rfl⟩) (by assumption) ?_
            simp only [Act.put, List.setIfInBounds_toArray, List.set_cons_zero, List.set_cons_succ]
            refine takeD (i := 3) (d := 62) (v := .pointer (some ⟨bx, 2, none⟩)) rfl rfl (by kernel_rfl) (by kernel_rfl) (by kernel_rfl) (fun _ _ _ h => h) (.inl ⟨by rfl, fun w hSw => by dsimp only at hSw; go_simp; try with_reducible rfl⟩) (by assumption) ?_
            simp only [Act.put, List.setIfInBounds_toArray, List.set_cons_zero, List.set_cons_succ]
            refine takeD (i := 4) (d := 63) (v := .int .i64 s.dst) rfl rfl (by kernel_rfl) (by kernel_rfl) (by kernel_rfl) (fun _ _ _ h => h) (.inl ⟨by rfl, fun w hSw => by dsimp only at hSw; go_simp; try with_reducible rfl⟩) (by assumption) ?_
            simp only [Act.put, List.setIfInBounds_toArray, List.set_cons_zero, List.set_cons_succ]
            refine takeD (i := 5) (d := 64) (v := .pointer (some ⟨bx, 3, none⟩)) rfl rfl (by kernel_rfl) (by kernel_rfl) (by kernel_rfl) (fun _ _ _ h => h) (.inl ⟨by rfl, fun w hSw => by dsimp only at hSw; go_simp; try with_reducible rfl⟩) (by assumption) ?_
            simp only [Act.put, List.setIfInBounds_toArray, List.set_cons_zero, List.set_cons_succ]
            refine takeD (i := 6) (d := 65) (v := .string s.data) rfl rfl (by kernel_rfl) (by kernel_rfl) (by kernel_rfl) (fun _ _ _ h => h) (.inl ⟨by rfl, fun w hSw => by dsimp only at hSw; go_simp; try with_reducible rfl⟩) (by assumption) ?_
            simp only [Act.put, List.setIfInBounds_toArray, List.set_cons_zero, List.set_cons_succ]
            refine takeD (i := 7) (d := 66) (v := .agg #[.int .i64 s.frm, .int .i64 s.dst, .string s.data]) rfl rfl (by kernel_rfl) (by kernel_rfl) (by kernel_rfl) (fun _ _ _ h => h) (.inl ⟨by rfl, fun w hSw => by dsimp only at hSw; go_simp; try with_reducible rfl⟩) (by assumption) ?_
            simp only [Act.put, List.setIfInBounds_toArray, List.set_cons_zero, List.set_cons_succ]
            refine wpAnyH_ready (rs := [8, 10]) (by kernel_rfl) (by simp) ?_
            refine AllReadyH.cons rfl (fun K hK => ?_) (AllReadyH.cons rfl (fun K hK => ?_) AllReadyH.nil)
            · clear hl2
              rw [if_pos (by rfl)]
              go_simp
              refine hK.out _ _ hsd (fun hHeldhsd => ?_)
              try simp only [Act.put, List.setIfInBounds_toArray, List.set_cons_zero, List.set_cons_succ]
              refine takeD (i := 9) (d := 68) (v := .int .i64 ((cnt : Int) + 1)) rfl rfl (by kernel_rfl) (by kernel_rfl) (by kernel_rfl) (fun _ _ _ h => h) (.inl ⟨by rfl, fun w hSw => by dsimp only at hSw; go_simp; try with_reducible rfl⟩) (by assumption) ?_
              simp only [Act.put, List.setIfInBounds_toArray, List.set_cons_zero, List.set_cons_succ]
              refine wpAnyH_ready (rs := [10]) (by kernel_rfl) (by simp) ?_
              refine AllReadyH.cons rfl (fun K2 hK2 => ?_) AllReadyH.nil
              rw [if_pos (by rfl)]
              go_simp
              refine hK2.out _ _ hse (fun hHeldhse => ?_)
              try simp only [Act.put, List.setIfInBounds_toArray, List.set_cons_zero, List.set_cons_succ]
              refine takeD (i := 11) (d := 70) (v := .int .i64 (st : Int)) rfl rfl (by kernel_rfl) (by kernel_rfl) (by kernel_rfl) (fun _ _ _ h => h) (.inl ⟨by rfl, fun w hSw => by dsimp only at hSw; go_simp; try with_reducible rfl⟩) (by assumption) ?_
              simp only [Act.put, List.setIfInBounds_toArray, List.set_cons_zero, List.set_cons_succ]
              refine wpAnyH_ready (rs := [12]) (by kernel_rfl) (by simp) ?_
              refine AllReadyH.cons rfl (fun K3 hK3 => ?_) AllReadyH.nil
              rw [if_pos (by rfl)]
              go_simp
              refine hK3.out _ _ hsf (fun hHeldhsf => ?_)
              try simp only [Act.put, List.setIfInBounds_toArray, List.set_cons_zero, List.set_cons_succ]
              refine wpAnyH_done (by kernel_rfl) ?_ _
              clear hl1 hHeldhsd hHeldhse hHeldhsf hHeld hsd hse hsf hw1 hw2 hsto hme hag hgi hcl hK hK2 hK3 
              go_wp2_with fail
              refine (plen_any N2 _ _ v2 wf (HF.out).net).mono ?_
              rintro e wx ⟨rfl, rfl⟩
              rw [HLEN.out]
              go_wp2_with fail
              exact ⟨⟨i + 1, N2, v2, by go_num, by rw [HLEN.out], hil, HF⟩, by simp [intOf]; omega⟩
            · clear hl1
              rw [if_pos (by rfl)]
              go_simp
              refine hK.out _ _ hse (fun hHeldhse => ?_)
              try simp only [Act.put, List.setIfInBounds_toArray, List.set_cons_zero, List.set_cons_succ]
              refine takeD (i := 11) (d := 70) (v := .int .i64 (st : Int)) rfl rfl (by kernel_rfl) (by kernel_rfl) (by kernel_rfl) (fun _ _ _ h => h) (.inl ⟨by rfl, fun w hSw => by dsimp only at hSw; go_simp; try with_reducible rfl⟩) (by assumption) ?_
              simp only [Act.put, List.setIfInBounds_toArray, List.set_cons_zero, List.set_cons_succ]
              refine wpAnyH_ready (rs := [8]) (by kernel_rfl) (by simp) ?_
              refine AllReadyH.cons rfl (fun K2 hK2 => ?_) AllReadyH.nil
              rw [if_pos (by rfl)]
              go_simp
              refine hK2.out _ _ hse (fun hHeldhse => ?_)
              try simp only [Act.put, List.setIfInBounds_toArray, List.set_cons_zero, List.set_cons_succ]
              refine takeD (i := 9) (d := 68) (v := .int .i64 ((cnt : Int) + 1)) rfl rfl (by kernel_rfl) (by kernel_rfl) (by kernel_rfl) (fun _ _ _ h => h) (.inl ⟨by rfl, fun w hSw => by dsimp only at hSw; go_simp; try with_reducible rfl⟩) (by assumption) ?_
              simp only [Act.put, List.setIfInBounds_toArray, List.set_cons_zero, List.set_cons_succ]
              refine wpAnyH_ready (rs := [12]) (by kernel_rfl) (by simp) ?_
              refine AllReadyH.cons rfl (fun K3 hK3 => ?_) AllReadyH.nil
              rw [if_pos (by rfl)]
              go_simp
              refine hK3.out _ _ hsf (fun hHeldhsf => ?_)
              try simp only [Act.put, List.setIfInBounds_toArray, List.set_cons_zero, List.set_cons_succ]
              refine wpAnyH_done (by kernel_rfl) ?_ _
              clear hl2 hHeldhse hHeldhsf hHeld hsd hse hsf hw1 hw2 hsto hme hag hgi hcl hK hK2 hK3 
              go_wp2_with fail
              refine (plen_any N2 _ _ v2 wf (HF.out).net).mono ?_
              rintro e wx ⟨rfl, rfl⟩
              rw [HLEN.out]
              go_wp2_with fail
              exact ⟨⟨i + 1, N2, v2, by go_num, by rw [HLEN.out], hil, HF⟩, by simp [intOf]; omega⟩
          · have hE1 : (E == 0) = false := by simpa using hE
            have hrow : N2.row = N.row := hrow
            have hF : HI w wd p mb m (i + 1) N2 v2 := ⟨hn2, HOK2.out, HMO2.out.trans HI4.out.most, by rw [hrow]; exact g1.mono (Nat.le_succ i), HG2.out, g2, HI4.out.base⟩
            have hlen2 : (N2.row.length : Int) = (N.row.length : Int) := by rw [hrow]
            have hle2 : ¬ (m : Int) < (N.row.length : Int) := by omega
            have HF := Lib.hid hF
            have HLEN := Lib.hid hlen2
            clear hF hlen2 hxd tb g1 g2 g3 g4 hn2 hb2 hm2 hv2 hrow
            go_wp2_with fail
            refine (plen_any N2 _ _ v2 wd (HF.out).net).mono ?_
            rintro e wx ⟨rfl, rfl⟩
            rw [HLEN.out]
            go_wp2_with fail
            exact ⟨⟨i + 1, N2, v2, by go_num, by rw [HLEN.out], hil, HF⟩, by simp [intOf]; omega⟩
        · by_cases q1 : kk = 1
          · subst q1
            have cT := ptake_any N s.n i w.heap.size p v w3 HI3.out.net HI3.out.ok HI3.out.bel.size
            have hok2 := HI3.out.ok.take s.n
            have hmost2 := NT.most_take N s.n
            have hg2 := take_good s.n HI3.out.good
            have hcT : ∀ x, (N.take s.n).2 = some x → ∀ q, cntK q (N.take s.n).1.row + (if x = q then 1 else 0) = cntK q N.row ∧ (N.take s.n).1.row.length + 1 = N.row.length := fun x h q => NT.take_cnt h q
            have hnT : (N.take s.n).2 = none → (N.take s.n).1 = N := fun h => NT.take_none h
            have hmem : ∀ x, (N.take s.n).2 = some x → x ∈ N.row := fun x h => by
              unfold NT.take at h
              cases ha : N.at? s.n with
              | none => rw [ha] at h; cases h
              | some y => rw [ha] at h; have e : y = x := Option.some.inj h; rw [← e]; exact at_mem ha
            obtain ⟨R, hR⟩ : ∃ R, R = N.take s.n := ⟨_, rfl⟩
            rw [← hR] at cT hok2 hmost2 hg2 hcT hnT hmem
            obtain ⟨N2, E⟩ := R
            dsimp only at hok2 hmost2 hg2 hcT hnT hmem
            have HOK2 := Lib.hid hok2
            have HMO2 := Lib.hid hmost2
            have HG2 := Lib.hid hg2
            have HCT := Lib.hid hcT
            have HNT := Lib.hid hnT
            have HME := Lib.hid hmem
            clear hok2 hmost2 hg2 hR hlong hcT hnT hmem q0
            cases E with
            | none =>
              have hNN : N2 = N := HNT.out rfl
              subst hNN
              go_wp2_with fail
              refine cT.mono ?_
              rintro e wd ⟨he, v2, hn2, hb2, hm2, hv2⟩
              have he : e = .returned (.tuple #[.agg #[.int .i64 0, .int .i64 0, .string ⟨#[]⟩], .bool false]) := he
              subst he
              obtain ⟨g1, g2, g3, g4⟩ := HI3.out.step hn2 hb2 hm2
              have hF : HI w wd p mb m (i + 1) N2 v2 := ⟨hn2, HOK2.out, HI3.out.most, g1.mono (Nat.le_succ i), HG2.out, g2, HI3.out.base⟩
              obtain ⟨wq, hwq⟩ : ∃ wq, wq = wd.alloc (.cells #[.int .i64 0, .int .i64 0, .string ⟨#[]⟩] 36) := ⟨_, rfl⟩
              have hF2 : HI w wq p mb m (i + 1) N2 v2 := hF.grow (by rw [hwq]; exact (Below.refl _ _).alloc (Nat.le_refl _) _)
              have hle2 : ¬ (m : Int) < (N2.row.length : Int) := by omega
              have HF := Lib.hid hF2
              have HWQ := Lib.hid hwq
              clear hF hF2 hwq g1 g2 g3 g4 hn2 hb2 hm2 hv2 cT k0 k1 k2 k3 k4
              go_upto_region 20 with fail
              rw [← HWQ.out]
              go_wp2_with fail
              refine (plen_any N2 _ _ v2 wq (HF.out).net).mono ?_
              rintro e wx ⟨rfl, rfl⟩
              go_wp2_with fail
              exact ⟨⟨i + 1, N2, v2, by go_num, rfl, hil, HF⟩, by simp [intOf]; omega⟩
            | some x =>
              have hxg := HI3.out.good x (HME.out x rfl)
              go_wp2_with fail
              refine cT.mono ?_
              rintro e wd ⟨he, v2, hn2, hb2, hm2, hv2⟩
              have he : e = .returned (.tuple #[.agg #[.int .i64 x.frm, .int .i64 x.dst, .string x.data], .bool true]) := he
              subst he
              obtain ⟨g1', g2', g3, g4⟩ := HI3.out.step hn2 hb2 hm2
              obtain ⟨wq, hwq⟩ : ∃ wq, wq = wd.alloc (.cells #[.int .i64 x.frm, .int .i64 x.dst, .string x.data] 36) := ⟨_, rfl⟩
              have hbq : Below wd.heap.size wd wq := by rw [hwq]; exact (Below.refl _ _).alloc (Nat.le_refl _) _
              have hxq : wq.heap[wd.heap.size]? = some (.cells #[.int .i64 x.frm, .int .i64 x.dst, .string x.data] 36 (0, 0)) := by rw [hwq]; exact heap_alloc_new wd _
              have g1 := g1'.same (hbq.block _ g1'.lt)
              have g2 := g2'.trans (Joins.below_le hbq g2'.size)
              have hnq := hn2.grow hbq
              have hbbm : wd.heap.size ≠ mb := by have := g1'.lt; omega
              obtain ⟨bb, hbb⟩ : ∃ bb, bb = wd.heap.size := ⟨_, rfl⟩
              rw [← hbb] at hxq hbbm
              obtain ⟨v0, st, we, hme, hfe, hbe, hCe, wf, hsto, hCf, hff, hbf⟩ := CntM.put (w := wq.drew) (g1.same rfl) hxg (m := N2.row) (by unfold maxLen; omega) (fun q hq => by have := (HCT.out x rfl q).1; rw [if_neg (fun e => hq e.symm)] at this; exact this)
              obtain ⟨cnt, hcnt⟩ : ∃ cnt, cnt = cntK x N.row := ⟨_, rfl⟩
              obtain ⟨c2, hc2⟩ : ∃ c2, c2 = cntK x N2.row := ⟨_, rfl⟩
              have hct := (HCT.out x rfl x).1
              rw [if_pos rfl, ← hcnt, ← hc2] at hct
              have hlT := (HCT.out x rfl x).2
              have hcl : cnt ≤ 1000 := by rw [hcnt]; exact Nat.le_trans (List.length_filter_le _ _) (Nat.le_trans hlen1 hm0)
              rw [← hc2] at hsto
              have hag : x.agg = .agg #[.int .i64 x.frm, .int .i64 x.dst, .string x.data] := rfl
              have hgi : goInt (st : Int) = .int .i64 (st : Int) := rfl
              have hl1 := CntM.look (w := wq.drew) (g1.same rfl) hxg
              have hl2 := hCe.look hxg
              rw [hag, ← hcnt] at hl1 hl2
              rw [hag, hgi] at hme
              rw [hgi] at hsto
              have hl3 := hCf.look hxg
              rw [hag, ← hc2] at hl3
              have hxe := (hfe bb hbbm).trans hxq
              have hxf := (hff bb hbbm).trans hxq
              have hsd : wq.drew.cell? ⟨bb, 0, none⟩ = some (.int .i64 x.frm) ∧ wq.drew.cell? ⟨bb, 1, none⟩ = some (.int .i64 x.dst) ∧ wq.drew.cell? ⟨bb, 2, none⟩ = some (.string x.data) := ⟨(blk_cells (w := wq.drew) hxq).1 0, (blk_cells (w := wq.drew) hxq).1 1, (blk_cells (w := wq.drew) hxq).1 2⟩
              have hse : we.cell? ⟨bb, 0, none⟩ = some (.int .i64 x.frm) ∧ we.cell? ⟨bb, 1, none⟩ = some (.int .i64 x.dst) ∧ we.cell? ⟨bb, 2, none⟩ = some (.string x.data) := ⟨(blk_cells (w := we) hxe).1 0, (blk_cells (w := we) hxe).1 1, (blk_cells (w := we) hxe).1 2⟩
              have hsf : wf.cell? ⟨bb, 0, none⟩ = some (.int .i64 x.frm) ∧ wf.cell? ⟨bb, 1, none⟩ = some (.int .i64 x.dst) ∧ wf.cell? ⟨bb, 2, none⟩ = some (.string x.data) := ⟨(blk_cells (w := wf) hxf).1 0, (blk_cells (w := wf) hxf).1 1, (blk_cells (w := wf) hxf).1 2⟩
              obtain ⟨hw1, hw2⟩ := wrap_less hct hcl
              have hF : HI w wf p mb m (i + 1) N2 v2 := ⟨pnet_beside_map hnq g3 g4 hff, HOK2.out, HMO2.out.trans HI3.out.most, hCf, HG2.out, (g2.trans (Below.refl _ _).drew).trans (Joins.below_le hbf HI3.out.base), HI3.out.base⟩
              obtain ⟨ha1, ha2⟩ := wrap_less hlT (Nat.le_trans hlen1 hm0)
              have hle2 : ¬ (m : Int) < (N2.row.length : Int) := not_more (by rw [← hlT] at hlen1; exact Nat.le_trans (Nat.le_succ _) hlen1)
              have hc0 : ¬ (c2 : Int) < 0 := not_neg c2
              have HF := Lib.hid hF
              have HWQ := Lib.hid hwq
              have HBB := Lib.hid hbb
              have HL3 := Lib.hid hl3
              have HSF := Lib.hid hsf
              clear hl3 hF hwq hbb hxe hxf hxq hCf hff hbf hCe hfe hbe g1 g2 g1' g2' g3 g4 hn2 hb2 hm2 hv2 hcnt hc2 hct hlT hnq hbq hbbm hxg cT k0 k1 k2 k3 k4
              go_upto_region 20 with fail
              rw [← HWQ.out, ← HBB.out]
              go_upto_region 21 with fail
              refine wp_region_held_drew (S := (fun W : World => W.cell? ⟨bb, 0, none⟩ = some (.int .i64 x.frm) ∧ W.cell? ⟨bb, 1, none⟩ = some (.int .i64 x.dst) ∧ W.cell? ⟨bb, 2, none⟩ = some (.string x.data))) (by kernel_rfl) hsd (fun hHeld => ?_)
              refine takeD (i := 0) (d := 83) (v := .map (some mb)) rfl rfl (by kernel_rfl) (by kernel_rfl) (by kernel_rfl) (fun _ _ _ h => h) (.inl ⟨by rfl, fun w hSw => by dsimp only at hSw; go_simp; try with_reducible rfl⟩) (by assumption) ?_
              simp only [Act.put, List.setIfInBounds_toArray, List.set_cons_zero, List.set_cons_succ]
              refine takeD (i := 1) (d := 84) (v := .agg #[.int .i64 x.frm, .int .i64 x.dst, .string x.data]) rfl rfl (by kernel_rfl) (by kernel_rfl) (by kernel_rfl) (fun _ _ _ h => h) (.inl ⟨by rfl, fun w hSw => by dsimp only at hSw; go_simp; try with_reducible rfl⟩) (by assumption) ?_
              simp only [Act.put, List.setIfInBounds_toArray, List.set_cons_zero, List.set_cons_succ]
              refine wpAnyH_ready (rs := [2, 4]) (by kernel_rfl) (by simp) ?_
              refine AllReadyH.cons rfl (fun K hK => ?_) (AllReadyH.cons rfl (fun K hK => ?_) AllReadyH.nil)
              · clear hl2
                rw [if_pos (by rfl)]
                go_simp
                refine hK.out _ _ hsd (fun hHeldhsd => ?_)
                try simp only [Act.put, List.setIfInBounds_toArray, List.set_cons_zero, List.set_cons_succ]
                refine takeD (i := 3) (d := 86) (v := .int .i64 (c2 : Int)) rfl rfl (by kernel_rfl) (by kernel_rfl) (by kernel_rfl) (fun _ _ _ h => h) (.inl ⟨by rfl, fun w hSw => by dsimp only at hSw; go_simp; try with_reducible rfl⟩) (by assumption) ?_
                simp only [Act.put, List.setIfInBounds_toArray, List.set_cons_zero, List.set_cons_succ]
                refine wpAnyH_ready (rs := [4]) (by kernel_rfl) (by simp) ?_
                refine AllReadyH.cons rfl (fun K2 hK2 => ?_) AllReadyH.nil
                rw [if_pos (by rfl)]
                go_simp
                refine hK2.out _ _ hse (fun hHeldhse => ?_)
                try simp only [Act.put, List.setIfInBounds_toArray, List.set_cons_zero, List.set_cons_succ]
                refine takeD (i := 5) (d := 88) (v := .int .i64 (st : Int)) rfl rfl (by kernel_rfl) (by kernel_rfl) (by kernel_rfl) (fun _ _ _ h => h) (.inl ⟨by rfl, fun w hSw => by dsimp only at hSw; go_simp; try with_reducible rfl⟩) (by assumption) ?_
                simp only [Act.put, List.setIfInBounds_toArray, List.set_cons_zero, List.set_cons_succ]
                refine wpAnyH_ready (rs := [6]) (by kernel_rfl) (by simp) ?_
                refine AllReadyH.cons rfl (fun K3 hK3 => ?_) AllReadyH.nil
                rw [if_pos (by rfl)]
                go_simp
                refine hK3.out _ _ hsf (fun hHeldhsf => ?_)
                try simp only [Act.put, List.setIfInBounds_toArray, List.set_cons_zero, List.set_cons_succ]
                refine wpAnyH_done (by kernel_rfl) ?_ _
                clear hl1 hHeldhsd hHeldhse hHeldhsf hHeld hsd hse hsf hw1 hw2 hsto hme hag hgi hcl hK hK2 hK3 
                obtain ⟨z0, z1, z2⟩ := HSF.out
                have hl3 := HL3.out
                go_upto_region 32 with fail
                clear hl3 z0 z1 z2
                go_wp2_with fail
                refine (plen_any N2 _ _ v2 wf (HF.out).net).mono ?_
                rintro e wx ⟨rfl, rfl⟩
                go_wp2_with fail
                exact ⟨⟨i + 1, N2, v2, by go_num, rfl, hil, HF⟩, by simp [intOf]; omega⟩
              · clear hl1
                rw [if_pos (by rfl)]
                go_simp
                refine hK.out _ _ hse (fun hHeldhse => ?_)
                try simp only [Act.put, List.setIfInBounds_toArray, List.set_cons_zero, List.set_cons_succ]
                refine takeD (i := 5) (d := 88) (v := .int .i64 (st : Int)) rfl rfl (by kernel_rfl) (by kernel_rfl) (by kernel_rfl) (fun _ _ _ h => h) (.inl ⟨by rfl, fun w hSw => by dsimp only at hSw; go_simp; try with_reducible rfl⟩) (by assumption) ?_
                simp only [Act.put, List.setIfInBounds_toArray, List.set_cons_zero, List.set_cons_succ]
                refine wpAnyH_ready (rs := [2]) (by kernel_rfl) (by simp) ?_
                refine AllReadyH.cons rfl (fun K2 hK2 => ?_) AllReadyH.nil
                rw [if_pos (by rfl)]
                go_simp
                refine hK2.out _ _ hse (fun hHeldhse => ?_)
                try simp only [Act.put, List.setIfInBounds_toArray, List.set_cons_zero, List.set_cons_succ]
                refine takeD (i := 3) (d := 86) (v := .int .i64 (c2 : Int)) rfl rfl (by kernel_rfl) (by kernel_rfl) (by kernel_rfl) (fun _ _ _ h => h) (.inl ⟨by rfl, fun w hSw => by dsimp only at hSw; go_simp; try with_reducible rfl⟩) (by assumption) ?_
                simp only [Act.put, List.setIfInBounds_toArray, List.set_cons_zero, List.set_cons_succ]
                refine wpAnyH_ready (rs := [6]) (by kernel_rfl) (by simp) ?_
                refine AllReadyH.cons rfl (fun K3 hK3 => ?_) AllReadyH.nil
                rw [if_pos (by rfl)]
                go_simp
                refine hK3.out _ _ hsf (fun hHeldhsf => ?_)
                try simp only [Act.put, List.setIfInBounds_toArray, List.set_cons_zero, List.set_cons_succ]
                refine wpAnyH_done (by kernel_rfl) ?_ _
                clear hl2 hHeldhse hHeldhsf hHeld hsd hse hsf hw1 hw2 hsto hme hag hgi hcl hK hK2 hK3 
                obtain ⟨z0, z1, z2⟩ := HSF.out
                have hl3 := HL3.out
                go_upto_region 32 with fail
                clear hl3 z0 z1 z2
                go_wp2_with fail
                refine (plen_any N2 _ _ v2 wf (HF.out).net).mono ?_
                rintro e wx ⟨rfl, rfl⟩
                go_wp2_with fail
                exact ⟨⟨i + 1, N2, v2, by go_num, rfl, hil, HF⟩, by simp [intOf]; omega⟩
          · by_cases q2 : kk = 2
            · subst q2
              have cK := plook_any N s.n _ _ v w3 HI3.out.net
              have hdr := NT.double_row N s.n
              have hok2 := HI3.out.ok.double s.n
              have hmost2 := NT.most_double N s.n
              obtain ⟨y, hy⟩ : ∃ y, y = (N.at? s.n).getD zK := ⟨_, rfl⟩
              obtain ⟨okb, hokb⟩ : ∃ okb, okb = (N.at? s.n).isSome := ⟨_, rfl⟩
              rw [← hy, ← hokb] at cK
              have hyo : ∀ x, N.at? s.n = some x → y = x ∧ okb = true := fun x h => by rw [hy, hokb, h]; exact ⟨rfl, rfl⟩
              have hcD := fun W v B hn hB => pdouble_any N s.n i B p v W hn HI3.out.ok (by omega) hB
              obtain ⟨R, hR⟩ : ∃ R, R = N.double s.n := ⟨_, rfl⟩
              rw [← hR] at hdr hok2 hmost2 hcD
              obtain ⟨N2, E⟩ := R
              dsimp only at hdr hok2 hmost2
              have HDR := Lib.hid hdr
              have HOK2 := Lib.hid hok2
              have HMO2 := Lib.hid hmost2
              have HYO := Lib.hid hyo
              have HCD := Lib.hid hcD
              clear hok2 hmost2 hR hlong hdr hyo hcD hy hokb q0 q1
              go_wp2_with fail
              refine cK.mono ?_
              rintro e wp ⟨he, hbp⟩
              have he : e = .returned (.tuple #[.agg #[.int .i64 y.frm, .int .i64 y.dst, .string y.data], .bool okb]) := he
              subst he
              obtain ⟨wq, hwq⟩ : ∃ wq, wq = wp.alloc (.cells #[.int .i64 y.frm, .int .i64 y.dst, .string y.data] 36) := ⟨_, rfl⟩
              have hbq0 : Below wp.heap.size wp wq := by rw [hwq]; exact (Below.refl _ _).alloc (Nat.le_refl _) _
              have hbq : Below w3.heap.size w3 wq := hbp.trans (Joins.below_le hbq0 hbp.size)
              have hxq : wq.heap[wp.heap.size]? = some (.cells #[.int .i64 y.frm, .int .i64 y.dst, .string y.data] 36 (0, 0)) := by rw [hwq]; exact heap_alloc_new wp _
              have hsq : wq.heap.size = wp.heap.size + 1 := by rw [hwq]; simp
              have hsp := hbp.size
              have hIq := HI3.out.grow hbq
              have hkq : wq.cell? ⟨bx, 4, none⟩ = some (.int .i64 s.n) := (hbq.cell (p := ⟨bx, 4, none⟩) hbxl).trans k4
              have hbbm : wp.heap.size ≠ mb := by have := HI3.out.map.lt; omega
              have hbbp : wp.heap.size ≠ p := by have := HI3.out.net.lt; omega
              have hbbv : v.ownBlock ≠ some wp.heap.size := fun e => by have := (HI3.out.net.row.lt _ e).2; omega
              obtain ⟨bb, hbb⟩ : ∃ bb, bb = wp.heap.size := ⟨_, rfl⟩
              rw [← hbb] at hxq hbbm hbbp hbbv hsq
              have cD := HCD.out wq v w.heap.size hIq.net hIq.bel.size
              have HIQ := Lib.hid hIq
              have HWQ := Lib.hid hwq
              have HBB := Lib.hid hbb
              have HXQ := Lib.hid hxq
              clear hIq hwq hbb hxq hbq hbq0 hbp cK k0 k1 k2 k3 k4
              go_upto_region 27 with fail
              rw [← HWQ.out, ← HBB.out]
              go_wp2_with fail
              refine cD.mono ?_
              rintro e wd ⟨rfl, v2, hn2, hb2, hm2, hv2⟩
              obtain ⟨g1, g2, g3, g4⟩ := HIQ.out.step hn2 hb2 hm2
              have hxd := (hm2 bb (by omega) hbbp hbbv).trans HXQ.out
              clear cD
              rcases HDR.out with ⟨hE, x, hat, hrow⟩ | ⟨hE, hrow⟩
              · subst hE
                obtain ⟨hyx, hob⟩ := HYO.out x hat
                subst hyx hob
                have hyg := HIQ.out.good y (at_mem hat)
                have HX : y = y := rfl
                obtain ⟨x, hx⟩ : ∃ x, x = y := ⟨_, rfl⟩
                subst hx
                obtain ⟨v0, st, we, hme, hfe, hbe, hCe, wf, hsto, hCf, hff, hbf⟩ := CntM.put (w := wd.drew) (g1.same rfl) hyg (m := N.row ++ [x]) (by unfold maxLen; omega) (fun q hq => cntK_other hq)
                obtain ⟨cnt, hcnt⟩ : ∃ cnt, cnt = cntK x N.row := ⟨_, rfl⟩
                have hcl : cnt ≤ 1000 := by rw [hcnt]; exact Nat.le_trans (List.length_filter_le _ _) (Nat.le_trans hlen1 hm0)
                rw [cntK_snoc, if_pos rfl, ← hcnt] at hsto
                have hag : x.agg = .agg #[.int .i64 x.frm, .int .i64 x.dst, .string x.data] := rfl
                have hgi : goInt (st : Int) = .int .i64 (st : Int) := rfl
                have hl1 := CntM.look (w := wd.drew) (g1.same rfl) hyg
                have hl2 := hCe.look hyg
                rw [hag, ← hcnt] at hl1 hl2
                rw [hag, hgi] at hme
                rw [hgi] at hsto
                have hxe := (hfe bb hbbm).trans hxd
                have hxf := (hff bb hbbm).trans hxd
                have hsd : wd.drew.cell? ⟨bb, 0, none⟩ = some (.int .i64 x.frm) ∧ wd.drew.cell? ⟨bb, 1, none⟩ = some (.int .i64 x.dst) ∧ wd.drew.cell? ⟨bb, 2, none⟩ = some (.string x.data) := ⟨(blk_cells (w := wd.drew) hxd).1 0, (blk_cells (w := wd.drew) hxd).1 1, (blk_cells (w := wd.drew) hxd).1 2⟩
                have hse : we.cell? ⟨bb, 0, none⟩ = some (.int .i64 x.frm) ∧ we.cell? ⟨bb, 1, none⟩ = some (.int .i64 x.dst) ∧ we.cell? ⟨bb, 2, none⟩ = some (.string x.data) := ⟨(blk_cells (w := we) hxe).1 0, (blk_cells (w := we) hxe).1 1, (blk_cells (w := we) hxe).1 2⟩
                have hsf : wf.cell? ⟨bb, 0, none⟩ = some (.int .i64 x.frm) ∧ wf.cell? ⟨bb, 1, none⟩ = some (.int .i64 x.dst) ∧ wf.cell? ⟨bb, 2, none⟩ = some (.string x.data) := ⟨(blk_cells (w := wf) hxf).1 0, (blk_cells (w := wf) hxf).1 1, (blk_cells (w := wf) hxf).1 2⟩
                obtain ⟨hw1, hw2⟩ := wrap_one (j := cnt) (Nat.lt_of_le_of_lt hcl (by decide))
                have hgood : ∀ z ∈ N2.row, z.good := fun z hz => by
                  rw [hrow] at hz
                  rcases List.mem_append.1 hz with hz | hz
                  · exact HIQ.out.good z hz
                  · rw [List.mem_singleton.1 hz]; exact hyg
                have hF : HI w wf p mb m (i + 1) N2 v2 := ⟨pnet_beside_map hn2 g3 g4 hff, HOK2.out, HMO2.out.trans HIQ.out.most, by rw [hrow]; exact hCf, hgood, (g2.trans (Below.refl _ _).drew).trans (Joins.below_le hbf HIQ.out.base), HIQ.out.base⟩
                have hlen2 : (N2.row.length : Int) = (N.row.length : Int) + 1 := by rw [hrow]; simp
                have hle2 : ¬ (m : Int) < (N.row.length : Int) + 1 := by have h := hF.ok.row; rw [hF.most] at h; rw [← hlen2]; exact not_more h
                have ha1 : wrap64 ((N.row.length : Int) + 1) = (N.row.length : Int) + 1 := (wrap_one (j := N.row.length) (Nat.lt_of_le_of_lt hlen1 (Nat.lt_of_le_of_lt hm0 (by decide)))).1
                have HF := Lib.hid hF
                have HLEN := Lib.hid hlen2
                clear hF hlen2 hxe hxf hxd hCf hff hbf hCe hfe hbe g1 g2 g3 g4 hn2 hb2 hm2 hv2 hcnt hrow hyg hat hgood hbbm hbbp hbbv hkq hsq hsp HX
                go_upto_region 30 with fail
                refine wp_region_held_drew (S := (fun W : World => W.cell? ⟨bb, 0, none⟩ = some (.int .i64 x.frm) ∧ W.cell? ⟨bb, 1, none⟩ = some (.int .i64 x.dst) ∧ W.cell? ⟨bb, 2, none⟩ = some (.string x.data))) (by kernel_rfl) hsd (fun hHeld => ?_)
                refine takeD (i := 0) (d := 111) (v := .map (some mb)) rfl rfl (by kernel_rfl) (by kernel_rfl) (by kernel_rfl) (fun _ _ _ h => h) (.inl ⟨by rfl, fun w hSw => by dsimp only at hSw; go_simp; try with_reducible rfl⟩) (by assumption) ?_
                simp only [Act.put, List.setIfInBounds_toArray, List.set_cons_zero, List.set_cons_succ]
                refine takeD (i := 1) (d := 112) (v := .agg #[.int .i64 x.frm, .int .i64 x.dst, .string x.data]) rfl rfl (by kernel_rfl) (by kernel_rfl) (by kernel_rfl) (fun _ _ _ h => h) (.inl ⟨by rfl, fun w hSw => by dsimp only at hSw; go_simp; try with_reducible rfl⟩) (by assumption) ?_
                simp only [Act.put, List.setIfInBounds_toArray, List.set_cons_zero, List.set_cons_succ]
                refine wpAnyH_ready (rs := [2, 4]) (by kernel_rfl) (by simp) ?_
                refine AllReadyH.cons rfl (fun K hK => ?_) (AllReadyH.cons rfl (fun K hK => ?_) AllReadyH.nil)
                · clear hl2
                  rw [if_pos (by rfl)]
                  go_simp
                  refine hK.out _ _ hsd (fun hHeldhsd => ?_)
                  try simp only [Act.put, List.setIfInBounds_toArray, List.set_cons_zero, List.set_cons_succ]
                  refine takeD (i := 3) (d := 114) (v := .int .i64 ((cnt : Int) + 1)) rfl rfl (by kernel_rfl) (by kernel_rfl) (by kernel_rfl) (fun _ _ _ h => h) (.inl ⟨by rfl, fun w hSw => by dsimp only at hSw; go_simp; try with_reducible rfl⟩) (by assumption) ?_
                  simp only [Act.put, List.setIfInBounds_toArray, List.set_cons_zero, List.set_cons_succ]
                  refine wpAnyH_ready (rs := [4]) (by kernel_rfl) (by simp) ?_
                  refine AllReadyH.cons rfl (fun K2 hK2 => ?_) AllReadyH.nil
                  rw [if_pos (by rfl)]
                  go_simp
                  refine hK2.out _ _ hse (fun hHeldhse => ?_)
                  try simp only [Act.put, List.setIfInBounds_toArray, List.set_cons_zero, List.set_cons_succ]
                  refine takeD (i := 5) (d := 116) (v := .int .i64 (st : Int)) rfl rfl (by kernel_rfl) (by kernel_rfl) (by kernel_rfl) (fun _ _ _ h => h) (.inl ⟨by rfl, fun w hSw => by dsimp only at hSw; go_simp; try with_reducible rfl⟩) (by assumption) ?_
                  simp only [Act.put, List.setIfInBounds_toArray, List.set_cons_zero, List.set_cons_succ]
                  refine wpAnyH_ready (rs := [6]) (by kernel_rfl) (by simp) ?_
                  refine AllReadyH.cons rfl (fun K3 hK3 => ?_) AllReadyH.nil
                  rw [if_pos (by rfl)]
                  go_simp
                  refine hK3.out _ _ hsf (fun hHeldhsf => ?_)
                  try simp only [Act.put, List.setIfInBounds_toArray, List.set_cons_zero, List.set_cons_succ]
                  refine wpAnyH_done (by kernel_rfl) ?_ _
                  clear hl1 hHeldhsd hHeldhse hHeldhsf hHeld hsd hse hsf hw1 hw2 hsto hme hag hgi hcl hK hK2 hK3 
                  go_wp2_with fail
                  refine (plen_any N2 _ _ v2 wf (HF.out).net).mono ?_
                  rintro e wx ⟨rfl, rfl⟩
                  rw [HLEN.out]
                  go_wp2_with fail
                  exact ⟨⟨i + 1, N2, v2, by go_num, by rw [HLEN.out], hil, HF⟩, by simp [intOf]; omega⟩
                · clear hl1
                  rw [if_pos (by rfl)]
                  go_simp
                  refine hK.out _ _ hse (fun hHeldhse => ?_)
                  try simp only [Act.put, List.setIfInBounds_toArray, List.set_cons_zero, List.set_cons_succ]
                  refine takeD (i := 5) (d := 116) (v := .int .i64 (st : Int)) rfl rfl (by kernel_rfl) (by kernel_rfl) (by kernel_rfl) (fun _ _ _ h => h) (.inl ⟨by rfl, fun w hSw => by dsimp only at hSw; go_simp; try with_reducible rfl⟩) (by assumption) ?_
                  simp only [Act.put, List.setIfInBounds_toArray, List.set_cons_zero, List.set_cons_succ]
                  refine wpAnyH_ready (rs := [2]) (by kernel_rfl) (by simp) ?_
                  refine AllReadyH.cons rfl (fun K2 hK2 => ?_) AllReadyH.nil
                  rw [if_pos (by rfl)]
                  go_simp
                  refine hK2.out _ _ hse (fun hHeldhse => ?_)
                  try simp only [Act.put, List.setIfInBounds_toArray, List.set_cons_zero, List.set_cons_succ]
                  refine takeD (i := 3) (d := 114) (v := .int .i64 ((cnt : Int) + 1)) rfl rfl (by kernel_rfl) (by kernel_rfl) (by kernel_rfl) (fun _ _ _ h => h) (.inl ⟨by rfl, fun w hSw => by dsimp only at hSw; go_simp; try with_reducible rfl⟩) (by assumption) ?_
                  simp only [Act.put, List.setIfInBounds_toArray, List.set_cons_zero, List.set_cons_succ]
                  refine wpAnyH_ready (rs := [6]) (by kernel_rfl) (by simp) ?_
                  refine AllReadyH.cons rfl (fun K3 hK3 => ?_) AllReadyH.nil
                  rw [if_pos (by rfl)]
                  go_simp
                  refine hK3.out _ _ hsf (fun hHeldhsf => ?_)
                  try simp only [Act.put, List.setIfInBounds_toArray, List.set_cons_zero, List.set_cons_succ]
                  refine wpAnyH_done (by kernel_rfl) ?_ _
                  clear hl2 hHeldhse hHeldhsf hHeld hsd hse hsf hw1 hw2 hsto hme hag hgi hcl hK hK2 hK3 
                  go_wp2_with fail
                  refine (plen_any N2 _ _ v2 wf (HF.out).net).mono ?_
                  rintro e wx ⟨rfl, rfl⟩
                  rw [HLEN.out]
                  go_wp2_with fail
                  exact ⟨⟨i + 1, N2, v2, by go_num, by rw [HLEN.out], hil, HF⟩, by simp [intOf]; omega⟩
              · have hE1 : (E == 0) = false := by simpa using hE
                have hF : HI w wd p mb m (i + 1) N2 v2 := ⟨hn2, HOK2.out, HMO2.out.trans HIQ.out.most, by rw [hrow]; exact g1.mono (Nat.le_succ i), by rw [hrow]; exact HIQ.out.good, g2, HIQ.out.base⟩
                have hlen2 : (N2.row.length : Int) = (N.row.length : Int) := by rw [hrow]
                have hle2 : ¬ (m : Int) < (N.row.length : Int) := not_more hlen1
                have HF := Lib.hid hF
                have HLEN := Lib.hid hlen2
                clear hF hlen2 hxd g1 g2 g3 g4 hn2 hb2 hm2 hv2 hrow hkq hsq hsp hbbm hbbp hbbv
                go_wp2_with fail
                refine (plen_any N2 _ _ v2 wd (HF.out).net).mono ?_
                rintro e wx ⟨rfl, rfl⟩
                rw [HLEN.out]
                go_wp2_with fail
                exact ⟨⟨i + 1, N2, v2, by go_num, by rw [HLEN.out], hil, HF⟩, by simp [intOf]; omega⟩
            · have e0 : (kk == 0) = false := by simpa using q0
              have e1 : (kk == 1) = false := by simpa using q1
              have e2 : (kk == 2) = false := by simpa using q2
              have hF := HI3.out.next
              have hle2 : ¬ (m : Int) < (N.row.length : Int) := not_more hlen1
              have HF := Lib.hid hF
              clear hF q0 q1 q2
              go_wp2_with fail
              refine (plen_any N _ _ v w3 (HF.out).net).mono ?_
              rintro e wx ⟨rfl, rfl⟩
              go_wp2_with fail
              exact ⟨⟨i + 1, N, v, by go_num, rfl, hil, HF⟩, by simp [intOf]; omega⟩
      · have a1 : ¬ (i : Int) < (l.length : Int) := by omega
        have HB := Lib.hid hJ.out.bel
        go_wp2_with fail
        go_ret
        exact ⟨rfl, HB.out⟩
end Go.Proofs.Ytmnaekeecjlapaa
