/-
  NetPlays walked. No statement is proved here. No condition.
-/
import Derived.Test.YtclfhidapkoiiaaKPlayM
namespace Go.Proofs.Ytclfhidapkoiiaa
open Go.RowKit

/-- what a way shows, by the name of its proof: 'inferInstanceAs' lays such a proof in a theorem of its own -/
def WayTo {G : Prop} (_ : G) : Type := PLift G
instance wayTo {G : Prop} (h : G) : Nonempty (WayTo h) := ⟨PLift.up h⟩
theorem way_out {G : Prop} (h : Nonempty (PLift G)) : G := h.elim fun x => x.down

set_option maxHeartbeats 100000000 in
set_option maxRecDepth 100000 in
theorem play_walk (nm : Int) (l : List PS) (ul : Value) (w : World) (hu : psR.N w Any ul l) :
    Calls Try.prog 3 #[.int .i64 nm, ul] w fun e w' => e = .returned (.bool true) ∧ Below w.heap.size w w' := by
  obtain ⟨A, c, rfl, hlc, hcm⟩ := hu.slice
  have HU := Lib.hid hu
  clear hu hlc hcm
  have hzp := zero_pk
  have hzr : ∀ W, (zeroValue 39).run Try.prog W = .ok (.agg #[.int .i64 0, .int .i64 0, .string ⟨#[]⟩]) W := fun W => by kernel_rfl
  go_enter Try.func3, Try.ntmps3
  go_wp2_with fail
  refine (pnew_any nm w).mono ?_
  rintro e w1 h1
  rcases h1 with ⟨he1, rfl, rfl⟩ | ⟨he1, rfl, hN1, hb1⟩
  · have HE := Lib.hid he1
    clear he1
    go_wp2_with fail
    refine (rnew_any nm w1).mono ?_
    rintro e w2 h2
    rcases h2 with ⟨-, rfl, rfl⟩ | ⟨he2, -⟩
    case inr => exact absurd he2 HE.out
    go_wp2_with fail
    go_loopw [9] (fun s9 wr => s9 = .int .i64 0 ∧ wr = w2) (fun _ _ => 0)
    case atStart => exact ⟨rfl, rfl⟩
    case round =>
      obtain ⟨rfl, rfl⟩ := hrel
      by_cases hl0 : 0 < l.length
      · have a1 : (0 : Int) < (l.length : Int) := by omega
        go_wp2_with fail
        refine (awake_any wr).mono ?_
        rintro e w3 ⟨rfl, hb⟩
        have HB := Lib.hid hb
        clear hb
        go_wp2_with fail
        go_ret
        exact ⟨rfl, HB.out⟩
      · have a1 : ¬ (0 : Int) < (l.length : Int) := by omega
        go_wp2_with fail
        refine (awake_any wr).mono ?_
        rintro e w3 ⟨rfl, hb⟩
        have HB := Lib.hid hb
        clear hb
        go_wp2_with fail
        go_ret
        exact ⟨rfl, HB.out⟩
  · have HE := Lib.hid he1
    have HN1 := Lib.hid hN1
    have HB1 := Lib.hid hb1
    have hs1 := hb1.size
    clear he1 hN1 hb1
    go_wp2_with fail
    refine (rnew_any nm w1).mono ?_
    rintro e w2 h2
    rcases h2 with ⟨he2, -⟩ | ⟨-, rfl, hR2, hb2⟩
    · exact absurd HE.out he2
    have hm : nm.toNat ≤ 1000 := by
      have h := HE.out
      unfold newErr at h
      split at h
      · cases h
      · omega
    have hb12 := HB1.out.trans (Joins.below_le hb2 hs1)
    have hI : PI w w2 w.heap.size w1.heap.size 0 (NT.new nm.toNat) (.slice none 0 0) (.slice none 0 0) := ⟨HN1.out.grow hb2, ⟨hR2.net, hs1, Rec.Own.none _ _ _ _⟩, NT.new_ok hm, hb12⟩
    have HI := Lib.hid hI
    obtain ⟨p0, hp0⟩ : ∃ p0, p0 = w.heap.size := ⟨_, rfl⟩
    obtain ⟨q, hq⟩ : ∃ q, q = w1.heap.size := ⟨_, rfl⟩
    have HI0 : Hid (PI w w2 p0 q 0 (NT.new nm.toNat) (.slice none 0 0) (.slice none 0 0)) := Lib.hid (by rw [hp0, hq]; exact hI)
    rw [← hp0, ← hq]
    clear hI HI hb12 hR2 hb2 HN1 HB1 hs1 hp0 hq hm
    go_wp2_with fail
    go_loopw [5, 9] (fun s5 s9 wr => ∃ (i p : Nat) (N : NT) (v u : Value), s5 = .pointer (some ⟨p, 0, none⟩) ∧ s9 = .int .i64 (i : Int) ∧ i ≤ l.length ∧ Hid (PI w wr p q i N v u)) (fun _ s9 _ => l.length - (intOf s9).toNat)
    case atStart => exact ⟨0, p0, _, _, _, rfl, rfl, Nat.zero_le _, HI0⟩
    case round =>
      obtain ⟨i, p, N, v, u, rfl, rfl, hi, hJ⟩ := hrel
      obtain ⟨wz, hwz⟩ : ∃ wz : World, wz = wr := ⟨_, rfl⟩
      subst hwz
      by_cases hil : i < l.length
      · have a1 : (i : Int) < (l.length : Int) := by omega
        have a0 : (0 : Int) ≤ (i : Int) := by omega
        by_cases hi100 : i < 100
        · have a2 : (i : Int) < 100 := by omega
          obtain ⟨s, hsi⟩ : ∃ s, l[i]? = some s := ⟨_, List.getElem?_eq_getElem hil⟩
          obtain ⟨b, o, n', k', hv, -, hbl, x0, x1, x2, x3, x4⟩ := ps_cell (HU.out.grow hJ.out.bel) hsi
          injection hv with e1 e2 e3
          subst e1 e3
          clear e2
          obtain ⟨kk, hkk⟩ : ∃ kk, kk = s.kind := ⟨_, rfl⟩
          rw [← hkk] at x0
          obtain ⟨w3, hw3⟩ : ∃ w3, w3 = wz.alloc (.cells #[.int .u8 kk, .int .i64 s.frm, .int .i64 s.dst, .string s.data, .int .i64 s.n] 31) := ⟨_, rfl⟩
          have hb3 : Below wz.heap.size wz w3 := by rw [hw3]; exact (Below.refl _ _).alloc (Nat.le_refl _) _
          have hx3 : w3.heap[wz.heap.size]? = some (.cells #[.int .u8 kk, .int .i64 s.frm, .int .i64 s.dst, .string s.data, .int .i64 s.n] 31 (0, 0)) := by rw [hw3]; exact heap_alloc_new wz _
          have hs3 : w3.heap.size = wz.heap.size + 1 := by rw [hw3]; simp
          have hI3 := hJ.out.grow hb3
          obtain ⟨bx, hbxe⟩ : ∃ bx, bx = wz.heap.size := ⟨_, rfl⟩
          rw [← hbxe] at hx3
          have hbxl : bx < w3.heap.size := by omega
          obtain ⟨k0, k1, k2, k3, k4⟩ : w3.cell? ⟨bx, 0, none⟩ = some (.int .u8 kk) ∧ w3.cell? ⟨bx, 1, none⟩ = some (.int .i64 s.frm) ∧ w3.cell? ⟨bx, 2, none⟩ = some (.int .i64 s.dst) ∧ w3.cell? ⟨bx, 3, none⟩ = some (.string s.data) ∧ w3.cell? ⟨bx, 4, none⟩ = some (.int .i64 s.n) := ⟨(blk_cells hx3).1 0, (blk_cells hx3).1 1, (blk_cells hx3).1 2, (blk_cells hx3).1 3, (blk_cells hx3).1 4⟩
          have HW3 := Lib.hid (show w3 = wz.alloc (.cells #[.int .u8 kk, .int .i64 s.frm, .int .i64 s.dst, .string s.data, .int .i64 s.n] 31) from hw3)
          have HBX := Lib.hid hbxe
          have HX3 := Lib.hid hx3
          have HI3 := Lib.hid hI3
          clear hw3 hbxe hx3 hI3 hb3 hsi hkk hs3
          go_upto_region 10 with fail
          rw [← HW3.out, ← HBX.out]
          clear x0 x1 x2 x3 x4
          rename_i aK
          have HK := Lib.hid aK
          clear aK
          go_wp2_with fail
          refine HK.out _ _ ?_
          clear HK
          go_cut [5, 11, 63] (fun s5 s11 s63 wx => ∃ (p' : Nat) (N' : NT) (v' u' : Value), s5 = .pointer (some ⟨p', 0, none⟩) ∧ s11 = .bool true ∧ s63 = .int .u8 kk ∧ Hid (PI w wx p' q (i + 1) N' v' u'))
          case first =>
            by_cases q0 : kk = 0
            · refine way_out (inferInstanceAs (Nonempty (WayTo (G := _) (by
                subst q0
                obtain ⟨cb, wcv, hcv, hrd, hbc, hsc, hbx, hcc⟩ := conv_bytesX s.data w3 s.hd
                obtain ⟨h4a, h4b, h4c, h4d⟩ := HI3.out.apart (Nat.le_refl _)
                have hI4 := HI3.out.grow hbc
                have hx4 := (hbc.block bx hbxl).trans HX3.out
                obtain ⟨bb, hbb⟩ : ∃ bb, bb = w3.heap.size := ⟨_, rfl⟩
                rw [← hbb] at hcv hrd hbx h4a h4b h4c h4d
                have hbbw : w.heap.size ≤ bb := by rw [hbb]; exact HI3.out.bel.size
                have hI5 := hI4.grow (Below.refl _ _).drew
                have hrd5 := hrd.below (Below.refl _ _).drew (Nat.le_refl _)
                have hx5 : wcv.drew.heap[bx]? = _ := hx4
                have hbx5 : BytesX wcv.drew bb s.data.size := hbx.same rfl
                have tb : TyAt wcv.drew bx 31 := ⟨_, hx5⟩
                have hok2 := hI5.ok.send s.pk
                obtain ⟨R, hR⟩ : ∃ R, R = N.send s.pk := ⟨_, rfl⟩
                have cP : ∀ W, PNetM W w.heap.size p 54 36 v N → Rd W W.heap.size (.slice (some ⟨bb, 0, none⟩) s.data.size cb) s.data.data.toList → w.heap.size ≤ W.heap.size → _ := fun W h1 h2 h3 => psend_any N s.pk s.data.data.toList _ _ i w.heap.size p v W h1 hI5.ok (by omega) h3 h2 (bytes_of s.data).symm
                have cR : ∀ W, NetM W w.heap.size q 47 39 u N → w.heap.size ≤ W.heap.size → _ := fun W h1 h3 => rsend_any N s.pk i w.heap.size q u W h1 hI5.ok (by omega) h3
                rw [← hR] at hok2 cP cR
                obtain ⟨N2, E⟩ := R
                dsimp only [PS.pk] at hok2 cP cR
                have HI5 := Lib.hid hI5
                have HX5 := Lib.hid hx5
                have HOK2 := Lib.hid hok2
                have HB5 := Lib.hid hbx5
                have HRD := Lib.hid hrd5
                have HCP := Lib.hid cP
                have HCR := Lib.hid cR
                have HBBE := Lib.hid hbb
                have hbbl : bb < wcv.drew.heap.size := hbx5.lt
                clear hI4 hx4 hI5 hx5 hok2 hbx5 hbx hbc hrd hrd5 hR cP cR hbb hsc
                have hsd : wcv.drew.cell? ⟨bx, 1, none⟩ = some (.int .i64 s.frm) ∧ wcv.drew.cell? ⟨bx, 2, none⟩ = some (.int .i64 s.dst) ∧ wcv.drew.cell? ⟨bx, 3, none⟩ = some (.string s.data) := ⟨(blk_cells HX5.out).1 1, (blk_cells HX5.out).1 2, (blk_cells HX5.out).1 3⟩
                go_upto_region 18 with fail
                go_cut [11] (fun s11 wx => s11 = .bool true ∧ Hid (∃ v2 u2, PI w wx p q (i + 1) N2 v2 u2 ∧ BytesX wx bb s.data.size ∧ v2.ownBlock ≠ some bb ∧ u2.ownBlock ≠ some bb))
                case first =>
                  have tb_lt : bx < wcv.drew.heap.size := (Array.getElem?_eq_some_iff.1 HX5.out).1
                  refine wp_region_held_drew (S := (fun W : World => W.cell? ⟨bx, 1, none⟩ = some (.int .i64 s.frm) ∧ W.cell? ⟨bx, 2, none⟩ = some (.int .i64 s.dst) ∧ W.cell? ⟨bx, 3, none⟩ = some (.string s.data))) (by decide +kernel) hsd (fun hHeld => ?_)
                  refine takeD (i := 0) (d := 80) (v := .pointer (some ⟨p, 0, none⟩)) rfl rfl (by decide +kernel) (by decide +kernel) (by decide +kernel) (fun _ _ _ h => h) (.inl ⟨by rfl, fun w hSw => by dsimp only at hSw; go_simp; try with_reducible rfl⟩) (by assumption) ?_
                  simp only [Act.put, List.setIfInBounds_toArray, List.set_cons_zero, List.set_cons_succ]
                  refine takeD (i := 1) (d := 81) (v := .pointer (some ⟨bx, 1, none⟩)) rfl rfl (by decide +kernel) (by decide +kernel) (by decide +kernel) (fun _ _ _ h => h) (.inl ⟨by rfl, fun w hSw => by dsimp only at hSw; go_simp; try with_reducible rfl⟩) (by assumption) ?_
                  simp only [Act.put, List.setIfInBounds_toArray, List.set_cons_zero, List.set_cons_succ]
                  refine takeD (i := 2) (d := 82) (v := .int .i64 s.frm) rfl rfl (by decide +kernel) (by decide +kernel) (by decide +kernel) (fun _ _ _ h => h) (.inl ⟨by rfl, fun w hSw => by dsimp only at hSw; go_simp; try with_reducible rfl⟩) (by assumption) ?_
                  simp only [Act.put, List.setIfInBounds_toArray, List.set_cons_zero, List.set_cons_succ]
                  refine takeD (i := 3) (d := 83) (v := .pointer (some ⟨bx, 2, none⟩)) rfl rfl (by decide +kernel) (by decide +kernel) (by decide +kernel) (fun _ _ _ h => h) (.inl ⟨by rfl, fun w hSw => by dsimp only at hSw; go_simp; try with_reducible rfl⟩) (by assumption) ?_
                  simp only [Act.put, List.setIfInBounds_toArray, List.set_cons_zero, List.set_cons_succ]
                  refine takeD (i := 4) (d := 84) (v := .int .i64 s.dst) rfl rfl (by decide +kernel) (by decide +kernel) (by decide +kernel) (fun _ _ _ h => h) (.inl ⟨by rfl, fun w hSw => by dsimp only at hSw; go_simp; try with_reducible rfl⟩) (by assumption) ?_
                  simp only [Act.put, List.setIfInBounds_toArray, List.set_cons_zero, List.set_cons_succ]
                  refine takeD (i := 5) (d := 85) (v := .slice (some ⟨bb, 0, none⟩) s.data.size cb) rfl rfl (by decide +kernel) (by decide +kernel) (by decide +kernel) (fun _ _ _ h => h) (.inl ⟨by rfl, fun w hSw => by dsimp only at hSw; go_simp; try with_reducible rfl⟩) (by assumption) ?_
                  simp only [Act.put, List.setIfInBounds_toArray, List.set_cons_zero, List.set_cons_succ]
                  refine takeD (i := 7) (d := 87) (v := .pointer (some ⟨q, 0, none⟩)) rfl rfl (by decide +kernel) (by decide +kernel) (by decide +kernel) (fun _ _ _ h => h) (.inl ⟨by rfl, fun w hSw => by dsimp only at hSw; go_simp; try with_reducible rfl⟩) (by assumption) ?_
                  simp only [Act.put, List.setIfInBounds_toArray, List.set_cons_zero, List.set_cons_succ]
                  refine takeD (i := 8) (d := 88) (v := .pointer (some ⟨bx, 1, none⟩)) rfl rfl (by decide +kernel) (by decide +kernel) (by decide +kernel) (fun _ _ _ h => h) (.inl ⟨by rfl, fun w hSw => by dsimp only at hSw; go_simp; try with_reducible rfl⟩) (by assumption) ?_
                  simp only [Act.put, List.setIfInBounds_toArray, List.set_cons_zero, List.set_cons_succ]
                  refine takeD (i := 9) (d := 89) (v := .int .i64 s.frm) rfl rfl (by decide +kernel) (by decide +kernel) (by decide +kernel) (fun _ _ _ h => h) (.inl ⟨by rfl, fun w hSw => by dsimp only at hSw; go_simp; try with_reducible rfl⟩) (by assumption) ?_
                  simp only [Act.put, List.setIfInBounds_toArray, List.set_cons_zero, List.set_cons_succ]
                  refine takeD (i := 10) (d := 90) (v := .pointer (some ⟨bx, 2, none⟩)) rfl rfl (by decide +kernel) (by decide +kernel) (by decide +kernel) (fun _ _ _ h => h) (.inl ⟨by rfl, fun w hSw => by dsimp only at hSw; go_simp; try with_reducible rfl⟩) (by assumption) ?_
                  simp only [Act.put, List.setIfInBounds_toArray, List.set_cons_zero, List.set_cons_succ]
                  refine takeD (i := 11) (d := 91) (v := .int .i64 s.dst) rfl rfl (by decide +kernel) (by decide +kernel) (by decide +kernel) (fun _ _ _ h => h) (.inl ⟨by rfl, fun w hSw => by dsimp only at hSw; go_simp; try with_reducible rfl⟩) (by assumption) ?_
                  simp only [Act.put, List.setIfInBounds_toArray, List.set_cons_zero, List.set_cons_succ]
                  refine takeD (i := 12) (d := 92) (v := .pointer (some ⟨bx, 3, none⟩)) rfl rfl (by decide +kernel) (by decide +kernel) (by decide +kernel) (fun _ _ _ h => h) (.inl ⟨by rfl, fun w hSw => by dsimp only at hSw; go_simp; try with_reducible rfl⟩) (by assumption) ?_
                  simp only [Act.put, List.setIfInBounds_toArray, List.set_cons_zero, List.set_cons_succ]
                  refine takeD (i := 13) (d := 93) (v := .string s.data) rfl rfl (by decide +kernel) (by decide +kernel) (by decide +kernel) (fun _ _ _ h => h) (.inl ⟨by rfl, fun w hSw => by dsimp only at hSw; go_simp; try with_reducible rfl⟩) (by assumption) ?_
                  simp only [Act.put, List.setIfInBounds_toArray, List.set_cons_zero, List.set_cons_succ]
                  refine wpAnyH_ready (rs := [6]) (by decide +kernel) (by simp) ?_
                  refine AllReadyH.cons rfl (fun K hK => ?_) AllReadyH.nil
                  · have cP1 := HCP.out wcv.drew HI5.out.net HRD.out HI5.out.bel.size
                    rw [if_pos (by rfl)]
                    go_simp
                    go_at_call 6
                    refine (cP1).mono ?_
                    rintro e wa ⟨rfl, v2, hn2, hb2, hm2, hv2⟩
                    have hxa := (hm2 bx tb_lt (tb.ne HI5.out.net.ty (by decide)) (fun e => tb.ne (own_type HI5.out.net.row e) (by decide) rfl)).trans HX5.out
                    have hba := HB5.out.same (hm2 bb hbbl h4a.symm h4c)
                    have hra := HI5.out.prog hm2
                    have hsa : wa.cell? ⟨bx, 1, none⟩ = some (.int .i64 s.frm) ∧ wa.cell? ⟨bx, 2, none⟩ = some (.int .i64 s.dst) ∧ wa.cell? ⟨bx, 3, none⟩ = some (.string s.data) := ⟨(blk_cells hxa).1 1, (blk_cells hxa).1 2, (blk_cells hxa).1 3⟩
                    have tba : TyAt wa bx 31 := ⟨_, hxa⟩
                    have hBa := HI5.out.bel.trans hb2
                    have cR1 := HCR.out wa hra hBa.size
                    dsimp only
                    refine hK.out _ _ hsa (fun hHeldhK => ?_)
                    try simp only [Act.put, List.setIfInBounds_toArray, List.set_cons_zero, List.set_cons_succ]
                    refine wpAnyH_ready (rs := [14]) (by decide +kernel) (by simp) ?_
                    refine AllReadyH.cons rfl (fun K2 hK2 => ?_) AllReadyH.nil
                    rw [if_pos (by rfl)]
                    go_simp
                    go_at_call 7
                    refine (cR1).mono ?_
                    rintro e wb ⟨rfl, u2, hr2, hb3, hm3, hv3⟩
                    have hxb := (hm3 bx (Array.getElem?_eq_some_iff.1 hxa).1 (tba.ne hra.ty (by decide)) (fun e => tba.ne (own_type hra.row e) (by decide) rfl)).trans hxa
                    have hbb := hba.same (hm3 bb hba.lt h4b.symm h4d)
                    have hnb := hn2.beside2 hra hm3
                    have hsb : wb.cell? ⟨bx, 1, none⟩ = some (.int .i64 s.frm) ∧ wb.cell? ⟨bx, 2, none⟩ = some (.int .i64 s.dst) ∧ wb.cell? ⟨bx, 3, none⟩ = some (.string s.data) := ⟨(blk_cells hxb).1 1, (blk_cells hxb).1 2, (blk_cells hxb).1 3⟩
                    have hF : ∃ v2 u2, PI w wb p q (i + 1) N2 v2 u2 ∧ BytesX wb bb s.data.size ∧ v2.ownBlock ≠ some bb ∧ u2.ownBlock ≠ some bb := ⟨v2, u2, PI.made hnb hr2 HOK2.out (hBa.trans hb3), hbb, fun e => (hv2 bb e).elim h4c (fun e => by omega), fun e => (hv3 bb e).elim h4d (fun e => by have := hba.lt; omega)⟩
                    have HF := Lib.hid hF
                    dsimp only
                    refine hK2.out _ _ hsb (fun hHeldhK2 => ?_)
                    try simp only [Act.put, List.setIfInBounds_toArray, List.set_cons_zero, List.set_cons_succ]
                    clear hsd
                    refine takeD (i := 15) (d := 95) (v := .bool true) rfl rfl (by decide +kernel) (by decide +kernel) (by decide +kernel) (fun _ _ _ h => h) (.inl ⟨by rfl, fun w hSw => by dsimp only at hSw; go_simp; try with_reducible rfl⟩) (by assumption) ?_
                    simp only [Act.put, List.setIfInBounds_toArray, List.set_cons_zero, List.set_cons_succ]
                    refine takeD (i := 16) (d := 11) (v := .bool true) rfl rfl (by decide +kernel) (by decide +kernel) (by decide +kernel) (fun _ _ _ h => h) (.inl ⟨by rfl, fun w hSw => by dsimp only at hSw; go_simp; try with_reducible rfl⟩) (by assumption) ?_
                    simp only [Act.put, List.setIfInBounds_toArray, List.set_cons_zero, List.set_cons_succ]
                    refine wpAnyH_done (by decide +kernel) ?_ _
                    go_wp2_with fail
                    go_meet
                    exact ⟨rfl, HF⟩
                case rest =>
                  obtain ⟨rfl, hF⟩ := hcut
                  obtain ⟨wy, hwy⟩ : ∃ wy : World, wy = wc := ⟨_, rfl⟩
                  subst hwy
                  obtain ⟨v2, u2, hP, hBx, hav, hau⟩ := hF.out
                  have HP := Lib.hid hP
                  have HBX2 := Lib.hid hBx
                  have hd47 : (s.data.size : Int) ≤ 140737488355328 := by have := s.hd; omega
                  clear hP hBx hF hsd tb HB5 HX5 HI5 HRD HCP HCR hbbl hcv
                  go_wp2_with fail
                  go_loopw [13] (fun s13 wr => ∃ k : Nat, s13 = .int .i64 (k : Int) ∧ k ≤ s.data.size ∧ Hid (PI w wr p q (i + 1) N2 v2 u2 ∧ BytesX wr bb s.data.size)) (fun s13 _ => s.data.size - (intOf s13).toNat)
                  case atStart => exact ⟨0, rfl, Nat.zero_le _, Lib.hid ⟨HP.out, HBX2.out⟩⟩
                  case round =>
                    obtain ⟨k, rfl, hk, hPB⟩ := hrel
                    obtain ⟨wy2, hwy2⟩ : ∃ wy2 : World, wy2 = wr := ⟨_, rfl⟩
                    subst hwy2
                    by_cases hkl : k < s.data.size
                    · have b1 : (k : Int) < (s.data.size : Int) := by omega
                      have b0 : (0 : Int) ≤ (k : Int) := by omega
                      obtain ⟨x9, z1, z2, hset⟩ := hPB.out.2.poke hkl
                      have hP2 := hPB.out.1.poke (j := k) (x := .int .u8 85) hbbw h4a h4b hav hau
                      have HP2 := Lib.hid (And.intro hP2 (hset (.int .u8 85)))
                      clear hP2 hset
                      go_wp2_with fail
                      exact ⟨⟨k + 1, by go_num, hkl, HP2⟩, by simp [intOf]; omega⟩
                    · have b1 : ¬ (k : Int) < (s.data.size : Int) := by omega
                      have HP2 := Lib.hid hPB.out.1
                      go_wp2_with fail
                      go_meet
                      exact ⟨_, _, _, _, rfl, rfl, rfl, HP2⟩))))
            · by_cases q1 : kk = 1
              · refine way_out (inferInstanceAs (Nonempty (WayTo (G := _) (by
                  subst q1
                  have cT := ptake_any N s.n i w.heap.size p v w3 HI3.out.net HI3.out.ok HI3.out.bel.size
                  have cU : ∀ W, NetM W w.heap.size q 47 39 u N → w.heap.size ≤ W.heap.size → _ := fun W h1 h2 => rtake_any N s.n i w.heap.size q u W h1 HI3.out.ok h2
                  have hok2 := HI3.out.ok.take s.n
                  obtain ⟨R, hR⟩ : ∃ R, R = N.take s.n := ⟨_, rfl⟩
                  rw [← hR] at cT cU hok2
                  obtain ⟨N2, E⟩ := R
                  dsimp only at cT cU hok2
                  obtain ⟨y, hy⟩ : ∃ y, y = E.getD zK := ⟨_, rfl⟩
                  obtain ⟨ob, hob⟩ : ∃ ob, ob = E.isSome := ⟨_, rfl⟩
                  rw [← hy, ← hob] at cT cU
                  unfold PK.agg at cT cU
                  have HOK2 := Lib.hid hok2
                  have HCU := Lib.hid cU
                  clear hok2 cU hR hy hob q0
                  go_wp2_with fail
                  refine cT.mono ?_
                  rintro e wa ⟨rfl, v2, hn2, hb2, hm2, hv2⟩
                  have tb : TyAt w3 bx 31 := ⟨_, HX3.out⟩
                  have hxa := (hm2 bx hbxl (tb.ne HI3.out.net.ty (by decide)) (fun e => tb.ne (own_type HI3.out.net.row e) (by decide) rfl)).trans HX3.out
                  have hra := HI3.out.prog hm2
                  have hBa := HI3.out.bel.trans hb2
                  obtain ⟨wq, hwq⟩ : ∃ wq, wq = wa.alloc (.cells #[.int .i64 y.frm, .int .i64 y.dst, .string y.data] 36) := ⟨_, rfl⟩
                  have hbq : Below wa.heap.size wa wq := by rw [hwq]; exact (Below.refl _ _).alloc (Nat.le_refl _) _
                  have hyq : wq.heap[wa.heap.size]? = some (.cells #[.int .i64 y.frm, .int .i64 y.dst, .string y.data] 36 (0, 0)) := by rw [hwq]; exact heap_alloc_new wa _
                  have hxq := (hbq.block bx (Array.getElem?_eq_some_iff.1 hxa).1).trans hxa
                  have hnq := hn2.grow hbq
                  have hrq := hra.grow hbq
                  have hBq := hBa.trans (Joins.below_le hbq hBa.size)
                  have kq : wq.cell? ⟨bx, 4, none⟩ = some (.int .i64 s.n) := (blk_cells hxq).1 4
                  have HWQ := Lib.hid hwq
                  have cU := HCU.out wq hrq hBq.size
                  have HNQ := Lib.hid hnq
                  have HRQ := Lib.hid hrq
                  have HBQ := Lib.hid hBq
                  have HYQ := Lib.hid hyq
                  have tya : TyAt wq wa.heap.size 36 := ⟨_, hyq⟩
                  have HTY := Lib.hid tya
                  clear hwq hbq hyq hxq hnq hrq hBq hxa hra hBa hn2 hb2 hm2 hv2 tb tya cT k0 k1 k2 k3 k4
                  go_upto_region 25 with fail
                  rw [← HWQ.out]
                  go_wp2_with fail
                  refine cU.mono ?_
                  rintro e wb ⟨rfl, u2, hr3, hb3, hm3, hv3⟩
                  have hlq : wa.heap.size < wq.heap.size := (Array.getElem?_eq_some_iff.1 HYQ.out).1
                  have hyb := (hm3 wa.heap.size hlq (HTY.out.ne HRQ.out.ty (by decide)) (fun e => HTY.out.ne (own_type HRQ.out.row e) (by decide) rfl)).trans HYQ.out
                  have hnb := HNQ.out.beside2 HRQ.out hm3
                  have hBb := HBQ.out.trans hb3
                  obtain ⟨wr2, hwr2⟩ : ∃ wr2, wr2 = wb.alloc (.cells #[.int .i64 y.frm, .int .i64 y.dst, .string y.data] 39) := ⟨_, rfl⟩
                  have hbr : Below wb.heap.size wb wr2 := by rw [hwr2]; exact (Below.refl _ _).alloc (Nat.le_refl _) _
                  have hzr2 : wr2.heap[wb.heap.size]? = some (.cells #[.int .i64 y.frm, .int .i64 y.dst, .string y.data] 39 (0, 0)) := by rw [hwr2]; exact heap_alloc_new wb _
                  have hyr := (hbr.block _ (Array.getElem?_eq_some_iff.1 hyb).1).trans hyb
                  have hb1' : Below wr2.heap.size wr2 (wr2.alloc (.cells #[.int .i64 y.frm, .int .i64 y.dst, .string y.data] 36)) := (Below.refl _ _).alloc (Nat.le_refl _) _
                  have hs1' : (wr2.alloc (.cells #[.int .i64 y.frm, .int .i64 y.dst, .string y.data] 36)).heap.size = wr2.heap.size + 1 := by simp
                  have hrow1 : pkR.N (wr2.alloc (.cells #[.int .i64 y.frm, .int .i64 y.dst, .string y.data] 36)) Any (.slice (some ⟨wr2.heap.size, 0, none⟩) 1 1) [y] := Rec.one_row (R := pkR) (heap_alloc_new wr2 _) trivial
                  have hb2' : Below (wr2.alloc (.cells #[.int .i64 y.frm, .int .i64 y.dst, .string y.data] 36)).heap.size (wr2.alloc (.cells #[.int .i64 y.frm, .int .i64 y.dst, .string y.data] 36)) ((wr2.alloc (.cells #[.int .i64 y.frm, .int .i64 y.dst, .string y.data] 36)).alloc (.cells #[.int .i64 y.frm, .int .i64 y.dst, .string y.data] 39)) := (Below.refl _ _).alloc (Nat.le_refl _) _
                  have hrow2 : pkR.N ((wr2.alloc (.cells #[.int .i64 y.frm, .int .i64 y.dst, .string y.data] 36)).alloc (.cells #[.int .i64 y.frm, .int .i64 y.dst, .string y.data] 39)) Any (.slice (some ⟨wr2.heap.size + 1, 0, none⟩) 1 1) [y] := by
                    have h := Rec.one_row (R := pkR) (N := Any) (a := y) (heap_alloc_new (wr2.alloc (.cells #[.int .i64 y.frm, .int .i64 y.dst, .string y.data] 36)) (.cells (pkR.vals y).toArray 39)) trivial
                    rw [hs1'] at h
                    exact h
                  have cL := told_yes [y] _ _ _ (hrow1.grow hb2') hrow2
                  have hPb : PI w wb p q (i + 1) N2 v2 u2 := PI.made hnb hr3 HOK2.out hBb
                  have hPr := ((hPb.grow hbr).grow hb1').grow hb2'
                  obtain ⟨r0, r1, r2⟩ : wr2.cell? ⟨wa.heap.size, 0, none⟩ = some (.int .i64 y.frm) ∧ wr2.cell? ⟨wa.heap.size, 1, none⟩ = some (.int .i64 y.dst) ∧ wr2.cell? ⟨wa.heap.size, 2, none⟩ = some (.string y.data) := ⟨(blk_cells hyr).1 0, (blk_cells hyr).1 1, (blk_cells hyr).1 2⟩
                  have hz1 := (hb1'.block _ (Array.getElem?_eq_some_iff.1 hzr2).1).trans hzr2
                  obtain ⟨t0, t1, t2⟩ : (wr2.alloc (.cells #[.int .i64 y.frm, .int .i64 y.dst, .string y.data] 36)).cell? ⟨wb.heap.size, 0, none⟩ = some (.int .i64 y.frm) ∧ (wr2.alloc (.cells #[.int .i64 y.frm, .int .i64 y.dst, .string y.data] 36)).cell? ⟨wb.heap.size, 1, none⟩ = some (.int .i64 y.dst) ∧ (wr2.alloc (.cells #[.int .i64 y.frm, .int .i64 y.dst, .string y.data] 36)).cell? ⟨wb.heap.size, 2, none⟩ = some (.string y.data) := ⟨(blk_cells hz1).1 0, (blk_cells hz1).1 1, (blk_cells hz1).1 2⟩
                  have HWR := Lib.hid hwr2
                  have HPR := Lib.hid hPr
                  have HCL := Lib.hid cL
                  clear hwr2 hPr hPb hbr hzr2 hyr hb1' hs1' hrow1 hb2' hrow2 hz1 hyb hnb hBb hr3 hb3 hm3 hv3 cU cL kq hlq
                  go_upto_region 26 with fail
                  rw [← HWR.out]
                  go_wp2_with fail
                  refine HCL.out.mono ?_
                  rintro e wt ⟨rfl, hbt⟩
                  have HF := Lib.hid (HPR.out.grow hbt)
                  clear hbt
                  go_wp2_with fail
                  go_meet
                  exact ⟨p, N2, v2, u2, rfl, rfl, rfl, HF⟩))))
              · by_cases q2 : kk = 2
                · refine way_out (inferInstanceAs (Nonempty (WayTo (G := _) (by
                    subst q2
                    have hI5 := HI3.out.grow (Below.refl _ _).drew
                    have hx5 : w3.drew.heap[bx]? = _ := HX3.out
                    have tb : TyAt w3.drew bx 31 := ⟨_, hx5⟩
                    have hok2 := hI5.ok.double s.n
                    have cP : ∀ W, PNetM W w.heap.size p 54 36 v N → w.heap.size ≤ W.heap.size → _ := fun W h1 h3 => pdouble_any N s.n i w.heap.size p v W h1 hI5.ok (by omega) h3
                    have cR : ∀ W, NetM W w.heap.size q 47 39 u N → w.heap.size ≤ W.heap.size → _ := fun W h1 h3 => rdouble_any N s.n i w.heap.size q u W h1 hI5.ok (by omega) h3
                    obtain ⟨R, hR⟩ : ∃ R, R = N.double s.n := ⟨_, rfl⟩
                    rw [← hR] at hok2 cP cR
                    obtain ⟨N2, E⟩ := R
                    dsimp only at hok2 cP cR
                    have HI5 := Lib.hid hI5
                    have HX5 := Lib.hid hx5
                    have HOK2 := Lib.hid hok2
                    have HCP := Lib.hid cP
                    have HCR := Lib.hid cR
                    have hsd : w3.drew.cell? ⟨bx, 4, none⟩ = some (.int .i64 s.n) := (blk_cells HX5.out).1 4
                    have tb_lt : bx < w3.drew.heap.size := (Array.getElem?_eq_some_iff.1 HX5.out).1
                    clear hI5 hx5 hok2 cP cR hR q0 q1 k0 k1 k2 k3 k4
                    go_upto_region 28 with fail
                    refine wp_region_held_drew (S := (fun W : World => W.cell? ⟨bx, 4, none⟩ = some (.int .i64 s.n))) (by decide +kernel) hsd (fun hHeld => ?_)
                    refine takeD (i := 0) (d := 133) (v := .pointer (some ⟨p, 0, none⟩)) rfl rfl (by decide +kernel) (by decide +kernel) (by decide +kernel) (fun _ _ _ h => h) (.inl ⟨by rfl, fun w hSw => by dsimp only at hSw; go_simp; try with_reducible rfl⟩) (by assumption) ?_
                    simp only [Act.put, List.setIfInBounds_toArray, List.set_cons_zero, List.set_cons_succ]
                    refine takeD (i := 1) (d := 134) (v := .pointer (some ⟨bx, 4, none⟩)) rfl rfl (by decide +kernel) (by decide +kernel) (by decide +kernel) (fun _ _ _ h => h) (.inl ⟨by rfl, fun w hSw => by dsimp only at hSw; go_simp; try with_reducible rfl⟩) (by assumption) ?_
                    simp only [Act.put, List.setIfInBounds_toArray, List.set_cons_zero, List.set_cons_succ]
                    refine takeD (i := 2) (d := 135) (v := .int .i64 s.n) rfl rfl (by decide +kernel) (by decide +kernel) (by decide +kernel) (fun _ _ _ h => h) (.inl ⟨by rfl, fun w hSw => by dsimp only at hSw; go_simp; try with_reducible rfl⟩) (by assumption) ?_
                    simp only [Act.put, List.setIfInBounds_toArray, List.set_cons_zero, List.set_cons_succ]
                    refine takeD (i := 4) (d := 137) (v := .pointer (some ⟨q, 0, none⟩)) rfl rfl (by decide +kernel) (by decide +kernel) (by decide +kernel) (fun _ _ _ h => h) (.inl ⟨by rfl, fun w hSw => by dsimp only at hSw; go_simp; try with_reducible rfl⟩) (by assumption) ?_
                    simp only [Act.put, List.setIfInBounds_toArray, List.set_cons_zero, List.set_cons_succ]
                    refine takeD (i := 5) (d := 138) (v := .pointer (some ⟨bx, 4, none⟩)) rfl rfl (by decide +kernel) (by decide +kernel) (by decide +kernel) (fun _ _ _ h => h) (.inl ⟨by rfl, fun w hSw => by dsimp only at hSw; go_simp; try with_reducible rfl⟩) (by assumption) ?_
                    simp only [Act.put, List.setIfInBounds_toArray, List.set_cons_zero, List.set_cons_succ]
                    refine takeD (i := 6) (d := 139) (v := .int .i64 s.n) rfl rfl (by decide +kernel) (by decide +kernel) (by decide +kernel) (fun _ _ _ h => h) (.inl ⟨by rfl, fun w hSw => by dsimp only at hSw; go_simp; try with_reducible rfl⟩) (by assumption) ?_
                    simp only [Act.put, List.setIfInBounds_toArray, List.set_cons_zero, List.set_cons_succ]
                    refine wpAnyH_ready (rs := [3]) (by decide +kernel) (by simp) ?_
                    refine AllReadyH.cons rfl (fun K hK => ?_) AllReadyH.nil
                    · have cP1 := HCP.out w3.drew HI5.out.net HI5.out.bel.size
                      rw [if_pos (by rfl)]
                      go_simp
                      go_at_call 11
                      refine (cP1).mono ?_
                      rintro e wa ⟨rfl, v2, hn2, hb2, hm2, hv2⟩
                      have hxa := (hm2 bx tb_lt (tb.ne HI5.out.net.ty (by decide)) (fun e => tb.ne (own_type HI5.out.net.row e) (by decide) rfl)).trans HX5.out
                      have hra := HI5.out.prog hm2
                      have hsa : wa.cell? ⟨bx, 4, none⟩ = some (.int .i64 s.n) := (blk_cells hxa).1 4
                      have tba : TyAt wa bx 31 := ⟨_, hxa⟩
                      have hBa := HI5.out.bel.trans hb2
                      have cR1 := HCR.out wa hra hBa.size
                      dsimp only
                      refine hK.out _ _ hsa (fun hHeldhK => ?_)
                      try simp only [Act.put, List.setIfInBounds_toArray, List.set_cons_zero, List.set_cons_succ]
                      refine wpAnyH_ready (rs := [7]) (by decide +kernel) (by simp) ?_
                      refine AllReadyH.cons rfl (fun K2 hK2 => ?_) AllReadyH.nil
                      rw [if_pos (by rfl)]
                      go_simp
                      go_at_call 12
                      refine (cR1).mono ?_
                      rintro e wb ⟨rfl, u2, hr2, hb3, hm3, hv3⟩
                      have hxb := (hm3 bx (Array.getElem?_eq_some_iff.1 hxa).1 (tba.ne hra.ty (by decide)) (fun e => tba.ne (own_type hra.row e) (by decide) rfl)).trans hxa
                      have hnb := hn2.beside2 hra hm3
                      have hsb : wb.cell? ⟨bx, 4, none⟩ = some (.int .i64 s.n) := (blk_cells hxb).1 4
                      have HF := Lib.hid (PI.made hnb hr2 HOK2.out (hBa.trans hb3))
                      dsimp only
                      refine hK2.out _ _ hsb (fun hHeldhK2 => ?_)
                      try simp only [Act.put, List.setIfInBounds_toArray, List.set_cons_zero, List.set_cons_succ]
                      clear hsd
                      refine takeD (i := 8) (d := 141) (v := .bool true) rfl rfl (by decide +kernel) (by decide +kernel) (by decide +kernel) (fun _ _ _ h => h) (.inl ⟨by rfl, fun w hSw => by dsimp only at hSw; go_simp; try with_reducible rfl⟩) (by assumption) ?_
                      simp only [Act.put, List.setIfInBounds_toArray, List.set_cons_zero, List.set_cons_succ]
                      refine takeD (i := 9) (d := 11) (v := .bool true) rfl rfl (by decide +kernel) (by decide +kernel) (by decide +kernel) (fun _ _ _ h => h) (.inl ⟨by rfl, fun w hSw => by dsimp only at hSw; go_simp; try with_reducible rfl⟩) (by assumption) ?_
                      simp only [Act.put, List.setIfInBounds_toArray, List.set_cons_zero, List.set_cons_succ]
                      refine wpAnyH_done (by decide +kernel) ?_ _
                      go_wp2_with fail
                      go_meet
                      exact ⟨p, N2, _, _, rfl, rfl, rfl, HF⟩))))
                · by_cases q3 : kk = 3
                  · subst q3
                    have cK := plook_any N s.n _ _ v w3 HI3.out.net
                    obtain ⟨Ad, cd, hua⟩ := HI3.out.ref.row.slice
                    subst hua
                    obtain ⟨nn, hnn⟩ : ∃ nn, nn = s.n := ⟨_, rfl⟩
                    rw [← hnn] at k4 cK
                    clear hnn q0 q1 q2 k1 k2 k3 HX3
                    have hl0 : N.row.length ≤ 1000 := Nat.le_trans HI3.out.ok.row HI3.out.ok.most
                    cases hat : N.at? nn with
                    | none =>
                      rw [hat] at cK
                      have hout := NT.at_none.1 hat
                      clear hat
                      go_wp2_with fail
                      refine cK.mono ?_
                      rintro e wa ⟨he, hba⟩
                      have he : e = .returned (.tuple #[.agg #[.int .i64 0, .int .i64 0, .string ⟨#[]⟩], .bool false]) := he
                      subst he
                      obtain ⟨wq, hwq⟩ : ∃ wq, wq = wa.alloc (.cells #[.int .i64 0, .int .i64 0, .string ⟨#[]⟩] 36) := ⟨_, rfl⟩
                      have hbq : Below wa.heap.size wa wq := by rw [hwq]; exact (Below.refl _ _).alloc (Nat.le_refl _) _
                      have hyq : wq.drew.heap[wa.heap.size]? = some (.cells #[.int .i64 0, .int .i64 0, .string ⟨#[]⟩] 36 (0, 0)) := by rw [hwq]; exact heap_alloc_new wa _
                      have hbt : Below w3.heap.size w3 wq.drew := (hba.trans (Joins.below_le hbq hba.size)).drew
                      have hPq := HI3.out.grow hbt
                      have kq : wq.drew.cell? ⟨bx, 4, none⟩ = some (.int .i64 nn) := (hbt.cell (p := ⟨bx, 4, none⟩) hbxl).trans k4
                      have hsd : (wq.drew.cell? ⟨wa.heap.size, 0, none⟩ = some (.int .i64 0) ∧ wq.drew.cell? ⟨wa.heap.size, 1, none⟩ = some (.int .i64 0) ∧ wq.drew.cell? ⟨wa.heap.size, 2, none⟩ = some (.string ⟨#[]⟩)) ∧ wq.drew.cell? ⟨bx, 4, none⟩ = some (.int .i64 nn) ∧ wq.drew.cell? ⟨q, 2, none⟩ = some (.slice Ad N.row.length cd) := ⟨⟨(blk_cells hyq).1 0, (blk_cells hyq).1 1, (blk_cells hyq).1 2⟩, kq, (blk_cells hPq.ref.net).1 2⟩
                      have HF := Lib.hid (hPq.mono (Nat.le_succ i))
                      have HWQ := Lib.hid hwq
                      clear hwq hbq hyq hbt hPq kq cK hba k0 k4
                      go_upto_region 31 with fail
                      rw [← HWQ.out]
                      by_cases hn0 : nn < 0
                      · refine way_out (inferInstanceAs (Nonempty (WayTo (G := _) (by
                          have hn1 : ¬ 0 ≤ nn := by omega
                          clear hout
                          refine wp_region_held_drew (S := (fun W : World => (W.cell? ⟨wa.heap.size, 0, none⟩ = some (.int .i64 0) ∧ W.cell? ⟨wa.heap.size, 1, none⟩ = some (.int .i64 0) ∧ W.cell? ⟨wa.heap.size, 2, none⟩ = some (.string ⟨#[]⟩)) ∧ W.cell? ⟨bx, 4, none⟩ = some (.int .i64 nn) ∧ W.cell? ⟨q, 2, none⟩ = some (.slice Ad N.row.length cd))) (by decide +kernel) hsd (fun hHeld => ?_)
                          refine takeD (i := 0) (d := 151) (v := .bool false) rfl rfl (by decide +kernel) (by decide +kernel) (by decide +kernel) (fun _ _ _ h => h) (.inl ⟨by rfl, fun w hSw => by dsimp only at hSw; go_simp; try with_reducible rfl⟩) (by assumption) ?_
                          simp only [Act.put, List.setIfInBounds_toArray, List.set_cons_zero, List.set_cons_succ]
                          refine takeD (i := 1) (d := 152) (v := .pointer (some ⟨bx, 4, none⟩)) rfl rfl (by decide +kernel) (by decide +kernel) (by decide +kernel) (fun _ _ _ h => h) (.inl ⟨by rfl, fun w hSw => by dsimp only at hSw; go_simp; try with_reducible rfl⟩) (by assumption) ?_
                          simp only [Act.put, List.setIfInBounds_toArray, List.set_cons_zero, List.set_cons_succ]
                          refine takeD (i := 2) (d := 153) (v := .int .i64 nn) rfl rfl (by decide +kernel) (by decide +kernel) (by decide +kernel) (fun _ _ _ h => h) (.inl ⟨by rfl, fun w hSw => by dsimp only at hSw; go_simp; try with_reducible rfl⟩) (by assumption) ?_
                          simp only [Act.put, List.setIfInBounds_toArray, List.set_cons_zero, List.set_cons_succ]
                          refine takeD (i := 3) (d := 154) (v := .bool false) rfl rfl (by decide +kernel) (by decide +kernel) (by decide +kernel) (fun _ _ _ h => h) (.inl ⟨by rfl, fun w hSw => by dsimp only at hSw; go_simp; try with_reducible rfl⟩) (by assumption) ?_
                          simp only [Act.put, List.setIfInBounds_toArray, List.set_cons_zero, List.set_cons_succ]
                          refine takeD (i := 4) (d := 155) (v := .bool false) rfl rfl (by decide +kernel) (by decide +kernel) (by decide +kernel) (fun _ _ _ h => h) (.inl ⟨by rfl, fun w hSw => by dsimp only at hSw; go_simp; try with_reducible rfl⟩) (by assumption) ?_
                          simp only [Act.put, List.setIfInBounds_toArray, List.set_cons_zero, List.set_cons_succ]
                          refine takeD (i := 5) (d := 156) (v := undef) rfl rfl (by decide +kernel) (by decide +kernel) (by decide +kernel) (fun _ _ _ h => h) (.inr ⟨by rfl, rfl⟩) (by assumption) ?_
                          simp only [Act.put, List.setIfInBounds_toArray, List.set_cons_zero, List.set_cons_succ]
                          refine takeD (i := 6) (d := 157) (v := undef) rfl rfl (by decide +kernel) (by decide +kernel) (by decide +kernel) (fun _ _ _ h => h) (.inr ⟨by rfl, rfl⟩) (by assumption) ?_
                          simp only [Act.put, List.setIfInBounds_toArray, List.set_cons_zero, List.set_cons_succ]
                          refine takeD (i := 7) (d := 158) (v := undef) rfl rfl (by decide +kernel) (by decide +kernel) (by decide +kernel) (fun _ _ _ h => h) (.inr ⟨by rfl, rfl⟩) (by assumption) ?_
                          simp only [Act.put, List.setIfInBounds_toArray, List.set_cons_zero, List.set_cons_succ]
                          refine takeD (i := 8) (d := 159) (v := undef) rfl rfl (by decide +kernel) (by decide +kernel) (by decide +kernel) (fun _ _ _ h => h) (.inr ⟨by rfl, rfl⟩) (by assumption) ?_
                          simp only [Act.put, List.setIfInBounds_toArray, List.set_cons_zero, List.set_cons_succ]
                          refine takeD (i := 9) (d := 160) (v := undef) rfl rfl (by decide +kernel) (by decide +kernel) (by decide +kernel) (fun _ _ _ h => h) (.inr ⟨by rfl, rfl⟩) (by assumption) ?_
                          simp only [Act.put, List.setIfInBounds_toArray, List.set_cons_zero, List.set_cons_succ]
                          refine takeD (i := 10) (d := 161) (v := undef) rfl rfl (by decide +kernel) (by decide +kernel) (by decide +kernel) (fun _ _ _ h => h) (.inr ⟨by rfl, rfl⟩) (by assumption) ?_
                          simp only [Act.put, List.setIfInBounds_toArray, List.set_cons_zero, List.set_cons_succ]
                          refine takeD (i := 11) (d := 162) (v := undef) rfl rfl (by decide +kernel) (by decide +kernel) (by decide +kernel) (fun _ _ _ h => h) (.inr ⟨by rfl, rfl⟩) (by assumption) ?_
                          simp only [Act.put, List.setIfInBounds_toArray, List.set_cons_zero, List.set_cons_succ]
                          refine takeD (i := 12) (d := 163) (v := undef) rfl rfl (by decide +kernel) (by decide +kernel) (by decide +kernel) (fun _ _ _ h => h) (.inr ⟨by rfl, rfl⟩) (by assumption) ?_
                          simp only [Act.put, List.setIfInBounds_toArray, List.set_cons_zero, List.set_cons_succ]
                          refine takeD (i := 13) (d := 164) (v := .bool false) rfl rfl (by decide +kernel) (by decide +kernel) (by decide +kernel) (fun _ _ _ h => h) (.inl ⟨by rfl, fun w hSw => by dsimp only at hSw; go_simp; try with_reducible rfl⟩) (by assumption) ?_
                          simp only [Act.put, List.setIfInBounds_toArray, List.set_cons_zero, List.set_cons_succ]
                          refine takeD (i := 14) (d := 165) (v := .bool true) rfl rfl (by decide +kernel) (by decide +kernel) (by decide +kernel) (fun _ _ _ h => h) (.inl ⟨by rfl, fun w hSw => by dsimp only at hSw; go_simp; try with_reducible rfl⟩) (by assumption) ?_
                          simp only [Act.put, List.setIfInBounds_toArray, List.set_cons_zero, List.set_cons_succ]
                          refine takeD (i := 15) (d := 166) (v := .bool true) rfl rfl (by decide +kernel) (by decide +kernel) (by decide +kernel) (fun _ _ _ h => h) (.inl ⟨by rfl, fun w hSw => by dsimp only at hSw; go_simp; try with_reducible rfl⟩) (by assumption) ?_
                          simp only [Act.put, List.setIfInBounds_toArray, List.set_cons_zero, List.set_cons_succ]
                          refine takeD (i := 16) (d := 167) (v := .bool false) rfl rfl (by decide +kernel) (by decide +kernel) (by decide +kernel) (fun _ _ _ h => h) (.inl ⟨by rfl, fun w hSw => by dsimp only at hSw; go_simp; try with_reducible rfl⟩) (by assumption) ?_
                          simp only [Act.put, List.setIfInBounds_toArray, List.set_cons_zero, List.set_cons_succ]
                          refine takeD (i := 17) (d := 168) (v := .bool true) rfl rfl (by decide +kernel) (by decide +kernel) (by decide +kernel) (fun _ _ _ h => h) (.inl ⟨by rfl, fun w hSw => by dsimp only at hSw; go_simp; try with_reducible rfl⟩) (by assumption) ?_
                          simp only [Act.put, List.setIfInBounds_toArray, List.set_cons_zero, List.set_cons_succ]
                          refine takeD (i := 18) (d := 169) (v := .bool true) rfl rfl (by decide +kernel) (by decide +kernel) (by decide +kernel) (fun _ _ _ h => h) (.inl ⟨by rfl, fun w hSw => by dsimp only at hSw; go_simp; try with_reducible rfl⟩) (by assumption) ?_
                          simp only [Act.put, List.setIfInBounds_toArray, List.set_cons_zero, List.set_cons_succ]
                          refine takeD (i := 19) (d := 170) (v := .agg #[.int .i64 0, .int .i64 0, .string ⟨#[]⟩]) rfl rfl (by decide +kernel) (by decide +kernel) (by decide +kernel) (fun _ _ _ h => h) (.inl ⟨by rfl, fun w hSw => by dsimp only at hSw; go_simp; try with_reducible rfl⟩) (by assumption) ?_
                          simp only [Act.put, List.setIfInBounds_toArray, List.set_cons_zero, List.set_cons_succ]
                          refine takeD (i := 20) (d := 171) (v := .agg #[.int .i64 0, .int .i64 0, .string ⟨#[]⟩]) rfl rfl (by decide +kernel) (by decide +kernel) (by decide +kernel) (fun _ _ _ h => h) (.inl ⟨by rfl, fun w hSw => by dsimp only at hSw; go_simp; try with_reducible rfl⟩) (by assumption) ?_
                          simp only [Act.put, List.setIfInBounds_toArray, List.set_cons_zero, List.set_cons_succ]
                          refine takeD (i := 21) (d := 172) (v := .bool true) rfl rfl (by decide +kernel) (by decide +kernel) (by decide +kernel) (fun _ _ _ h => h) (.inl ⟨by rfl, fun w hSw => by dsimp only at hSw; go_simp; try with_reducible rfl⟩) (by assumption) ?_
                          simp only [Act.put, List.setIfInBounds_toArray, List.set_cons_zero, List.set_cons_succ]
                          refine takeD (i := 22) (d := 173) (v := .bool true) rfl rfl (by decide +kernel) (by decide +kernel) (by decide +kernel) (fun _ _ _ h => h) (.inl ⟨by rfl, fun w hSw => by dsimp only at hSw; go_simp; try with_reducible rfl⟩) (by assumption) ?_
                          simp only [Act.put, List.setIfInBounds_toArray, List.set_cons_zero, List.set_cons_succ]
                          refine takeD (i := 23) (d := 174) (v := .bool true) rfl rfl (by decide +kernel) (by decide +kernel) (by decide +kernel) (fun _ _ _ h => h) (.inl ⟨by rfl, fun w hSw => by dsimp only at hSw; go_simp; try with_reducible rfl⟩) (by assumption) ?_
                          simp only [Act.put, List.setIfInBounds_toArray, List.set_cons_zero, List.set_cons_succ]
                          refine takeD (i := 24) (d := 175) (v := undef) rfl rfl (by decide +kernel) (by decide +kernel) (by decide +kernel) (fun _ _ _ h => h) (.inr ⟨by rfl, rfl⟩) (by assumption) ?_
                          simp only [Act.put, List.setIfInBounds_toArray, List.set_cons_zero, List.set_cons_succ]
                          refine takeD (i := 25) (d := 176) (v := undef) rfl rfl (by decide +kernel) (by decide +kernel) (by decide +kernel) (fun _ _ _ h => h) (.inr ⟨by rfl, rfl⟩) (by assumption) ?_
                          simp only [Act.put, List.setIfInBounds_toArray, List.set_cons_zero, List.set_cons_succ]
                          refine takeD (i := 26) (d := 177) (v := undef) rfl rfl (by decide +kernel) (by decide +kernel) (by decide +kernel) (fun _ _ _ h => h) (.inr ⟨by rfl, rfl⟩) (by assumption) ?_
                          simp only [Act.put, List.setIfInBounds_toArray, List.set_cons_zero, List.set_cons_succ]
                          refine takeD (i := 27) (d := 178) (v := undef) rfl rfl (by decide +kernel) (by decide +kernel) (by decide +kernel) (fun _ _ _ h => h) (.inr ⟨by rfl, rfl⟩) (by assumption) ?_
                          simp only [Act.put, List.setIfInBounds_toArray, List.set_cons_zero, List.set_cons_succ]
                          refine takeD (i := 28) (d := 179) (v := undef) rfl rfl (by decide +kernel) (by decide +kernel) (by decide +kernel) (fun _ _ _ h => h) (.inr ⟨by rfl, rfl⟩) (by assumption) ?_
                          simp only [Act.put, List.setIfInBounds_toArray, List.set_cons_zero, List.set_cons_succ]
                          refine takeD (i := 29) (d := 180) (v := undef) rfl rfl (by decide +kernel) (by decide +kernel) (by decide +kernel) (fun _ _ _ h => h) (.inr ⟨by rfl, rfl⟩) (by assumption) ?_
                          simp only [Act.put, List.setIfInBounds_toArray, List.set_cons_zero, List.set_cons_succ]
                          refine takeD (i := 30) (d := 181) (v := undef) rfl rfl (by decide +kernel) (by decide +kernel) (by decide +kernel) (fun _ _ _ h => h) (.inr ⟨by rfl, rfl⟩) (by assumption) ?_
                          simp only [Act.put, List.setIfInBounds_toArray, List.set_cons_zero, List.set_cons_succ]
                          refine takeD (i := 31) (d := 182) (v := undef) rfl rfl (by decide +kernel) (by decide +kernel) (by decide +kernel) (fun _ _ _ h => h) (.inr ⟨by rfl, rfl⟩) (by assumption) ?_
                          simp only [Act.put, List.setIfInBounds_toArray, List.set_cons_zero, List.set_cons_succ]
                          refine takeD (i := 32) (d := 183) (v := undef) rfl rfl (by decide +kernel) (by decide +kernel) (by decide +kernel) (fun _ _ _ h => h) (.inr ⟨by rfl, rfl⟩) (by assumption) ?_
                          simp only [Act.put, List.setIfInBounds_toArray, List.set_cons_zero, List.set_cons_succ]
                          refine takeD (i := 33) (d := 184) (v := undef) rfl rfl (by decide +kernel) (by decide +kernel) (by decide +kernel) (fun _ _ _ h => h) (.inr ⟨by rfl, rfl⟩) (by assumption) ?_
                          simp only [Act.put, List.setIfInBounds_toArray, List.set_cons_zero, List.set_cons_succ]
                          refine takeD (i := 34) (d := 185) (v := undef) rfl rfl (by decide +kernel) (by decide +kernel) (by decide +kernel) (fun _ _ _ h => h) (.inr ⟨by rfl, rfl⟩) (by assumption) ?_
                          simp only [Act.put, List.setIfInBounds_toArray, List.set_cons_zero, List.set_cons_succ]
                          refine takeD (i := 35) (d := 186) (v := undef) rfl rfl (by decide +kernel) (by decide +kernel) (by decide +kernel) (fun _ _ _ h => h) (.inr ⟨by rfl, rfl⟩) (by assumption) ?_
                          simp only [Act.put, List.setIfInBounds_toArray, List.set_cons_zero, List.set_cons_succ]
                          refine takeD (i := 36) (d := 187) (v := undef) rfl rfl (by decide +kernel) (by decide +kernel) (by decide +kernel) (fun _ _ _ h => h) (.inr ⟨by rfl, rfl⟩) (by assumption) ?_
                          simp only [Act.put, List.setIfInBounds_toArray, List.set_cons_zero, List.set_cons_succ]
                          refine takeD (i := 37) (d := 188) (v := undef) rfl rfl (by decide +kernel) (by decide +kernel) (by decide +kernel) (fun _ _ _ h => h) (.inr ⟨by rfl, rfl⟩) (by assumption) ?_
                          simp only [Act.put, List.setIfInBounds_toArray, List.set_cons_zero, List.set_cons_succ]
                          refine takeD (i := 38) (d := 189) (v := undef) rfl rfl (by decide +kernel) (by decide +kernel) (by decide +kernel) (fun _ _ _ h => h) (.inr ⟨by rfl, rfl⟩) (by assumption) ?_
                          simp only [Act.put, List.setIfInBounds_toArray, List.set_cons_zero, List.set_cons_succ]
                          refine takeD (i := 39) (d := 190) (v := undef) rfl rfl (by decide +kernel) (by decide +kernel) (by decide +kernel) (fun _ _ _ h => h) (.inr ⟨by rfl, rfl⟩) (by assumption) ?_
                          simp only [Act.put, List.setIfInBounds_toArray, List.set_cons_zero, List.set_cons_succ]
                          refine takeD (i := 40) (d := 191) (v := .bool true) rfl rfl (by decide +kernel) (by decide +kernel) (by decide +kernel) (fun _ _ _ h => h) (.inl ⟨by rfl, fun w hSw => by dsimp only at hSw; go_simp; try with_reducible rfl⟩) (by assumption) ?_
                          simp only [Act.put, List.setIfInBounds_toArray, List.set_cons_zero, List.set_cons_succ]
                          refine takeD (i := 41) (d := 192) (v := .bool true) rfl rfl (by decide +kernel) (by decide +kernel) (by decide +kernel) (fun _ _ _ h => h) (.inl ⟨by rfl, fun w hSw => by dsimp only at hSw; go_simp; try with_reducible rfl⟩) (by assumption) ?_
                          simp only [Act.put, List.setIfInBounds_toArray, List.set_cons_zero, List.set_cons_succ]
                          refine takeD (i := 42) (d := 11) (v := .bool true) rfl rfl (by decide +kernel) (by decide +kernel) (by decide +kernel) (fun _ _ _ h => h) (.inl ⟨by rfl, fun w hSw => by dsimp only at hSw; go_simp; try with_reducible rfl⟩) (by assumption) ?_
                          simp only [Act.put, List.setIfInBounds_toArray, List.set_cons_zero, List.set_cons_succ]
                          refine wpAnyH_done (by decide +kernel) ?_ _
                          clear hHeld hsd
                          go_wp2_with fail
                          go_meet
                          exact ⟨p, N, v, _, rfl, rfl, rfl, HF⟩))))
                      · refine way_out (inferInstanceAs (Nonempty (WayTo (G := _) (by
                          have hn1 : (0 : Int) ≤ nn := by omega
                          have hn2 : (N.row.length : Int) ≤ nn := by omega
                          have hn3 : ¬ nn < (N.row.length : Int) := by omega
                          clear hout
                          refine wp_region_held_drew (S := (fun W : World => (W.cell? ⟨wa.heap.size, 0, none⟩ = some (.int .i64 0) ∧ W.cell? ⟨wa.heap.size, 1, none⟩ = some (.int .i64 0) ∧ W.cell? ⟨wa.heap.size, 2, none⟩ = some (.string ⟨#[]⟩)) ∧ W.cell? ⟨bx, 4, none⟩ = some (.int .i64 nn) ∧ W.cell? ⟨q, 2, none⟩ = some (.slice Ad N.row.length cd))) (by decide +kernel) hsd (fun hHeld => ?_)
                          refine takeD (i := 0) (d := 151) (v := .bool false) rfl rfl (by decide +kernel) (by decide +kernel) (by decide +kernel) (fun _ _ _ h => h) (.inl ⟨by rfl, fun w hSw => by dsimp only at hSw; go_simp; try with_reducible rfl⟩) (by assumption) ?_
                          simp only [Act.put, List.setIfInBounds_toArray, List.set_cons_zero, List.set_cons_succ]
                          refine takeD (i := 1) (d := 152) (v := .pointer (some ⟨bx, 4, none⟩)) rfl rfl (by decide +kernel) (by decide +kernel) (by decide +kernel) (fun _ _ _ h => h) (.inl ⟨by rfl, fun w hSw => by dsimp only at hSw; go_simp; try with_reducible rfl⟩) (by assumption) ?_
                          simp only [Act.put, List.setIfInBounds_toArray, List.set_cons_zero, List.set_cons_succ]
                          refine takeD (i := 2) (d := 153) (v := .int .i64 nn) rfl rfl (by decide +kernel) (by decide +kernel) (by decide +kernel) (fun _ _ _ h => h) (.inl ⟨by rfl, fun w hSw => by dsimp only at hSw; go_simp; try with_reducible rfl⟩) (by assumption) ?_
                          simp only [Act.put, List.setIfInBounds_toArray, List.set_cons_zero, List.set_cons_succ]
                          refine takeD (i := 3) (d := 154) (v := .bool true) rfl rfl (by decide +kernel) (by decide +kernel) (by decide +kernel) (fun _ _ _ h => h) (.inl ⟨by rfl, fun w hSw => by dsimp only at hSw; go_simp; try with_reducible rfl⟩) (by assumption) ?_
                          simp only [Act.put, List.setIfInBounds_toArray, List.set_cons_zero, List.set_cons_succ]
                          refine takeD (i := 4) (d := 155) (v := .bool true) rfl rfl (by decide +kernel) (by decide +kernel) (by decide +kernel) (fun _ _ _ h => h) (.inl ⟨by rfl, fun w hSw => by dsimp only at hSw; go_simp; try with_reducible rfl⟩) (by assumption) ?_
                          simp only [Act.put, List.setIfInBounds_toArray, List.set_cons_zero, List.set_cons_succ]
                          refine takeD (i := 5) (d := 156) (v := .pointer (some ⟨bx, 4, none⟩)) rfl rfl (by decide +kernel) (by decide +kernel) (by decide +kernel) (fun _ _ _ h => h) (.inl ⟨by rfl, fun w hSw => by dsimp only at hSw; go_simp; try with_reducible rfl⟩) (by assumption) ?_
                          simp only [Act.put, List.setIfInBounds_toArray, List.set_cons_zero, List.set_cons_succ]
                          refine takeD (i := 6) (d := 157) (v := .int .i64 nn) rfl rfl (by decide +kernel) (by decide +kernel) (by decide +kernel) (fun _ _ _ h => h) (.inl ⟨by rfl, fun w hSw => by dsimp only at hSw; go_simp; try with_reducible rfl⟩) (by assumption) ?_
                          simp only [Act.put, List.setIfInBounds_toArray, List.set_cons_zero, List.set_cons_succ]
                          refine takeD (i := 7) (d := 158) (v := .pointer (some ⟨q, 0, none⟩)) rfl rfl (by decide +kernel) (by decide +kernel) (by decide +kernel) (fun _ _ _ h => h) (.inl ⟨by rfl, fun w hSw => by dsimp only at hSw; go_simp; try with_reducible rfl⟩) (by assumption) ?_
                          simp only [Act.put, List.setIfInBounds_toArray, List.set_cons_zero, List.set_cons_succ]
                          refine takeD (i := 8) (d := 159) (v := .pointer (some ⟨q, 0, none⟩)) rfl rfl (by decide +kernel) (by decide +kernel) (by decide +kernel) (fun _ _ _ h => h) (.inl ⟨by rfl, fun w hSw => by dsimp only at hSw; go_simp; try with_reducible rfl⟩) (by assumption) ?_
                          simp only [Act.put, List.setIfInBounds_toArray, List.set_cons_zero, List.set_cons_succ]
                          refine takeD (i := 9) (d := 160) (v := .pointer (some ⟨q, 2, none⟩)) rfl rfl (by decide +kernel) (by decide +kernel) (by decide +kernel) (fun _ _ _ h => h) (.inl ⟨by rfl, fun w hSw => by dsimp only at hSw; go_simp; try with_reducible rfl⟩) (by assumption) ?_
                          simp only [Act.put, List.setIfInBounds_toArray, List.set_cons_zero, List.set_cons_succ]
                          refine takeD (i := 10) (d := 161) (v := .slice Ad N.row.length cd) rfl rfl (by decide +kernel) (by decide +kernel) (by decide +kernel) (fun _ _ _ h => h) (.inl ⟨by rfl, fun w hSw => by dsimp only at hSw; go_simp; try with_reducible rfl⟩) (by assumption) ?_
                          simp only [Act.put, List.setIfInBounds_toArray, List.set_cons_zero, List.set_cons_succ]
                          refine takeD (i := 11) (d := 162) (v := .int .i64 (N.row.length : Int)) rfl rfl (by decide +kernel) (by decide +kernel) (by decide +kernel) (fun _ _ _ h => h) (.inl ⟨by rfl, fun w hSw => by dsimp only at hSw; go_simp; try with_reducible rfl⟩) (by assumption) ?_
                          simp only [Act.put, List.setIfInBounds_toArray, List.set_cons_zero, List.set_cons_succ]
                          refine takeD (i := 12) (d := 163) (v := .bool false) rfl rfl (by decide +kernel) (by decide +kernel) (by decide +kernel) (fun _ _ _ h => h) (.inl ⟨by rfl, fun w hSw => by dsimp only at hSw; go_simp; try with_reducible rfl⟩) (by assumption) ?_
                          simp only [Act.put, List.setIfInBounds_toArray, List.set_cons_zero, List.set_cons_succ]
                          refine takeD (i := 13) (d := 164) (v := .bool false) rfl rfl (by decide +kernel) (by decide +kernel) (by decide +kernel) (fun _ _ _ h => h) (.inl ⟨by rfl, fun w hSw => by dsimp only at hSw; go_simp; try with_reducible rfl⟩) (by assumption) ?_
                          simp only [Act.put, List.setIfInBounds_toArray, List.set_cons_zero, List.set_cons_succ]
                          refine takeD (i := 14) (d := 165) (v := .bool true) rfl rfl (by decide +kernel) (by decide +kernel) (by decide +kernel) (fun _ _ _ h => h) (.inl ⟨by rfl, fun w hSw => by dsimp only at hSw; go_simp; try with_reducible rfl⟩) (by assumption) ?_
                          simp only [Act.put, List.setIfInBounds_toArray, List.set_cons_zero, List.set_cons_succ]
                          refine takeD (i := 15) (d := 166) (v := .bool true) rfl rfl (by decide +kernel) (by decide +kernel) (by decide +kernel) (fun _ _ _ h => h) (.inl ⟨by rfl, fun w hSw => by dsimp only at hSw; go_simp; try with_reducible rfl⟩) (by assumption) ?_
                          simp only [Act.put, List.setIfInBounds_toArray, List.set_cons_zero, List.set_cons_succ]
                          refine takeD (i := 16) (d := 167) (v := .bool false) rfl rfl (by decide +kernel) (by decide +kernel) (by decide +kernel) (fun _ _ _ h => h) (.inl ⟨by rfl, fun w hSw => by dsimp only at hSw; go_simp; try with_reducible rfl⟩) (by assumption) ?_
                          simp only [Act.put, List.setIfInBounds_toArray, List.set_cons_zero, List.set_cons_succ]
                          refine takeD (i := 17) (d := 168) (v := .bool true) rfl rfl (by decide +kernel) (by decide +kernel) (by decide +kernel) (fun _ _ _ h => h) (.inl ⟨by rfl, fun w hSw => by dsimp only at hSw; go_simp; try with_reducible rfl⟩) (by assumption) ?_
                          simp only [Act.put, List.setIfInBounds_toArray, List.set_cons_zero, List.set_cons_succ]
                          refine takeD (i := 18) (d := 169) (v := .bool true) rfl rfl (by decide +kernel) (by decide +kernel) (by decide +kernel) (fun _ _ _ h => h) (.inl ⟨by rfl, fun w hSw => by dsimp only at hSw; go_simp; try with_reducible rfl⟩) (by assumption) ?_
                          simp only [Act.put, List.setIfInBounds_toArray, List.set_cons_zero, List.set_cons_succ]
                          refine takeD (i := 19) (d := 170) (v := .agg #[.int .i64 0, .int .i64 0, .string ⟨#[]⟩]) rfl rfl (by decide +kernel) (by decide +kernel) (by decide +kernel) (fun _ _ _ h => h) (.inl ⟨by rfl, fun w hSw => by dsimp only at hSw; go_simp; try with_reducible rfl⟩) (by assumption) ?_
                          simp only [Act.put, List.setIfInBounds_toArray, List.set_cons_zero, List.set_cons_succ]
                          refine takeD (i := 20) (d := 171) (v := .agg #[.int .i64 0, .int .i64 0, .string ⟨#[]⟩]) rfl rfl (by decide +kernel) (by decide +kernel) (by decide +kernel) (fun _ _ _ h => h) (.inl ⟨by rfl, fun w hSw => by dsimp only at hSw; go_simp; try with_reducible rfl⟩) (by assumption) ?_
                          simp only [Act.put, List.setIfInBounds_toArray, List.set_cons_zero, List.set_cons_succ]
                          refine takeD (i := 21) (d := 172) (v := .bool true) rfl rfl (by decide +kernel) (by decide +kernel) (by decide +kernel) (fun _ _ _ h => h) (.inl ⟨by rfl, fun w hSw => by dsimp only at hSw; go_simp; try with_reducible rfl⟩) (by assumption) ?_
                          simp only [Act.put, List.setIfInBounds_toArray, List.set_cons_zero, List.set_cons_succ]
                          refine takeD (i := 22) (d := 173) (v := .bool true) rfl rfl (by decide +kernel) (by decide +kernel) (by decide +kernel) (fun _ _ _ h => h) (.inl ⟨by rfl, fun w hSw => by dsimp only at hSw; go_simp; try with_reducible rfl⟩) (by assumption) ?_
                          simp only [Act.put, List.setIfInBounds_toArray, List.set_cons_zero, List.set_cons_succ]
                          refine takeD (i := 23) (d := 174) (v := .bool true) rfl rfl (by decide +kernel) (by decide +kernel) (by decide +kernel) (fun _ _ _ h => h) (.inl ⟨by rfl, fun w hSw => by dsimp only at hSw; go_simp; try with_reducible rfl⟩) (by assumption) ?_
                          simp only [Act.put, List.setIfInBounds_toArray, List.set_cons_zero, List.set_cons_succ]
                          refine takeD (i := 24) (d := 175) (v := undef) rfl rfl (by decide +kernel) (by decide +kernel) (by decide +kernel) (fun _ _ _ h => h) (.inr ⟨by rfl, rfl⟩) (by assumption) ?_
                          simp only [Act.put, List.setIfInBounds_toArray, List.set_cons_zero, List.set_cons_succ]
                          refine takeD (i := 25) (d := 176) (v := undef) rfl rfl (by decide +kernel) (by decide +kernel) (by decide +kernel) (fun _ _ _ h => h) (.inr ⟨by rfl, rfl⟩) (by assumption) ?_
                          simp only [Act.put, List.setIfInBounds_toArray, List.set_cons_zero, List.set_cons_succ]
                          refine takeD (i := 26) (d := 177) (v := undef) rfl rfl (by decide +kernel) (by decide +kernel) (by decide +kernel) (fun _ _ _ h => h) (.inr ⟨by rfl, rfl⟩) (by assumption) ?_
                          simp only [Act.put, List.setIfInBounds_toArray, List.set_cons_zero, List.set_cons_succ]
                          refine takeD (i := 27) (d := 178) (v := undef) rfl rfl (by decide +kernel) (by decide +kernel) (by decide +kernel) (fun _ _ _ h => h) (.inr ⟨by rfl, rfl⟩) (by assumption) ?_
                          simp only [Act.put, List.setIfInBounds_toArray, List.set_cons_zero, List.set_cons_succ]
                          refine takeD (i := 28) (d := 179) (v := undef) rfl rfl (by decide +kernel) (by decide +kernel) (by decide +kernel) (fun _ _ _ h => h) (.inr ⟨by rfl, rfl⟩) (by assumption) ?_
                          simp only [Act.put, List.setIfInBounds_toArray, List.set_cons_zero, List.set_cons_succ]
                          refine takeD (i := 29) (d := 180) (v := undef) rfl rfl (by decide +kernel) (by decide +kernel) (by decide +kernel) (fun _ _ _ h => h) (.inr ⟨by rfl, rfl⟩) (by assumption) ?_
                          simp only [Act.put, List.setIfInBounds_toArray, List.set_cons_zero, List.set_cons_succ]
                          refine takeD (i := 30) (d := 181) (v := undef) rfl rfl (by decide +kernel) (by decide +kernel) (by decide +kernel) (fun _ _ _ h => h) (.inr ⟨by rfl, rfl⟩) (by assumption) ?_
                          simp only [Act.put, List.setIfInBounds_toArray, List.set_cons_zero, List.set_cons_succ]
                          refine takeD (i := 31) (d := 182) (v := undef) rfl rfl (by decide +kernel) (by decide +kernel) (by decide +kernel) (fun _ _ _ h => h) (.inr ⟨by rfl, rfl⟩) (by assumption) ?_
                          simp only [Act.put, List.setIfInBounds_toArray, List.set_cons_zero, List.set_cons_succ]
                          refine takeD (i := 32) (d := 183) (v := undef) rfl rfl (by decide +kernel) (by decide +kernel) (by decide +kernel) (fun _ _ _ h => h) (.inr ⟨by rfl, rfl⟩) (by assumption) ?_
                          simp only [Act.put, List.setIfInBounds_toArray, List.set_cons_zero, List.set_cons_succ]
                          refine takeD (i := 33) (d := 184) (v := undef) rfl rfl (by decide +kernel) (by decide +kernel) (by decide +kernel) (fun _ _ _ h => h) (.inr ⟨by rfl, rfl⟩) (by assumption) ?_
                          simp only [Act.put, List.setIfInBounds_toArray, List.set_cons_zero, List.set_cons_succ]
                          refine takeD (i := 34) (d := 185) (v := undef) rfl rfl (by decide +kernel) (by decide +kernel) (by decide +kernel) (fun _ _ _ h => h) (.inr ⟨by rfl, rfl⟩) (by assumption) ?_
                          simp only [Act.put, List.setIfInBounds_toArray, List.set_cons_zero, List.set_cons_succ]
                          refine takeD (i := 35) (d := 186) (v := undef) rfl rfl (by decide +kernel) (by decide +kernel) (by decide +kernel) (fun _ _ _ h => h) (.inr ⟨by rfl, rfl⟩) (by assumption) ?_
                          simp only [Act.put, List.setIfInBounds_toArray, List.set_cons_zero, List.set_cons_succ]
                          refine takeD (i := 36) (d := 187) (v := undef) rfl rfl (by decide +kernel) (by decide +kernel) (by decide +kernel) (fun _ _ _ h => h) (.inr ⟨by rfl, rfl⟩) (by assumption) ?_
                          simp only [Act.put, List.setIfInBounds_toArray, List.set_cons_zero, List.set_cons_succ]
                          refine takeD (i := 37) (d := 188) (v := undef) rfl rfl (by decide +kernel) (by decide +kernel) (by decide +kernel) (fun _ _ _ h => h) (.inr ⟨by rfl, rfl⟩) (by assumption) ?_
                          simp only [Act.put, List.setIfInBounds_toArray, List.set_cons_zero, List.set_cons_succ]
                          refine takeD (i := 38) (d := 189) (v := undef) rfl rfl (by decide +kernel) (by decide +kernel) (by decide +kernel) (fun _ _ _ h => h) (.inr ⟨by rfl, rfl⟩) (by assumption) ?_
                          simp only [Act.put, List.setIfInBounds_toArray, List.set_cons_zero, List.set_cons_succ]
                          refine takeD (i := 39) (d := 190) (v := undef) rfl rfl (by decide +kernel) (by decide +kernel) (by decide +kernel) (fun _ _ _ h => h) (.inr ⟨by rfl, rfl⟩) (by assumption) ?_
                          simp only [Act.put, List.setIfInBounds_toArray, List.set_cons_zero, List.set_cons_succ]
                          refine takeD (i := 40) (d := 191) (v := .bool true) rfl rfl (by decide +kernel) (by decide +kernel) (by decide +kernel) (fun _ _ _ h => h) (.inl ⟨by rfl, fun w hSw => by dsimp only at hSw; go_simp; try with_reducible rfl⟩) (by assumption) ?_
                          simp only [Act.put, List.setIfInBounds_toArray, List.set_cons_zero, List.set_cons_succ]
                          refine takeD (i := 41) (d := 192) (v := .bool true) rfl rfl (by decide +kernel) (by decide +kernel) (by decide +kernel) (fun _ _ _ h => h) (.inl ⟨by rfl, fun w hSw => by dsimp only at hSw; go_simp; try with_reducible rfl⟩) (by assumption) ?_
                          simp only [Act.put, List.setIfInBounds_toArray, List.set_cons_zero, List.set_cons_succ]
                          refine takeD (i := 42) (d := 11) (v := .bool true) rfl rfl (by decide +kernel) (by decide +kernel) (by decide +kernel) (fun _ _ _ h => h) (.inl ⟨by rfl, fun w hSw => by dsimp only at hSw; go_simp; try with_reducible rfl⟩) (by assumption) ?_
                          simp only [Act.put, List.setIfInBounds_toArray, List.set_cons_zero, List.set_cons_succ]
                          refine wpAnyH_done (by decide +kernel) ?_ _
                          clear hHeld hsd
                          go_wp2_with fail
                          go_meet
                          exact ⟨p, N, v, _, rfl, rfl, rfl, HF⟩))))
                    | some x =>
                      refine way_out (inferInstanceAs (Nonempty (WayTo (G := _) (by
                        rw [hat] at cK
                        obtain ⟨h0, hjl, hjx⟩ := NT.at_lt hat
                        obtain ⟨j, hj⟩ : ∃ j : Nat, nn = (j : Int) := ⟨nn.toNat, by omega⟩
                        subst hj
                        rw [Int.toNat_natCast] at hjl hjx
                        clear hat h0
                        go_wp2_with fail
                        refine cK.mono ?_
                        rintro e wa ⟨he, hba⟩
                        have he : e = .returned (.tuple #[.agg #[.int .i64 x.frm, .int .i64 x.dst, .string x.data], .bool true]) := he
                        subst he
                        obtain ⟨wq, hwq⟩ : ∃ wq, wq = wa.alloc (.cells #[.int .i64 x.frm, .int .i64 x.dst, .string x.data] 36) := ⟨_, rfl⟩
                        have hbq : Below wa.heap.size wa wq := by rw [hwq]; exact (Below.refl _ _).alloc (Nat.le_refl _) _
                        have hyq : wq.drew.heap[wa.heap.size]? = some (.cells #[.int .i64 x.frm, .int .i64 x.dst, .string x.data] 36 (0, 0)) := by rw [hwq]; exact heap_alloc_new wa _
                        have hbt : Below w3.heap.size w3 wq.drew := (hba.trans (Joins.below_le hbq hba.size)).drew
                        have hPq := HI3.out.grow hbt
                        have kq : wq.drew.cell? ⟨bx, 4, none⟩ = some (.int .i64 (j : Int)) := (hbt.cell (p := ⟨bx, 4, none⟩) hbxl).trans k4
                        obtain ⟨bd, od, nd, kd, hv, -, -, -⟩ := pk_cell hPq.ref.row.n hjx
                        obtain ⟨A', c', hv', hlc', hcm'⟩ := hPq.ref.row.n.slice
                        injection hv' with f1 f2 f3
                        subst f1 f3
                        clear f2
                        injection hv with e1' e2' e3'
                        subst e1'
                        clear e2' e3'
                        have hbe : Below wq.drew.heap.size wq.drew (wq.drew.alloc (.cells #[.int .i64 x.frm, .int .i64 x.dst, .string x.data] 36)) := (Below.refl _ _).alloc (Nat.le_refl _) _
                        have hPe := hPq.grow hbe
                        have hr1 : pkR.N (wq.drew.alloc (.cells #[.int .i64 x.frm, .int .i64 x.dst, .string x.data] 36)) Any (.slice (some ⟨wq.heap.size, 0, none⟩) 1 1) [x] := Rec.one_row (R := pkR) (heap_alloc_new wq.drew _) trivial
                        have hr2 : pkR.N (wq.drew.alloc (.cells #[.int .i64 x.frm, .int .i64 x.dst, .string x.data] 36)) Any (.slice (some ⟨bd, od + j * 3, none⟩) 1 (cd - j)) [x] := by
                          have h1 := Go.Proofs.Ytclfhidapkoiiaa.N.drop hPe.ref.row.n.any (i := j) (by show j ≤ N.row.length; omega) (by omega)
                          have h2 := Go.Proofs.Ytclfhidapkoiiaa.N.take h1 (i := 1) (by rw [List.length_drop]; show 1 ≤ N.row.length - j; omega)
                          rw [List.drop_eq_getElem_cons hjl, List.take_succ_cons, List.take_zero] at h2
                          have h3 : N.row[j] = x := by
                            rw [List.getElem?_eq_getElem hjl] at hjx
                            exact Option.some.inj hjx
                          rw [h3] at h2
                          exact h2
                        have cL := told_yes [x] _ _ _ hr1 hr2
                        have hse : ((wq.drew.alloc (.cells #[.int .i64 x.frm, .int .i64 x.dst, .string x.data] 36)).cell? ⟨wa.heap.size, 0, none⟩ = some (.int .i64 x.frm) ∧ (wq.drew.alloc (.cells #[.int .i64 x.frm, .int .i64 x.dst, .string x.data] 36)).cell? ⟨wa.heap.size, 1, none⟩ = some (.int .i64 x.dst) ∧ (wq.drew.alloc (.cells #[.int .i64 x.frm, .int .i64 x.dst, .string x.data] 36)).cell? ⟨wa.heap.size, 2, none⟩ = some (.string x.data)) ∧ (wq.drew.alloc (.cells #[.int .i64 x.frm, .int .i64 x.dst, .string x.data] 36)).cell? ⟨bx, 4, none⟩ = some (.int .i64 (j : Int)) ∧ (wq.drew.alloc (.cells #[.int .i64 x.frm, .int .i64 x.dst, .string x.data] 36)).cell? ⟨q, 2, none⟩ = some (.slice (some ⟨bd, od, none⟩) N.row.length cd) := by
                          have hye := (hbe.block _ (Array.getElem?_eq_some_iff.1 hyq).1).trans hyq
                          exact ⟨⟨(blk_cells hye).1 0, (blk_cells hye).1 1, (blk_cells hye).1 2⟩, (hbe.cell (p := ⟨bx, 4, none⟩) (by have := hbt.size; show bx < _; omega)).trans kq, (blk_cells hPe.ref.net).1 2⟩
                        have hsd : (wq.drew.cell? ⟨wa.heap.size, 0, none⟩ = some (.int .i64 x.frm) ∧ wq.drew.cell? ⟨wa.heap.size, 1, none⟩ = some (.int .i64 x.dst) ∧ wq.drew.cell? ⟨wa.heap.size, 2, none⟩ = some (.string x.data)) ∧ wq.drew.cell? ⟨bx, 4, none⟩ = some (.int .i64 (j : Int)) ∧ wq.drew.cell? ⟨q, 2, none⟩ = some (.slice (some ⟨bd, od, none⟩) N.row.length cd) := ⟨⟨(blk_cells hyq).1 0, (blk_cells hyq).1 1, (blk_cells hyq).1 2⟩, kq, (blk_cells hPq.ref.net).1 2⟩
                        have hn1 : (0 : Int) ≤ (j : Int) := by omega
                        have hn2 : (j : Int) < (N.row.length : Int) := by omega
                        have hn3 : (j : Int) + 1 ≤ (cd : Int) := by omega
                        have hn4 : ¬ (cd = j) := by omega
                        have hn5 : ((j : Int) + 1).toNat = j + 1 := by omega
                        have hn6 : (0 : Int) ≤ (j : Int) + 1 := by omega
                        have hn7 : (j : Int) ≤ (j : Int) + 1 := by omega
                        have hw67 := wrap_one (j := j) (by omega)
                        obtain ⟨hw6, hw7⟩ := hw67
                        have HPE := Lib.hid hPe
                        have HWQ := Lib.hid hwq
                        have HCL := Lib.hid cL
                        clear hwq hbq hyq hbt hPq kq cK hba k0 k4 hPe hr1 hr2 cL hbe hjx hjl hlc' hcm'
                        go_upto_region 31 with fail
                        rw [← HWQ.out]
                        refine wp_region_held_drew (S := (fun W : World => (W.cell? ⟨wa.heap.size, 0, none⟩ = some (.int .i64 x.frm) ∧ W.cell? ⟨wa.heap.size, 1, none⟩ = some (.int .i64 x.dst) ∧ W.cell? ⟨wa.heap.size, 2, none⟩ = some (.string x.data)) ∧ W.cell? ⟨bx, 4, none⟩ = some (.int .i64 (j : Int)) ∧ W.cell? ⟨q, 2, none⟩ = some (.slice (some ⟨bd, od, none⟩) N.row.length cd))) (by decide +kernel) hsd (fun hHeld => ?_)
                        refine takeD (i := 0) (d := 151) (v := .bool true) rfl rfl (by decide +kernel) (by decide +kernel) (by decide +kernel) (fun _ _ _ h => h) (.inl ⟨by rfl, fun w hSw => by dsimp only at hSw; go_simp; try with_reducible rfl⟩) (by assumption) ?_
                        simp only [Act.put, List.setIfInBounds_toArray, List.set_cons_zero, List.set_cons_succ]
                        refine takeD (i := 1) (d := 152) (v := .pointer (some ⟨bx, 4, none⟩)) rfl rfl (by decide +kernel) (by decide +kernel) (by decide +kernel) (fun _ _ _ h => h) (.inl ⟨by rfl, fun w hSw => by dsimp only at hSw; go_simp; try with_reducible rfl⟩) (by assumption) ?_
                        simp only [Act.put, List.setIfInBounds_toArray, List.set_cons_zero, List.set_cons_succ]
                        refine takeD (i := 2) (d := 153) (v := .int .i64 (j : Int)) rfl rfl (by decide +kernel) (by decide +kernel) (by decide +kernel) (fun _ _ _ h => h) (.inl ⟨by rfl, fun w hSw => by dsimp only at hSw; go_simp; try with_reducible rfl⟩) (by assumption) ?_
                        simp only [Act.put, List.setIfInBounds_toArray, List.set_cons_zero, List.set_cons_succ]
                        refine takeD (i := 3) (d := 154) (v := .bool true) rfl rfl (by decide +kernel) (by decide +kernel) (by decide +kernel) (fun _ _ _ h => h) (.inl ⟨by rfl, fun w hSw => by dsimp only at hSw; go_simp; try with_reducible rfl⟩) (by assumption) ?_
                        simp only [Act.put, List.setIfInBounds_toArray, List.set_cons_zero, List.set_cons_succ]
                        refine takeD (i := 4) (d := 155) (v := .bool true) rfl rfl (by decide +kernel) (by decide +kernel) (by decide +kernel) (fun _ _ _ h => h) (.inl ⟨by rfl, fun w hSw => by dsimp only at hSw; go_simp; try with_reducible rfl⟩) (by assumption) ?_
                        simp only [Act.put, List.setIfInBounds_toArray, List.set_cons_zero, List.set_cons_succ]
                        refine takeD (i := 5) (d := 156) (v := .pointer (some ⟨bx, 4, none⟩)) rfl rfl (by decide +kernel) (by decide +kernel) (by decide +kernel) (fun _ _ _ h => h) (.inl ⟨by rfl, fun w hSw => by dsimp only at hSw; go_simp; try with_reducible rfl⟩) (by assumption) ?_
                        simp only [Act.put, List.setIfInBounds_toArray, List.set_cons_zero, List.set_cons_succ]
                        refine takeD (i := 6) (d := 157) (v := .int .i64 (j : Int)) rfl rfl (by decide +kernel) (by decide +kernel) (by decide +kernel) (fun _ _ _ h => h) (.inl ⟨by rfl, fun w hSw => by dsimp only at hSw; go_simp; try with_reducible rfl⟩) (by assumption) ?_
                        simp only [Act.put, List.setIfInBounds_toArray, List.set_cons_zero, List.set_cons_succ]
                        refine takeD (i := 7) (d := 158) (v := .pointer (some ⟨q, 0, none⟩)) rfl rfl (by decide +kernel) (by decide +kernel) (by decide +kernel) (fun _ _ _ h => h) (.inl ⟨by rfl, fun w hSw => by dsimp only at hSw; go_simp; try with_reducible rfl⟩) (by assumption) ?_
                        simp only [Act.put, List.setIfInBounds_toArray, List.set_cons_zero, List.set_cons_succ]
                        refine takeD (i := 8) (d := 159) (v := .pointer (some ⟨q, 0, none⟩)) rfl rfl (by decide +kernel) (by decide +kernel) (by decide +kernel) (fun _ _ _ h => h) (.inl ⟨by rfl, fun w hSw => by dsimp only at hSw; go_simp; try with_reducible rfl⟩) (by assumption) ?_
                        simp only [Act.put, List.setIfInBounds_toArray, List.set_cons_zero, List.set_cons_succ]
                        refine takeD (i := 9) (d := 160) (v := .pointer (some ⟨q, 2, none⟩)) rfl rfl (by decide +kernel) (by decide +kernel) (by decide +kernel) (fun _ _ _ h => h) (.inl ⟨by rfl, fun w hSw => by dsimp only at hSw; go_simp; try with_reducible rfl⟩) (by assumption) ?_
                        simp only [Act.put, List.setIfInBounds_toArray, List.set_cons_zero, List.set_cons_succ]
                        refine takeD (i := 10) (d := 161) (v := .slice (some ⟨bd, od, none⟩) N.row.length cd) rfl rfl (by decide +kernel) (by decide +kernel) (by decide +kernel) (fun _ _ _ h => h) (.inl ⟨by rfl, fun w hSw => by dsimp only at hSw; go_simp; try with_reducible rfl⟩) (by assumption) ?_
                        simp only [Act.put, List.setIfInBounds_toArray, List.set_cons_zero, List.set_cons_succ]
                        refine takeD (i := 11) (d := 162) (v := .int .i64 (N.row.length : Int)) rfl rfl (by decide +kernel) (by decide +kernel) (by decide +kernel) (fun _ _ _ h => h) (.inl ⟨by rfl, fun w hSw => by dsimp only at hSw; go_simp; try with_reducible rfl⟩) (by assumption) ?_
                        simp only [Act.put, List.setIfInBounds_toArray, List.set_cons_zero, List.set_cons_succ]
                        refine takeD (i := 12) (d := 163) (v := .bool true) rfl rfl (by decide +kernel) (by decide +kernel) (by decide +kernel) (fun _ _ _ h => h) (.inl ⟨by rfl, fun w hSw => by dsimp only at hSw; go_simp; try with_reducible rfl⟩) (by assumption) ?_
                        simp only [Act.put, List.setIfInBounds_toArray, List.set_cons_zero, List.set_cons_succ]
                        refine takeD (i := 13) (d := 164) (v := .bool true) rfl rfl (by decide +kernel) (by decide +kernel) (by decide +kernel) (fun _ _ _ h => h) (.inl ⟨by rfl, fun w hSw => by dsimp only at hSw; go_simp; try with_reducible rfl⟩) (by assumption) ?_
                        simp only [Act.put, List.setIfInBounds_toArray, List.set_cons_zero, List.set_cons_succ]
                        refine takeD (i := 14) (d := 165) (v := .bool true) rfl rfl (by decide +kernel) (by decide +kernel) (by decide +kernel) (fun _ _ _ h => h) (.inl ⟨by rfl, fun w hSw => by dsimp only at hSw; go_simp; try with_reducible rfl⟩) (by assumption) ?_
                        simp only [Act.put, List.setIfInBounds_toArray, List.set_cons_zero, List.set_cons_succ]
                        refine takeD (i := 15) (d := 166) (v := .bool true) rfl rfl (by decide +kernel) (by decide +kernel) (by decide +kernel) (fun _ _ _ h => h) (.inl ⟨by rfl, fun w hSw => by dsimp only at hSw; go_simp; try with_reducible rfl⟩) (by assumption) ?_
                        simp only [Act.put, List.setIfInBounds_toArray, List.set_cons_zero, List.set_cons_succ]
                        refine takeD (i := 16) (d := 167) (v := .bool true) rfl rfl (by decide +kernel) (by decide +kernel) (by decide +kernel) (fun _ _ _ h => h) (.inl ⟨by rfl, fun w hSw => by dsimp only at hSw; go_simp; try with_reducible rfl⟩) (by assumption) ?_
                        simp only [Act.put, List.setIfInBounds_toArray, List.set_cons_zero, List.set_cons_succ]
                        refine takeD (i := 17) (d := 168) (v := .bool false) rfl rfl (by decide +kernel) (by decide +kernel) (by decide +kernel) (fun _ _ _ h => h) (.inl ⟨by rfl, fun w hSw => by dsimp only at hSw; go_simp; try with_reducible rfl⟩) (by assumption) ?_
                        simp only [Act.put, List.setIfInBounds_toArray, List.set_cons_zero, List.set_cons_succ]
                        refine takeD (i := 18) (d := 169) (v := .bool false) rfl rfl (by decide +kernel) (by decide +kernel) (by decide +kernel) (fun _ _ _ h => h) (.inl ⟨by rfl, fun w hSw => by dsimp only at hSw; go_simp; try with_reducible rfl⟩) (by assumption) ?_
                        simp only [Act.put, List.setIfInBounds_toArray, List.set_cons_zero, List.set_cons_succ]
                        refine takeD (i := 19) (d := 170) (v := undef) rfl rfl (by decide +kernel) (by decide +kernel) (by decide +kernel) (fun _ _ _ h => h) (.inr ⟨by rfl, rfl⟩) (by assumption) ?_
                        simp only [Act.put, List.setIfInBounds_toArray, List.set_cons_zero, List.set_cons_succ]
                        refine takeD (i := 20) (d := 171) (v := undef) rfl rfl (by decide +kernel) (by decide +kernel) (by decide +kernel) (fun _ _ _ h => h) (.inr ⟨by rfl, rfl⟩) (by assumption) ?_
                        simp only [Act.put, List.setIfInBounds_toArray, List.set_cons_zero, List.set_cons_succ]
                        refine takeD (i := 21) (d := 172) (v := undef) rfl rfl (by decide +kernel) (by decide +kernel) (by decide +kernel) (fun _ _ _ h => h) (.inr ⟨by rfl, rfl⟩) (by assumption) ?_
                        simp only [Act.put, List.setIfInBounds_toArray, List.set_cons_zero, List.set_cons_succ]
                        refine takeD (i := 22) (d := 173) (v := .bool false) rfl rfl (by decide +kernel) (by decide +kernel) (by decide +kernel) (fun _ _ _ h => h) (.inl ⟨by rfl, fun w hSw => by dsimp only at hSw; go_simp; try with_reducible rfl⟩) (by assumption) ?_
                        simp only [Act.put, List.setIfInBounds_toArray, List.set_cons_zero, List.set_cons_succ]
                        refine takeD (i := 23) (d := 174) (v := .bool false) rfl rfl (by decide +kernel) (by decide +kernel) (by decide +kernel) (fun _ _ _ h => h) (.inl ⟨by rfl, fun w hSw => by dsimp only at hSw; go_simp; try with_reducible rfl⟩) (by assumption) ?_
                        simp only [Act.put, List.setIfInBounds_toArray, List.set_cons_zero, List.set_cons_succ]
                        refine takeD (i := 24) (d := 175) (v := .bool true) rfl rfl (by decide +kernel) (by decide +kernel) (by decide +kernel) (fun _ _ _ h => h) (.inl ⟨by rfl, fun w hSw => by dsimp only at hSw; go_simp; try with_reducible rfl⟩) (by assumption) ?_
                        simp only [Act.put, List.setIfInBounds_toArray, List.set_cons_zero, List.set_cons_succ]
                        refine takeD (i := 25) (d := 176) (v := .bool true) rfl rfl (by decide +kernel) (by decide +kernel) (by decide +kernel) (fun _ _ _ h => h) (.inl ⟨by rfl, fun w hSw => by dsimp only at hSw; go_simp; try with_reducible rfl⟩) (by assumption) ?_
                        simp only [Act.put, List.setIfInBounds_toArray, List.set_cons_zero, List.set_cons_succ]
                        refine takeD (i := 26) (d := 177) (v := .agg #[.int .i64 x.frm, .int .i64 x.dst, .string x.data]) rfl rfl (by decide +kernel) (by decide +kernel) (by decide +kernel) (fun _ _ _ h => h) (.inl ⟨by rfl, fun w hSw => by dsimp only at hSw; go_simp; try with_reducible rfl⟩) (by assumption) ?_
                        simp only [Act.put, List.setIfInBounds_toArray, List.set_cons_zero, List.set_cons_succ]
                        refine takeD (i := 28) (d := 179) (v := .pointer (some ⟨q, 0, none⟩)) rfl rfl (by decide +kernel) (by decide +kernel) (by decide +kernel) (fun _ _ _ h => h) (.inl ⟨by rfl, fun w hSw => by dsimp only at hSw; go_simp; try with_reducible rfl⟩) (by assumption) ?_
                        simp only [Act.put, List.setIfInBounds_toArray, List.set_cons_zero, List.set_cons_succ]
                        refine takeD (i := 29) (d := 180) (v := .pointer (some ⟨q, 0, none⟩)) rfl rfl (by decide +kernel) (by decide +kernel) (by decide +kernel) (fun _ _ _ h => h) (.inl ⟨by rfl, fun w hSw => by dsimp only at hSw; go_simp; try with_reducible rfl⟩) (by assumption) ?_
                        simp only [Act.put, List.setIfInBounds_toArray, List.set_cons_zero, List.set_cons_succ]
                        refine takeD (i := 30) (d := 181) (v := .pointer (some ⟨q, 2, none⟩)) rfl rfl (by decide +kernel) (by decide +kernel) (by decide +kernel) (fun _ _ _ h => h) (.inl ⟨by rfl, fun w hSw => by dsimp only at hSw; go_simp; try with_reducible rfl⟩) (by assumption) ?_
                        simp only [Act.put, List.setIfInBounds_toArray, List.set_cons_zero, List.set_cons_succ]
                        refine takeD (i := 31) (d := 182) (v := .slice (some ⟨bd, od, none⟩) N.row.length cd) rfl rfl (by decide +kernel) (by decide +kernel) (by decide +kernel) (fun _ _ _ h => h) (.inl ⟨by rfl, fun w hSw => by dsimp only at hSw; go_simp; try with_reducible rfl⟩) (by assumption) ?_
                        simp only [Act.put, List.setIfInBounds_toArray, List.set_cons_zero, List.set_cons_succ]
                        refine takeD (i := 32) (d := 183) (v := .pointer (some ⟨bx, 4, none⟩)) rfl rfl (by decide +kernel) (by decide +kernel) (by decide +kernel) (fun _ _ _ h => h) (.inl ⟨by rfl, fun w hSw => by dsimp only at hSw; go_simp; try with_reducible rfl⟩) (by assumption) ?_
                        simp only [Act.put, List.setIfInBounds_toArray, List.set_cons_zero, List.set_cons_succ]
                        refine takeD (i := 33) (d := 184) (v := .int .i64 (j : Int)) rfl rfl (by decide +kernel) (by decide +kernel) (by decide +kernel) (fun _ _ _ h => h) (.inl ⟨by rfl, fun w hSw => by dsimp only at hSw; go_simp; try with_reducible rfl⟩) (by assumption) ?_
                        simp only [Act.put, List.setIfInBounds_toArray, List.set_cons_zero, List.set_cons_succ]
                        refine takeD (i := 34) (d := 185) (v := .pointer (some ⟨bx, 4, none⟩)) rfl rfl (by decide +kernel) (by decide +kernel) (by decide +kernel) (fun _ _ _ h => h) (.inl ⟨by rfl, fun w hSw => by dsimp only at hSw; go_simp; try with_reducible rfl⟩) (by assumption) ?_
                        simp only [Act.put, List.setIfInBounds_toArray, List.set_cons_zero, List.set_cons_succ]
                        refine takeD (i := 35) (d := 186) (v := .int .i64 (j : Int)) rfl rfl (by decide +kernel) (by decide +kernel) (by decide +kernel) (fun _ _ _ h => h) (.inl ⟨by rfl, fun w hSw => by dsimp only at hSw; go_simp; try with_reducible rfl⟩) (by assumption) ?_
                        simp only [Act.put, List.setIfInBounds_toArray, List.set_cons_zero, List.set_cons_succ]
                        refine takeD (i := 36) (d := 187) (v := .int .i64 ((j : Int) + 1)) rfl rfl (by decide +kernel) (by decide +kernel) (by decide +kernel) (fun _ _ _ h => h) (.inl ⟨by rfl, fun w hSw => by dsimp only at hSw; go_simp; try with_reducible rfl⟩) (by assumption) ?_
                        simp only [Act.put, List.setIfInBounds_toArray, List.set_cons_zero, List.set_cons_succ]
                        refine takeD (i := 37) (d := 188) (v := .slice (some ⟨bd, od + j * 3, none⟩) 1 (cd - j)) rfl rfl (by decide +kernel) (by decide +kernel) (by decide +kernel) (fun _ _ _ h => h) (.inl ⟨by rfl, fun w hSw => by dsimp only at hSw; go_simp; try with_reducible rfl⟩) (by assumption) ?_
                        simp only [Act.put, List.setIfInBounds_toArray, List.set_cons_zero, List.set_cons_succ]
                        refine wpAnyH_ready (rs := [27]) (by decide +kernel) (by simp) ?_
                        refine AllReadyH.cons rfl (fun K hK => ?_) AllReadyH.nil
                        rw [if_pos (by rfl)]
                        go_simp
                        refine hK.out _ _ hse (fun hHeldK => ?_)
                        try simp only [Act.put, List.setIfInBounds_toArray, List.set_cons_zero, List.set_cons_succ]
                        refine wpAnyH_ready (rs := [38]) (by decide +kernel) (by simp) ?_
                        refine AllReadyH.cons rfl (fun K2 hK2 => ?_) AllReadyH.nil
                        rw [if_pos (by rfl)]
                        go_simp
                        go_at_call 10
                        refine (HCL.out).mono ?_
                        rintro e wt ⟨rfl, hbt⟩
                        have hPt := HPE.out.grow hbt
                        have hst : (wt.cell? ⟨wa.heap.size, 0, none⟩ = some (.int .i64 x.frm) ∧ wt.cell? ⟨wa.heap.size, 1, none⟩ = some (.int .i64 x.dst) ∧ wt.cell? ⟨wa.heap.size, 2, none⟩ = some (.string x.data)) ∧ wt.cell? ⟨bx, 4, none⟩ = some (.int .i64 (j : Int)) ∧ wt.cell? ⟨q, 2, none⟩ = some (.slice (some ⟨bd, od, none⟩) N.row.length cd) := by
                          have hlt := fun (a : Addr) (x9 : Value) (h : (wq.drew.alloc (.cells #[.int .i64 x.frm, .int .i64 x.dst, .string x.data] 36)).cell? a = some x9) => (hbt.cell (World.block_lt_of_cell? _ a h)).trans h
                          exact ⟨⟨hlt _ _ hse.1.1, hlt _ _ hse.1.2.1, hlt _ _ hse.1.2.2⟩, hlt _ _ hse.2.1, hlt _ _ hse.2.2⟩
                        have HF := Lib.hid (hPt.mono (Nat.le_succ i))
                        dsimp only
                        refine hK2.out _ _ hst (fun hHeldhK2 => ?_)
                        try simp only [Act.put, List.setIfInBounds_toArray, List.set_cons_zero, List.set_cons_succ]
                        refine takeD (i := 39) (d := 190) (v := .bool true) rfl rfl (by decide +kernel) (by decide +kernel) (by decide +kernel) (fun _ _ _ h => h) (.inl ⟨by rfl, fun w hSw => by dsimp only at hSw; go_simp; try with_reducible rfl⟩) (by assumption) ?_
                        simp only [Act.put, List.setIfInBounds_toArray, List.set_cons_zero, List.set_cons_succ]
                        refine takeD (i := 40) (d := 191) (v := .bool true) rfl rfl (by decide +kernel) (by decide +kernel) (by decide +kernel) (fun _ _ _ h => h) (.inl ⟨by rfl, fun w hSw => by dsimp only at hSw; go_simp; try with_reducible rfl⟩) (by assumption) ?_
                        simp only [Act.put, List.setIfInBounds_toArray, List.set_cons_zero, List.set_cons_succ]
                        refine takeD (i := 41) (d := 192) (v := .bool true) rfl rfl (by decide +kernel) (by decide +kernel) (by decide +kernel) (fun _ _ _ h => h) (.inl ⟨by rfl, fun w hSw => by dsimp only at hSw; go_simp; try with_reducible rfl⟩) (by assumption) ?_
                        simp only [Act.put, List.setIfInBounds_toArray, List.set_cons_zero, List.set_cons_succ]
                        refine takeD (i := 42) (d := 11) (v := .bool true) rfl rfl (by decide +kernel) (by decide +kernel) (by decide +kernel) (fun _ _ _ h => h) (.inl ⟨by rfl, fun w hSw => by dsimp only at hSw; go_simp; try with_reducible rfl⟩) (by assumption) ?_
                        simp only [Act.put, List.setIfInBounds_toArray, List.set_cons_zero, List.set_cons_succ]
                        refine wpAnyH_done (by decide +kernel) ?_ _
                        clear hHeld hsd
                        go_wp2_with fail
                        go_meet
                        exact ⟨p, N, v, _, rfl, rfl, rfl, HF⟩))))
                  · refine way_out (inferInstanceAs (Nonempty (WayTo (G := _) (by
                      have e0 : (kk == 0) = false := by simpa using q0
                      have e1 : (kk == 1) = false := by simpa using q1
                      have e2 : (kk == 2) = false := by simpa using q2
                      have e3 : (kk == 3) = false := by simpa using q3
                      have hl0 : N.row.length ≤ 1000 := Nat.le_trans HI3.out.ok.row HI3.out.ok.most
                      have cC := pcopy_any N _ _ v w3 HI3.out.net hl0
                      clear q0 q1 q2 q3 k0 k1 k2 k3 k4
                      go_wp2_with fail
                      refine cC.mono ?_
                      rintro e wa ⟨pc, vc, rfl, hnc, hba, hvc⟩
                      have hs3 := HI3.out.bel.size
                      have hc1 : PNetM wa w.heap.size pc 54 36 vc N := ⟨hnc.net, Nat.le_trans hs3 hnc.base, hnc.row.base hs3⟩
                      have hIa := HI3.out.grow hba
                      obtain ⟨wb, hcv, hrb, hbb, hsb⟩ := lit_bytes wa #[.int .u8 98, .int .u8 101, .int .u8 104, .int .u8 105, .int .u8 110, .int .u8 100, .int .u8 32, .int .u8 116, .int .u8 104, .int .u8 101, .int .u8 32, .int .u8 99, .int .u8 111, .int .u8 112, .int .u8 121] [98, 101, 104, 105, 110, 100, 32, 116, 104, 101, 32, 99, 111, 112, 121] 15 rfl rfl (by unfold maxLen; decide)
                      have hIb := hIa.grow hbb
                      have hc2 := hc1.grow hbb
                      have hcp : pc ≠ p := by have := hnc.base; have := HI3.out.net.lt; omega
                      have hvv : ∀ g, vc.ownBlock = some g → v.ownBlock ≠ some g := fun g hg e => by have := hvc g hg; have := (HI3.out.net.row.lt g e).2; omega
                      have hvl : ∀ g, vc.ownBlock = some g → g < wb.heap.size := fun g hg => (hc2.row.lt g hg).2
                      obtain ⟨x9, hx9⟩ : ∃ x9 : PK, x9 = ⟨9, 9, ⟨([98, 101, 104, 105, 110, 100, 32, 116, 104, 101, 32, 99, 111, 112, 121] : List UInt8).toArray⟩⟩ := ⟨_, rfl⟩
                      have cS := psend_any N x9 [98, 101, 104, 105, 110, 100, 32, 116, 104, 101, 32, 99, 111, 112, 121] _ _ i w.heap.size p v wb hIb.net hIb.ok (by omega) hIb.bel.size hrb (by rw [hx9])
                      have hok2 := hIb.ok.send x9
                      obtain ⟨R, hR⟩ : ∃ R, R = N.send x9 := ⟨_, rfl⟩
                      rw [← hR] at cS hok2
                      obtain ⟨N3, E⟩ := R
                      have h9 : x9.frm = 9 ∧ x9.dst = 9 := by rw [hx9]; exact ⟨rfl, rfl⟩
                      rw [h9.1, h9.2] at cS
                      have HIB := Lib.hid hIb
                      have HC2 := Lib.hid hc2
                      have HVV := Lib.hid hvv
                      have HVL := Lib.hid hvl
                      have HOK2 := Lib.hid hok2
                      clear hIb hc2 hvv hvl hok2 hR hx9 h9 hrb hbb hsb hIa hc1 hnc hba hvc cC hl0
                      go_wp2_with fail
                      refine cS.mono ?_
                      rintro e wd ⟨rfl, v2, hn2, hb2, hm2, hv2⟩
                      have hc3 := HC2.out.other HIB.out.net hm2 types_P hcp HVV.out
                      have hr3 := HIB.out.prog hm2
                      have hB3 := HIB.out.bel.trans hb2
                      have cT := ptake_any N3 0 (i + 1) w.heap.size p v2 wd hn2 HOK2.out hB3.size
                      have hv22 : ∀ g, vc.ownBlock = some g → v2.ownBlock ≠ some g := fun g hg e => (hv2 g e).elim (fun h => HVV.out g hg h) (fun h => by have := HVL.out g hg; omega)
                      have HC3 := Lib.hid hc3
                      have HR3 := Lib.hid hr3
                      have HB3 := Lib.hid hB3
                      have HN3 := Lib.hid hn2
                      have HV22 := Lib.hid hv22
                      clear hc3 hr3 hB3 hn2 hb2 hm2 hv2 hv22 cS hcv
                      go_wp2_with fail
                      refine cT.mono ?_
                      rintro e we ⟨rfl, v3, hn4, hb4, hm4, hv4⟩
                      have hc4 := HC3.out.other HN3.out hm4 types_P hcp HV22.out
                      have hr4 := HR3.out.beside2 HN3.out hm4
                      have HF := Lib.hid (PI.made hc4 hr4 (HIB.out.ok.mono (Nat.le_succ i)) (HB3.out.trans hb4))
                      clear hc4 hr4 hn4 hb4 hm4 hv4 cT
                      go_wp2_with fail
                      go_meet
                      exact ⟨pc, N, vc, u, rfl, rfl, rfl, HF⟩))))
          case rest =>
            refine way_out (inferInstanceAs (Nonempty (WayTo (G := _) (by
              obtain ⟨p2, N2, v2, u2, rfl, rfl, rfl, hP⟩ := hcut
              obtain ⟨wy, hwy⟩ : ∃ wy : World, wy = wc := ⟨_, rfl⟩
              subst hwy
              clear k0 k1 k2 k3 k4 hbxl HX3 HI3 HBX HW3
              have hl1000 : N2.row.length ≤ 1000 := Nat.le_trans hP.out.ok.row hP.out.ok.most
              obtain ⟨Ad, cd, hua⟩ := hP.out.ref.row.slice
              subst hua
              have hap := fun g hg => hP.out.apart (g := g) hg
              have HAP := Lib.hid hap
              clear hap
              go_wp2_with fail
              refine (pall_any N2 _ _ _ wy hP.out.net hl1000).mono ?_
              rintro e wa ⟨va, rfl, hoa, hba⟩
              obtain ⟨Aa, ca, rfl⟩ := hoa.slice
              have hPa := hP.out.grow hba
              have HOA0 := Lib.hid hoa
              have HPA := Lib.hid hPa
              have hsa := hba.size
              clear hoa hba hPa
              go_wp2_with fail
              refine (pall_any N2 _ _ _ wa HPA.out.net hl1000).mono ?_
              rintro e wb ⟨vb, rfl, hob, hbb⟩
              obtain ⟨Ab, cb, rfl⟩ := hob.slice
              have HPD := Lib.hid ((HPA.out.grow hbb).grow (Below.refl _ _).drew)
              have HOA := Lib.hid ((HOA0.out.below hbb).below (w' := wb.drew) (Below.refl _ _).drew)
              have HOB0 := Lib.hid (hob.below (w' := wb.drew) (Below.refl _ _).drew)
              have hsb := hbb.size
              have hal : ∀ g, (Value.slice Aa N2.row.length ca).ownBlock = some g → wy.heap.size ≤ g ∧ g < wa.heap.size := fun g hg => HOA0.out.lt g hg
              have HAL := Lib.hid hal
              clear hob hbb HPA HOA0 hal
              go_upto_region 33 with fail
              refine wp_region_held_drew (S := (fun W : World => W.cell? ⟨q, 1, none⟩ = some (.int .i64 (N2.lost : Int)) ∧ W.cell? ⟨q, 2, none⟩ = some (.slice Ad N2.row.length cd))) (by decide +kernel) ⟨(blk_cells (HPD.out).ref.net).1 1, (blk_cells (HPD.out).ref.net).1 2⟩ (fun hHeld => ?_)
              refine takeD (i := 0) (d := 197) (v := .bool true) rfl rfl (by decide +kernel) (by decide +kernel) (by decide +kernel) (fun _ _ _ h => h) (.inl ⟨by rfl, fun w hSw => by dsimp only at hSw; go_simp; try with_reducible rfl⟩) (by assumption) ?_
              simp only [Act.put, List.setIfInBounds_toArray, List.set_cons_zero, List.set_cons_succ]
              refine takeD (i := 1) (d := 198) (v := .bool false) rfl rfl (by decide +kernel) (by decide +kernel) (by decide +kernel) (fun _ _ _ h => h) (.inl ⟨by rfl, fun w hSw => by dsimp only at hSw; go_simp; try with_reducible rfl⟩) (by assumption) ?_
              simp only [Act.put, List.setIfInBounds_toArray, List.set_cons_zero, List.set_cons_succ]
              refine takeD (i := 2) (d := 199) (v := .bool false) rfl rfl (by decide +kernel) (by decide +kernel) (by decide +kernel) (fun _ _ _ h => h) (.inl ⟨by rfl, fun w hSw => by dsimp only at hSw; go_simp; try with_reducible rfl⟩) (by assumption) ?_
              simp only [Act.put, List.setIfInBounds_toArray, List.set_cons_zero, List.set_cons_succ]
              refine takeD (i := 3) (d := 200) (v := .pointer (some ⟨p2, 0, none⟩)) rfl rfl (by decide +kernel) (by decide +kernel) (by decide +kernel) (fun _ _ _ h => h) (.inl ⟨by rfl, fun w hSw => by dsimp only at hSw; go_simp; try with_reducible rfl⟩) (by assumption) ?_
              simp only [Act.put, List.setIfInBounds_toArray, List.set_cons_zero, List.set_cons_succ]
              refine takeD (i := 5) (d := 202) (v := .pointer (some ⟨q, 0, none⟩)) rfl rfl (by decide +kernel) (by decide +kernel) (by decide +kernel) (fun _ _ _ h => h) (.inl ⟨by rfl, fun w hSw => by dsimp only at hSw; go_simp; try with_reducible rfl⟩) (by assumption) ?_
              simp only [Act.put, List.setIfInBounds_toArray, List.set_cons_zero, List.set_cons_succ]
              refine takeD (i := 6) (d := 203) (v := .pointer (some ⟨q, 0, none⟩)) rfl rfl (by decide +kernel) (by decide +kernel) (by decide +kernel) (fun _ _ _ h => h) (.inl ⟨by rfl, fun w hSw => by dsimp only at hSw; go_simp; try with_reducible rfl⟩) (by assumption) ?_
              simp only [Act.put, List.setIfInBounds_toArray, List.set_cons_zero, List.set_cons_succ]
              refine takeD (i := 7) (d := 204) (v := .pointer (some ⟨q, 2, none⟩)) rfl rfl (by decide +kernel) (by decide +kernel) (by decide +kernel) (fun _ _ _ h => h) (.inl ⟨by rfl, fun w hSw => by dsimp only at hSw; go_simp; try with_reducible rfl⟩) (by assumption) ?_
              simp only [Act.put, List.setIfInBounds_toArray, List.set_cons_zero, List.set_cons_succ]
              refine takeD (i := 8) (d := 205) (v := .slice Ad N2.row.length cd) rfl rfl (by decide +kernel) (by decide +kernel) (by decide +kernel) (fun _ _ _ h => h) (.inl ⟨by rfl, fun w hSw => by dsimp only at hSw; go_simp; try with_reducible rfl⟩) (by assumption) ?_
              simp only [Act.put, List.setIfInBounds_toArray, List.set_cons_zero, List.set_cons_succ]
              refine takeD (i := 9) (d := 206) (v := .int .i64 (N2.row.length : Int)) rfl rfl (by decide +kernel) (by decide +kernel) (by decide +kernel) (fun _ _ _ h => h) (.inl ⟨by rfl, fun w hSw => by dsimp only at hSw; go_simp; try with_reducible rfl⟩) (by assumption) ?_
              simp only [Act.put, List.setIfInBounds_toArray, List.set_cons_zero, List.set_cons_succ]
              refine wpAnyH_ready (rs := [4]) (by decide +kernel) (by simp) ?_
              refine AllReadyH.cons rfl (fun K hK => ?_) AllReadyH.nil
              rw [if_pos (by rfl)]
              go_simp
              go_at_call 16
              refine (plen_any N2 _ _ v2 wb.drew HPD.out.net).mono ?_
              rintro e wx ⟨rfl, rfl⟩
              dsimp only
              refine hK.out _ _ hHeld (fun hHeldhK => ?_)
              try simp only [Act.put, List.setIfInBounds_toArray, List.set_cons_zero, List.set_cons_succ]
              refine takeD (i := 10) (d := 207) (v := .bool false) rfl rfl (by decide +kernel) (by decide +kernel) (by decide +kernel) (fun _ _ _ h => h) (.inl ⟨by rfl, fun w hSw => by dsimp only at hSw; go_simp; try with_reducible rfl⟩) (by assumption) ?_
              simp only [Act.put, List.setIfInBounds_toArray, List.set_cons_zero, List.set_cons_succ]
              refine takeD (i := 11) (d := 208) (v := .bool false) rfl rfl (by decide +kernel) (by decide +kernel) (by decide +kernel) (fun _ _ _ h => h) (.inl ⟨by rfl, fun w hSw => by dsimp only at hSw; go_simp; try with_reducible rfl⟩) (by assumption) ?_
              simp only [Act.put, List.setIfInBounds_toArray, List.set_cons_zero, List.set_cons_succ]
              refine takeD (i := 12) (d := 209) (v := .bool false) rfl rfl (by decide +kernel) (by decide +kernel) (by decide +kernel) (fun _ _ _ h => h) (.inl ⟨by rfl, fun w hSw => by dsimp only at hSw; go_simp; try with_reducible rfl⟩) (by assumption) ?_
              simp only [Act.put, List.setIfInBounds_toArray, List.set_cons_zero, List.set_cons_succ]
              refine takeD (i := 13) (d := 210) (v := .pointer (some ⟨p2, 0, none⟩)) rfl rfl (by decide +kernel) (by decide +kernel) (by decide +kernel) (fun _ _ _ h => h) (.inl ⟨by rfl, fun w hSw => by dsimp only at hSw; go_simp; try with_reducible rfl⟩) (by assumption) ?_
              simp only [Act.put, List.setIfInBounds_toArray, List.set_cons_zero, List.set_cons_succ]
              refine takeD (i := 15) (d := 212) (v := .pointer (some ⟨q, 0, none⟩)) rfl rfl (by decide +kernel) (by decide +kernel) (by decide +kernel) (fun _ _ _ h => h) (.inl ⟨by rfl, fun w hSw => by dsimp only at hSw; go_simp; try with_reducible rfl⟩) (by assumption) ?_
              simp only [Act.put, List.setIfInBounds_toArray, List.set_cons_zero, List.set_cons_succ]
              refine takeD (i := 16) (d := 213) (v := .pointer (some ⟨q, 0, none⟩)) rfl rfl (by decide +kernel) (by decide +kernel) (by decide +kernel) (fun _ _ _ h => h) (.inl ⟨by rfl, fun w hSw => by dsimp only at hSw; go_simp; try with_reducible rfl⟩) (by assumption) ?_
              simp only [Act.put, List.setIfInBounds_toArray, List.set_cons_zero, List.set_cons_succ]
              refine takeD (i := 17) (d := 214) (v := .pointer (some ⟨q, 1, none⟩)) rfl rfl (by decide +kernel) (by decide +kernel) (by decide +kernel) (fun _ _ _ h => h) (.inl ⟨by rfl, fun w hSw => by dsimp only at hSw; go_simp; try with_reducible rfl⟩) (by assumption) ?_
              simp only [Act.put, List.setIfInBounds_toArray, List.set_cons_zero, List.set_cons_succ]
              refine takeD (i := 18) (d := 215) (v := .int .i64 (N2.lost : Int)) rfl rfl (by decide +kernel) (by decide +kernel) (by decide +kernel) (fun _ _ _ h => h) (.inl ⟨by rfl, fun w hSw => by dsimp only at hSw; go_simp; try with_reducible rfl⟩) (by assumption) ?_
              simp only [Act.put, List.setIfInBounds_toArray, List.set_cons_zero, List.set_cons_succ]
              refine wpAnyH_ready (rs := [14]) (by decide +kernel) (by simp) ?_
              refine AllReadyH.cons rfl (fun K2 hK2 => ?_) AllReadyH.nil
              rw [if_pos (by rfl)]
              go_simp
              go_at_call 17
              refine (plost_any N2 _ _ v2 wb.drew HPD.out.net).mono ?_
              rintro e wx ⟨rfl, rfl⟩
              dsimp only
              refine hK2.out _ _ hHeld (fun hHeldhK2 => ?_)
              try simp only [Act.put, List.setIfInBounds_toArray, List.set_cons_zero, List.set_cons_succ]
              refine takeD (i := 19) (d := 216) (v := .bool false) rfl rfl (by decide +kernel) (by decide +kernel) (by decide +kernel) (fun _ _ _ h => h) (.inl ⟨by rfl, fun w hSw => by dsimp only at hSw; go_simp; try with_reducible rfl⟩) (by assumption) ?_
              simp only [Act.put, List.setIfInBounds_toArray, List.set_cons_zero, List.set_cons_succ]
              refine takeD (i := 20) (d := 217) (v := .bool false) rfl rfl (by decide +kernel) (by decide +kernel) (by decide +kernel) (fun _ _ _ h => h) (.inl ⟨by rfl, fun w hSw => by dsimp only at hSw; go_simp; try with_reducible rfl⟩) (by assumption) ?_
              simp only [Act.put, List.setIfInBounds_toArray, List.set_cons_zero, List.set_cons_succ]
              refine takeD (i := 21) (d := 218) (v := .bool false) rfl rfl (by decide +kernel) (by decide +kernel) (by decide +kernel) (fun _ _ _ h => h) (.inl ⟨by rfl, fun w hSw => by dsimp only at hSw; go_simp; try with_reducible rfl⟩) (by assumption) ?_
              simp only [Act.put, List.setIfInBounds_toArray, List.set_cons_zero, List.set_cons_succ]
              refine takeD (i := 22) (d := 219) (v := .slice Aa N2.row.length ca) rfl rfl (by decide +kernel) (by decide +kernel) (by decide +kernel) (fun _ _ _ h => h) (.inl ⟨by rfl, fun w hSw => by dsimp only at hSw; go_simp; try with_reducible rfl⟩) (by assumption) ?_
              simp only [Act.put, List.setIfInBounds_toArray, List.set_cons_zero, List.set_cons_succ]
              refine takeD (i := 23) (d := 220) (v := .pointer (some ⟨q, 0, none⟩)) rfl rfl (by decide +kernel) (by decide +kernel) (by decide +kernel) (fun _ _ _ h => h) (.inl ⟨by rfl, fun w hSw => by dsimp only at hSw; go_simp; try with_reducible rfl⟩) (by assumption) ?_
              simp only [Act.put, List.setIfInBounds_toArray, List.set_cons_zero, List.set_cons_succ]
              refine takeD (i := 24) (d := 221) (v := .pointer (some ⟨q, 0, none⟩)) rfl rfl (by decide +kernel) (by decide +kernel) (by decide +kernel) (fun _ _ _ h => h) (.inl ⟨by rfl, fun w hSw => by dsimp only at hSw; go_simp; try with_reducible rfl⟩) (by assumption) ?_
              simp only [Act.put, List.setIfInBounds_toArray, List.set_cons_zero, List.set_cons_succ]
              refine takeD (i := 25) (d := 222) (v := .pointer (some ⟨q, 2, none⟩)) rfl rfl (by decide +kernel) (by decide +kernel) (by decide +kernel) (fun _ _ _ h => h) (.inl ⟨by rfl, fun w hSw => by dsimp only at hSw; go_simp; try with_reducible rfl⟩) (by assumption) ?_
              simp only [Act.put, List.setIfInBounds_toArray, List.set_cons_zero, List.set_cons_succ]
              refine takeD (i := 26) (d := 223) (v := .slice Ad N2.row.length cd) rfl rfl (by decide +kernel) (by decide +kernel) (by decide +kernel) (fun _ _ _ h => h) (.inl ⟨by rfl, fun w hSw => by dsimp only at hSw; go_simp; try with_reducible rfl⟩) (by assumption) ?_
              simp only [Act.put, List.setIfInBounds_toArray, List.set_cons_zero, List.set_cons_succ]
              refine wpAnyH_ready (rs := [27]) (by decide +kernel) (by simp) ?_
              refine AllReadyH.cons rfl (fun K3 hK3 => ?_) AllReadyH.nil
              rw [if_pos (by rfl)]
              go_simp
              go_at_call 10
              refine (told_yes N2.row _ _ wb.drew HOA.out.n.any HPD.out.ref.row.n.any).mono ?_
              rintro e wt ⟨rfl, hbt⟩
              have hPt := HPD.out.grow hbt
              have hst : wt.cell? ⟨q, 1, none⟩ = some (.int .i64 (N2.lost : Int)) ∧ wt.cell? ⟨q, 2, none⟩ = some (.slice Ad N2.row.length cd) := ⟨(blk_cells (hPt).ref.net).1 1, (blk_cells (hPt).ref.net).1 2⟩
              dsimp only
              refine hK3.out _ _ hst (fun hHeldhK3 => ?_)
              try simp only [Act.put, List.setIfInBounds_toArray, List.set_cons_zero, List.set_cons_succ]
              refine takeD (i := 28) (d := 225) (v := .bool false) rfl rfl (by decide +kernel) (by decide +kernel) (by decide +kernel) (fun _ _ _ h => h) (.inl ⟨by rfl, fun w hSw => by dsimp only at hSw; go_simp; try with_reducible rfl⟩) (by assumption) ?_
              simp only [Act.put, List.setIfInBounds_toArray, List.set_cons_zero, List.set_cons_succ]
              refine takeD (i := 29) (d := 226) (v := .bool false) rfl rfl (by decide +kernel) (by decide +kernel) (by decide +kernel) (fun _ _ _ h => h) (.inl ⟨by rfl, fun w hSw => by dsimp only at hSw; go_simp; try with_reducible rfl⟩) (by assumption) ?_
              simp only [Act.put, List.setIfInBounds_toArray, List.set_cons_zero, List.set_cons_succ]
              refine wpAnyH_done (by decide +kernel) ?_ _
              have HPT := Lib.hid hPt
              have HOAX := Lib.hid (HOA.out.below hbt).x
              have HOBT := Lib.hid (HOB0.out.below hbt)
              clear hPt hbt hst hHeld hHeldhK3 HOA HOB0 HPD
              go_wp2_with fail
              go_loopw [23] (fun s23 wr => ∃ k : Nat, s23 = .int .i64 (k : Int) ∧ k ≤ N2.row.length ∧ Hid (PI w wr p2 q (i + 1) N2 v2 (.slice Ad N2.row.length cd) ∧ OwnX wr wy.heap.size 36 3 (.slice Aa N2.row.length ca) N2.row.length ∧ pkR.Own wr wa.heap.size 36 (.slice Ab N2.row.length cb) N2.row)) (fun s23 _ => N2.row.length - (intOf s23).toNat)
              case atStart => exact ⟨0, rfl, Nat.zero_le _, Lib.hid ⟨HPT.out, HOAX.out, HOBT.out⟩⟩
              case round =>
                obtain ⟨k, rfl, hk, hQ⟩ := hrel
                obtain ⟨wk, hwk⟩ : ∃ wk : World, wk = wr := ⟨_, rfl⟩
                subst hwk
                by_cases hkl : k < N2.row.length
                · have b1 : (k : Int) < (N2.row.length : Int) := by omega
                  have b0 : (0 : Int) ≤ (k : Int) := by omega
                  obtain ⟨g, x9, rfl, hgl, z1, z2, hset⟩ := hQ.out.2.1.poke (j := k * 3 + 2) (by omega)
                  obtain ⟨d1, d2⟩ := HAL.out g rfl
                  obtain ⟨q1, q2, q3, q4⟩ := HAP.out g d1
                  have hP2 := hQ.out.1.poke (j := k * 3 + 2) (x := .string ⟨#[115, 112, 111, 105, 108, 116]⟩) (Nat.le_trans hP.out.bel.size d1) q1 q2 q3 q4
                  have hB2 : pkR.Own (wk.setCell ⟨g, k * 3 + 2, none⟩ (.string ⟨#[115, 112, 111, 105, 108, 116]⟩)) wa.heap.size 36 (.slice Ab N2.row.length cb) N2.row := own_far hQ.out.2.2 fun b hb => heap_setCell_far _ _ _ _ (by have := (hQ.out.2.2.lt b hb).1; omega)
                  have HQ2 := Lib.hid (And.intro hP2 (And.intro (hset (.string ⟨#[115, 112, 111, 105, 108, 116]⟩)) hB2))
                  clear hP2 hB2 hset d1 d2 q1 q2 q3 q4 hgl
                  go_wp2_with fail
                  exact ⟨⟨k + 1, by go_num, hkl, HQ2⟩, by simp [intOf]; omega⟩
                · have b1 : ¬ (k : Int) < (N2.row.length : Int) := by omega
                  obtain ⟨iu, hiu, y0, y1, y2⟩ := info_parts info_PK
                  obtain ⟨wl, hwl⟩ : ∃ wl, wl = wk.alloc (.cells #[.int .i64 0, .int .i64 0, .string ⟨#[]⟩, .int .i64 0, .int .i64 0, .string ⟨#[]⟩] 36) := ⟨_, rfl⟩
                  have hbl : Below wk.heap.size wk wl := by rw [hwl]; exact (Below.refl _ _).alloc (Nat.le_refl _) _
                  have hxl : wl.heap[wk.heap.size]? = some (.cells (pkR.row [zK, zK]).toArray 36 (0, 0)) := by rw [hwl]; exact heap_alloc_new wk _
                  obtain ⟨xs, hox⟩ := hQ.out.2.1.same (w' := wl) fun b hb => hbl.block b (hQ.out.2.1.lt b hb).2
                  have hsy : w.heap.size ≤ wy.heap.size := hP.out.bel.size
                  have hkk := hQ.out.1.bel.size
                  obtain ⟨Aq, cq, wq, hr, hoq, hgq, hat⟩ := run_appAt (P := Try.prog) (w := wl) w.heap.size 43 43 36 iu _ 3 32 Try.underlying43 hiu y0 y1 y2 rfl (by decide) _ (.slice (some ⟨wk.heap.size, 0, none⟩) 2 2) N2.row.length xs (own_base hox hsy) 2 _ (RowN.at (lit_row (R := pkR) (N := Any) hxl trivial (by decide))) (pkR.row_one _) (by unfold maxLen; omega) (by omega) (by have := hbl.size; omega)
                  obtain ⟨n2, hn2⟩ : ∃ n2, n2 = N2.row.length + 2 := ⟨_, rfl⟩
                  rw [← hn2] at hr hoq hat
                  have hPl := hQ.out.1.grow hbl
                  have hfar : ∀ b, b < wl.heap.size → (Value.slice Aa N2.row.length ca).ownBlock ≠ some b → wq.heap[b]? = wl.heap[b]? := fun b hb hne => hgq.block b hb (fun e => hne e.symm)
                  have hPq : PI w wq p2 q (i + 1) N2 v2 (.slice Ad N2.row.length cd) := ⟨hPl.net.kept fun b hb hbq => hfar b hb (fun e => by
                      obtain ⟨q1, q2, q3, q4⟩ := HAP.out b (HAL.out b e).1
                      exact hbq.elim (fun e2 => q1 e2.symm) q3), hPl.ref.kept fun b hb hbq => hfar b hb (fun e => by
                      obtain ⟨q1, q2, q3, q4⟩ := HAP.out b (HAL.out b e).1
                      exact hbq.elim (fun e2 => q2 e2.symm) q4), hPl.ok, (hPl.bel).grown hgq hPl.bel.size fun b hb => Nat.le_trans hsy (HAL.out b hb).1⟩
                  have hBq : pkR.Own wq wa.heap.size 36 (.slice Ab N2.row.length cb) N2.row := own_far (hQ.out.2.2.below hbl) fun b hb => hfar b (((hQ.out.2.2.below hbl).lt b hb).2) (fun e => by have := (HAL.out b e).2; have := (hQ.out.2.2.lt b hb).1; omega)
                  have hrun : (Builtin.append_ #[43, 43] 43 #[.slice Aa N2.row.length ca, .slice (some ⟨wk.heap.size, 0, none⟩) 2 2]).run Try.prog (wk.alloc (.cells #[.int .i64 0, .int .i64 0, .string ⟨#[]⟩, .int .i64 0, .int .i64 0, .string ⟨#[]⟩] 36)) = .ok (.slice Aq n2 cq) wq := by rw [← hwl]; exact hr
                  have HR := Lib.hid hrun
                  have HPQ := Lib.hid (hPq.grow (Below.refl _ _).drew)
                  have HOB := Lib.hid (hBq.below (w' := wq.drew) (Below.refl _ _).drew)
                  have hw2 : wrap64 ((N2.row.length : Int) + 2) = (N2.row.length : Int) + 2 ∧ IntKind.i64.wrap ((N2.row.length : Int) + 2) = (N2.row.length : Int) + 2 := wrap_two hl1000
                  obtain ⟨hw3, hw4⟩ := hw2
                  have hne2 : ((n2 : Int) != (N2.row.length : Int) + 2) = false := by rw [hn2]; simp
                  clear hrun hr hoq hgq hat hPl hfar hPq hBq hiu y0 y1 y2 hwl hbl hxl hox hn2 hsy hkk HPT HOAX HOBT
                  go_upto_region 40 with (at_builtin; go_must (refine Lib.wpList_append_run _ rfl (.tmp 237) (.tmp 240) 43 43 rfl (.slice Aa N2.row.length ca) (.slice (some ⟨wk.heap.size, 0, none⟩) 2 2) rfl rfl _ _ HR.out ?_))
                  refine wp_region_held_drew (S := (fun W : World => W.cell? ⟨q, 1, none⟩ = some (.int .i64 (N2.lost : Int)) ∧ W.cell? ⟨q, 2, none⟩ = some (.slice Ad N2.row.length cd))) (by decide +kernel) ⟨(blk_cells (HPQ.out).ref.net).1 1, (blk_cells (HPQ.out).ref.net).1 2⟩ (fun hHeld => ?_)
                  refine takeD (i := 0) (d := 242) (v := .slice Aq n2 cq) rfl rfl (by decide +kernel) (by decide +kernel) (by decide +kernel) (fun _ _ _ h => h) (.inl ⟨by rfl, fun w hSw => by dsimp only at hSw; go_simp; try with_reducible rfl⟩) (by assumption) ?_
                  simp only [Act.put, List.setIfInBounds_toArray, List.set_cons_zero, List.set_cons_succ]
                  refine takeD (i := 1) (d := 243) (v := .int .i64 (n2 : Int)) rfl rfl (by decide +kernel) (by decide +kernel) (by decide +kernel) (fun _ _ _ h => h) (.inl ⟨by rfl, fun w hSw => by dsimp only at hSw; go_simp; try with_reducible rfl⟩) (by assumption) ?_
                  simp only [Act.put, List.setIfInBounds_toArray, List.set_cons_zero, List.set_cons_succ]
                  refine takeD (i := 2) (d := 244) (v := .pointer (some ⟨q, 0, none⟩)) rfl rfl (by decide +kernel) (by decide +kernel) (by decide +kernel) (fun _ _ _ h => h) (.inl ⟨by rfl, fun w hSw => by dsimp only at hSw; go_simp; try with_reducible rfl⟩) (by assumption) ?_
                  simp only [Act.put, List.setIfInBounds_toArray, List.set_cons_zero, List.set_cons_succ]
                  refine takeD (i := 3) (d := 245) (v := .pointer (some ⟨q, 0, none⟩)) rfl rfl (by decide +kernel) (by decide +kernel) (by decide +kernel) (fun _ _ _ h => h) (.inl ⟨by rfl, fun w hSw => by dsimp only at hSw; go_simp; try with_reducible rfl⟩) (by assumption) ?_
                  simp only [Act.put, List.setIfInBounds_toArray, List.set_cons_zero, List.set_cons_succ]
                  refine takeD (i := 4) (d := 246) (v := .pointer (some ⟨q, 2, none⟩)) rfl rfl (by decide +kernel) (by decide +kernel) (by decide +kernel) (fun _ _ _ h => h) (.inl ⟨by rfl, fun w hSw => by dsimp only at hSw; go_simp; try with_reducible rfl⟩) (by assumption) ?_
                  simp only [Act.put, List.setIfInBounds_toArray, List.set_cons_zero, List.set_cons_succ]
                  refine takeD (i := 5) (d := 247) (v := .slice Ad N2.row.length cd) rfl rfl (by decide +kernel) (by decide +kernel) (by decide +kernel) (fun _ _ _ h => h) (.inl ⟨by rfl, fun w hSw => by dsimp only at hSw; go_simp; try with_reducible rfl⟩) (by assumption) ?_
                  simp only [Act.put, List.setIfInBounds_toArray, List.set_cons_zero, List.set_cons_succ]
                  refine takeD (i := 6) (d := 248) (v := .int .i64 (N2.row.length : Int)) rfl rfl (by decide +kernel) (by decide +kernel) (by decide +kernel) (fun _ _ _ h => h) (.inl ⟨by rfl, fun w hSw => by dsimp only at hSw; go_simp; try with_reducible rfl⟩) (by assumption) ?_
                  simp only [Act.put, List.setIfInBounds_toArray, List.set_cons_zero, List.set_cons_succ]
                  refine takeD (i := 7) (d := 249) (v := .int .i64 ((N2.row.length : Int) + 2)) rfl rfl (by decide +kernel) (by decide +kernel) (by decide +kernel) (fun _ _ _ h => h) (.inl ⟨by rfl, fun w hSw => by dsimp only at hSw; go_simp; try with_reducible rfl⟩) (by assumption) ?_
                  simp only [Act.put, List.setIfInBounds_toArray, List.set_cons_zero, List.set_cons_succ]
                  refine takeD (i := 8) (d := 250) (v := .bool false) rfl rfl (by decide +kernel) (by decide +kernel) (by decide +kernel) (fun _ _ _ h => h) (.inl ⟨by rfl, fun w hSw => by dsimp only at hSw; go_simp; try with_reducible rfl⟩) (by assumption) ?_
                  simp only [Act.put, List.setIfInBounds_toArray, List.set_cons_zero, List.set_cons_succ]
                  refine takeD (i := 9) (d := 251) (v := .bool false) rfl rfl (by decide +kernel) (by decide +kernel) (by decide +kernel) (fun _ _ _ h => h) (.inl ⟨by rfl, fun w hSw => by dsimp only at hSw; go_simp; try with_reducible rfl⟩) (by assumption) ?_
                  simp only [Act.put, List.setIfInBounds_toArray, List.set_cons_zero, List.set_cons_succ]
                  refine takeD (i := 10) (d := 252) (v := .slice Ab N2.row.length cb) rfl rfl (by decide +kernel) (by decide +kernel) (by decide +kernel) (fun _ _ _ h => h) (.inl ⟨by rfl, fun w hSw => by dsimp only at hSw; go_simp; try with_reducible rfl⟩) (by assumption) ?_
                  simp only [Act.put, List.setIfInBounds_toArray, List.set_cons_zero, List.set_cons_succ]
                  refine takeD (i := 11) (d := 253) (v := .pointer (some ⟨q, 0, none⟩)) rfl rfl (by decide +kernel) (by decide +kernel) (by decide +kernel) (fun _ _ _ h => h) (.inl ⟨by rfl, fun w hSw => by dsimp only at hSw; go_simp; try with_reducible rfl⟩) (by assumption) ?_
                  simp only [Act.put, List.setIfInBounds_toArray, List.set_cons_zero, List.set_cons_succ]
                  refine takeD (i := 12) (d := 254) (v := .pointer (some ⟨q, 0, none⟩)) rfl rfl (by decide +kernel) (by decide +kernel) (by decide +kernel) (fun _ _ _ h => h) (.inl ⟨by rfl, fun w hSw => by dsimp only at hSw; go_simp; try with_reducible rfl⟩) (by assumption) ?_
                  simp only [Act.put, List.setIfInBounds_toArray, List.set_cons_zero, List.set_cons_succ]
                  refine takeD (i := 13) (d := 255) (v := .pointer (some ⟨q, 2, none⟩)) rfl rfl (by decide +kernel) (by decide +kernel) (by decide +kernel) (fun _ _ _ h => h) (.inl ⟨by rfl, fun w hSw => by dsimp only at hSw; go_simp; try with_reducible rfl⟩) (by assumption) ?_
                  simp only [Act.put, List.setIfInBounds_toArray, List.set_cons_zero, List.set_cons_succ]
                  refine takeD (i := 14) (d := 256) (v := .slice Ad N2.row.length cd) rfl rfl (by decide +kernel) (by decide +kernel) (by decide +kernel) (fun _ _ _ h => h) (.inl ⟨by rfl, fun w hSw => by dsimp only at hSw; go_simp; try with_reducible rfl⟩) (by assumption) ?_
                  simp only [Act.put, List.setIfInBounds_toArray, List.set_cons_zero, List.set_cons_succ]
                  refine wpAnyH_ready (rs := [15]) (by decide +kernel) (by simp) ?_
                  refine AllReadyH.cons rfl (fun K hK => ?_) AllReadyH.nil
                  rw [if_pos (by rfl)]
                  go_simp
                  go_at_call 10
                  refine (told_yes N2.row _ _ wq.drew HOB.out.n.any HPQ.out.ref.row.n.any).mono ?_
                  rintro e wt2 ⟨rfl, hbt2⟩
                  have hPt2 := HPQ.out.grow hbt2
                  have hst2 : wt2.cell? ⟨q, 1, none⟩ = some (.int .i64 (N2.lost : Int)) ∧ wt2.cell? ⟨q, 2, none⟩ = some (.slice Ad N2.row.length cd) := ⟨(blk_cells (hPt2).ref.net).1 1, (blk_cells (hPt2).ref.net).1 2⟩
                  dsimp only
                  refine hK.out _ _ hst2 (fun hHeldhK => ?_)
                  try simp only [Act.put, List.setIfInBounds_toArray, List.set_cons_zero, List.set_cons_succ]
                  refine takeD (i := 16) (d := 258) (v := .bool false) rfl rfl (by decide +kernel) (by decide +kernel) (by decide +kernel) (fun _ _ _ h => h) (.inl ⟨by rfl, fun w hSw => by dsimp only at hSw; go_simp; try with_reducible rfl⟩) (by assumption) ?_
                  simp only [Act.put, List.setIfInBounds_toArray, List.set_cons_zero, List.set_cons_succ]
                  refine takeD (i := 17) (d := 259) (v := .bool false) rfl rfl (by decide +kernel) (by decide +kernel) (by decide +kernel) (fun _ _ _ h => h) (.inl ⟨by rfl, fun w hSw => by dsimp only at hSw; go_simp; try with_reducible rfl⟩) (by assumption) ?_
                  simp only [Act.put, List.setIfInBounds_toArray, List.set_cons_zero, List.set_cons_succ]
                  refine takeD (i := 18) (d := 260) (v := .bool false) rfl rfl (by decide +kernel) (by decide +kernel) (by decide +kernel) (fun _ _ _ h => h) (.inl ⟨by rfl, fun w hSw => by dsimp only at hSw; go_simp; try with_reducible rfl⟩) (by assumption) ?_
                  simp only [Act.put, List.setIfInBounds_toArray, List.set_cons_zero, List.set_cons_succ]
                  refine takeD (i := 19) (d := 261) (v := .pointer (some ⟨p2, 0, none⟩)) rfl rfl (by decide +kernel) (by decide +kernel) (by decide +kernel) (fun _ _ _ h => h) (.inl ⟨by rfl, fun w hSw => by dsimp only at hSw; go_simp; try with_reducible rfl⟩) (by assumption) ?_
                  simp only [Act.put, List.setIfInBounds_toArray, List.set_cons_zero, List.set_cons_succ]
                  refine takeD (i := 21) (d := 263) (v := .pointer (some ⟨q, 0, none⟩)) rfl rfl (by decide +kernel) (by decide +kernel) (by decide +kernel) (fun _ _ _ h => h) (.inl ⟨by rfl, fun w hSw => by dsimp only at hSw; go_simp; try with_reducible rfl⟩) (by assumption) ?_
                  simp only [Act.put, List.setIfInBounds_toArray, List.set_cons_zero, List.set_cons_succ]
                  refine takeD (i := 22) (d := 264) (v := .pointer (some ⟨q, 0, none⟩)) rfl rfl (by decide +kernel) (by decide +kernel) (by decide +kernel) (fun _ _ _ h => h) (.inl ⟨by rfl, fun w hSw => by dsimp only at hSw; go_simp; try with_reducible rfl⟩) (by assumption) ?_
                  simp only [Act.put, List.setIfInBounds_toArray, List.set_cons_zero, List.set_cons_succ]
                  refine takeD (i := 23) (d := 265) (v := .pointer (some ⟨q, 2, none⟩)) rfl rfl (by decide +kernel) (by decide +kernel) (by decide +kernel) (fun _ _ _ h => h) (.inl ⟨by rfl, fun w hSw => by dsimp only at hSw; go_simp; try with_reducible rfl⟩) (by assumption) ?_
                  simp only [Act.put, List.setIfInBounds_toArray, List.set_cons_zero, List.set_cons_succ]
                  refine takeD (i := 24) (d := 266) (v := .slice Ad N2.row.length cd) rfl rfl (by decide +kernel) (by decide +kernel) (by decide +kernel) (fun _ _ _ h => h) (.inl ⟨by rfl, fun w hSw => by dsimp only at hSw; go_simp; try with_reducible rfl⟩) (by assumption) ?_
                  simp only [Act.put, List.setIfInBounds_toArray, List.set_cons_zero, List.set_cons_succ]
                  refine wpAnyH_ready (rs := [20]) (by decide +kernel) (by simp) ?_
                  refine AllReadyH.cons rfl (fun K2 hK2 => ?_) AllReadyH.nil
                  rw [if_pos (by rfl)]
                  go_simp
                  go_at_call 15
                  refine (pall_any N2 _ _ v2 wt2 hPt2.net hl1000).mono ?_
                  rintro e wu ⟨vn, rfl, hon, hbn⟩
                  have hPu := hPt2.grow hbn
                  obtain ⟨An, cn, rfl⟩ := hon.slice
                  have hst3 : wu.cell? ⟨q, 1, none⟩ = some (.int .i64 (N2.lost : Int)) ∧ wu.cell? ⟨q, 2, none⟩ = some (.slice Ad N2.row.length cd) := ⟨(blk_cells (hPu).ref.net).1 1, (blk_cells (hPu).ref.net).1 2⟩
                  dsimp only
                  refine hK2.out _ _ hst3 (fun hHeldhK2 => ?_)
                  try simp only [Act.put, List.setIfInBounds_toArray, List.set_cons_zero, List.set_cons_succ]
                  refine wpAnyH_ready (rs := [25]) (by decide +kernel) (by simp) ?_
                  refine AllReadyH.cons rfl (fun K3 hK3 => ?_) AllReadyH.nil
                  rw [if_pos (by rfl)]
                  go_simp
                  go_at_call 10
                  refine (told_yes N2.row _ _ wu hon.n.any hPu.ref.row.n.any).mono ?_
                  rintro e wv ⟨rfl, hbv⟩
                  have hPv := hPu.grow hbv
                  have hst4 : wv.cell? ⟨q, 1, none⟩ = some (.int .i64 (N2.lost : Int)) ∧ wv.cell? ⟨q, 2, none⟩ = some (.slice Ad N2.row.length cd) := ⟨(blk_cells (hPv).ref.net).1 1, (blk_cells (hPv).ref.net).1 2⟩
                  dsimp only
                  refine hK3.out _ _ hst4 (fun hHeldhK3 => ?_)
                  try simp only [Act.put, List.setIfInBounds_toArray, List.set_cons_zero, List.set_cons_succ]
                  refine takeD (i := 26) (d := 268) (v := .bool false) rfl rfl (by decide +kernel) (by decide +kernel) (by decide +kernel) (fun _ _ _ h => h) (.inl ⟨by rfl, fun w hSw => by dsimp only at hSw; go_simp; try with_reducible rfl⟩) (by assumption) ?_
                  simp only [Act.put, List.setIfInBounds_toArray, List.set_cons_zero, List.set_cons_succ]
                  refine takeD (i := 27) (d := 269) (v := .bool false) rfl rfl (by decide +kernel) (by decide +kernel) (by decide +kernel) (fun _ _ _ h => h) (.inl ⟨by rfl, fun w hSw => by dsimp only at hSw; go_simp; try with_reducible rfl⟩) (by assumption) ?_
                  simp only [Act.put, List.setIfInBounds_toArray, List.set_cons_zero, List.set_cons_succ]
                  refine wpAnyH_done (by decide +kernel) ?_ _
                  have HF := Lib.hid hPv
                  clear hPv hPu hPt2 hst2 hst3 hst4 hHeld hHeldhK hHeldhK2 hHeldhK3 hon hbn hbt2 hbv hw3 hw4 hne2 hl1000
                  go_wp2_with fail
                  exact ⟨⟨i + 1, p2, N2, v2, _, rfl, by go_num, hil, HF⟩, by simp [intOf]; omega⟩))))
        · have a2 : ¬ (i : Int) < 100 := by omega
          have HB := Lib.hid hJ.out.bel
          go_wp2_with fail
          refine (awake_any wz).mono ?_
          rintro e w3 ⟨rfl, hb⟩
          have HB2 := Lib.hid (HB.out.trans (Joins.below_le hb HB.out.size))
          clear hb
          go_wp2_with fail
          go_ret
          exact ⟨rfl, HB2.out⟩
      · have a1 : ¬ (i : Int) < (l.length : Int) := by omega
        have HB := Lib.hid hJ.out.bel
        go_wp2_with fail
        refine (awake_any wz).mono ?_
        rintro e w3 ⟨rfl, hb⟩
        have HB2 := Lib.hid (HB.out.trans (Joins.below_le hb HB.out.size))
        clear hb
        go_wp2_with fail
        go_ret
        exact ⟨rfl, HB2.out⟩
end Go.Proofs.Ytclfhidapkoiiaa
