/-
  A message's twin: the program's. No statement is proved here. No condition.
-/
import Derived.Test.YteaejihhdnndhaaMTwinM
namespace Go.Proofs.Yteaejihhdnndhaa
open Go.RowKit

set_option maxHeartbeats 40000000 in
set_option maxRecDepth 1000000 in
theorem ptwin_any (a : MG) (vE vL vP vX : Value) (w : World) (h : MsgL w Any a vE vL vP vX) (hn : MsgS a) :
    Calls Try.prog 18 #[.agg (a.cells vE vL vP vX)] w fun e w' => ∃ vE' vL' vP' vX', e = .returned (.agg (a.cells vE' vL' vP' vX')) ∧ MsgO w' w.heap.size a vE' vL' vP' vX' ∧ Below w.heap.size w w' := by
  obtain ⟨B, hB0⟩ : ∃ B, B = w.heap.size := ⟨_, rfl⟩
  rw [← hB0]
  obtain ⟨ca, hca⟩ : ∃ ca, ca = a.cells vE vL vP vX := ⟨_, rfl⟩
  rw [← hca]
  have hz := zero_msg
  obtain ⟨Z, hZ⟩ : ∃ Z, Z = zC := ⟨_, rfl⟩
  rw [← hZ] at hz
  obtain ⟨w1, hw1⟩ : ∃ w1, w1 = w.alloc (.cells ca 38) := ⟨_, rfl⟩
  have hb1 : Below B w w1 := by rw [hw1, hB0]; exact (Below.refl _ _).alloc (Nat.le_refl _) _
  have hx1 : w1.heap[w.heap.size]? = some (.cells ca 38 (0, 0)) := by rw [hw1]; exact heap_alloc_new w _
  have hs1 : w1.heap.size = w.heap.size + 1 := by rw [hw1]; simp
  obtain ⟨w2, hw2⟩ : ∃ w2, w2 = w1.alloc (.cells Z 38) := ⟨_, rfl⟩
  have hb2 : Below w1.heap.size w1 w2 := by rw [hw2]; exact (Below.refl _ _).alloc (Nat.le_refl _) _
  have hr2 : w2.heap[w1.heap.size]? = some (.cells Z 38 (0, 0)) := by rw [hw2]; exact heap_alloc_new w1 _
  have hx2 := (hb2.block _ (lt_of_heap hx1)).trans hx1
  have hB2 : Below B w w2 := hb1.trans (Joins.below_le hb2 (by omega))
  obtain ⟨p, hp⟩ : ∃ p, p = w.heap.size := ⟨_, rfl⟩
  obtain ⟨q, hq⟩ : ∃ q, q = w1.heap.size := ⟨_, rfl⟩
  have hq1 : q = w.heap.size + 1 := hq.trans hs1
  rw [← hp] at hx2
  rw [← hq] at hr2
  rw [hca] at hx2
  obtain ⟨rs0, hE, hEl, hEa⟩ := h.e
  have hww : w2 = (w.alloc (.cells ca 38)).alloc (.cells Z 38) := by rw [hw2, hw1]
  have hBp : B ≤ p := by omega
  have hBq : B ≤ q := by omega
  have HW := Lib.hid hww
  have HP := Lib.hid hp
  have HQ := Lib.hid hq1
  have HN := Lib.hid hn
  have HB0 := Lib.hid hB0
  have HZ := Lib.hid hZ
  have c22 : w2.cell? ⟨p, 22, none⟩ = some vE := ((blk_cells hx2).1 22).trans (mc_22 _ _ _ _ _)
  have f22 : w2.frozen? ⟨p, 22, none⟩ = false := (blk_cells hx2).2 22
  have h2E := (hE.grow (by rw [← hB0]; exact hb1)).grow hb2
  have cC := cloneEntry_any rs0 vE w2 h2E (by rw [hEl]; exact hn.e)
  have H0 := Lib.hid h
  have HEA := Lib.hid (And.intro hEl hEa)
  have HX2 := Lib.hid (And.intro hx2 hr2)
  have HB2 := Lib.hid hB2
  have hs2 : B + 2 ≤ w2.heap.size := by rw [hw2]; simp; omega
  clear h hw1 hb1 hx1 hs1 hw2 hb2 hr2 hx2 hB2 hq hq1 hww hp hE hEl hEa hn hB0 hca h2E hZ
  go_enter Try.func18, Try.ntmps18
  go_upto_region 1 with fail
  rw [← HW.out, ← HQ.out, ← HP.out]
  go_wp2_with fail
  refine cC.mono ?_
  rintro e w3 ⟨v3, rfl, ho3, hb3⟩
  clear cC c22 f22
  obtain ⟨A3, c3, hv3⟩ := ho3.slice
  have hx3 := (hb3.block p (lt_of_heap HX2.out.1)).trans HX2.out.1
  have hr3 := (hb3.block q (lt_of_heap HX2.out.2)).trans HX2.out.2
  have c22 : w3.cell? ⟨p, 22, none⟩ = some vE := ((blk_cells hx3).1 22).trans (mc_22 _ _ _ _ _)
  have f22 : w3.frozen? ⟨p, 22, none⟩ = false := (blk_cells hx3).2 22
  obtain ⟨w4, hw4⟩ : ∃ w4, w4 = w3.setCell ⟨p, 22, none⟩ v3 := ⟨_, rfl⟩
  have far4 : ∀ b, b ≠ p → w4.heap[b]? = w3.heap[b]? := fun b hb => by rw [hw4]; exact Below.heap_setCell w3 ⟨p, 22, none⟩ v3 b hb
  have hx4 : w4.heap[p]? = some (.cells (a.cells v3 vL vP vX) 38 (0, 0)) := by rw [hw4, Joins.block_setCell hx3 _, set_e]
  have hqp : q ≠ p := by have h1 := HQ.out; have h2 := HP.out; omega
  have hr4 := (far4 q hqp).trans hr3
  have hB4 : Below B w w4 := (HB2.out.trans (Joins.below_le hb3 (by omega))).trans (by rw [hw4]; exact Below.setCell (p := ⟨p, 22, none⟩) (Below.refl _ _) hBp _)
  have hs4 : w3.heap.size ≤ w4.heap.size := by rw [hw4]; simp [World.setCell]
  have hT0 : TwL w4 B v3 rs0 a.entries 0 := by
    refine ⟨row_same (own_base ho3 (by omega)) fun b hb => far4 b fun e => ?_, HEA.out.1, fun j r e hr he => ?_⟩
    · subst e
      obtain ⟨cur, hc⟩ := row_type ho3 hb
      exact apart_T hc hx3 (by decide) rfl
    · have hat := HEA.out.2 j r e hr he
      refine ⟨⟨hat.term, hat.kind, hat.data, hat.ln⟩, fun hj => by omega, fun _ => ?_⟩
      exact hat.list.kept (fun b _ hb => by rw [HB0.out]; exact hb) hB4.size fun b _ hb => hB4.block b (by rw [HB0.out]; exact hb)
  subst hv3
  have HT0 := Lib.hid hT0
  have HX4 := Lib.hid (And.intro hx4 hr4)
  have HB4 := Lib.hid hB4
  have HW4 := Lib.hid hw4
  have HL := Lib.hid (show rs0.length = a.entries.length from HEA.out.1)
  have hl0 : rs0.length ≤ 2513169434916 := by rw [HL.out]; exact HN.out.e
  have d22 : w4.cell? ⟨p, 22, none⟩ = some (.slice A3 rs0.length c3) := ((blk_cells hx4).1 22).trans (mc_22 _ _ _ _ _)
  have hs44 : B + 2 ≤ w4.heap.size := by have := hb3.size; omega
  clear ho3 hb3 hx3 hr3 hw4 far4 hx4 hr4 hB4 hs4 hT0 HB2 HX2
  go_upto_region 2 with fail
  rw [← HW4.out]
  clear HW4 c22 f22
  go_wp2_with fail
  clear d22
  go_loopw [3, 4, 12] (fun _ _ s12 wr => ∃ (i : Nat) (rs : List RE), s12 = .int .i64 (i : Int) ∧ i ≤ rs0.length ∧ rs.length = rs0.length ∧ Hid (TwL wr B (.slice A3 rs0.length c3) rs a.entries i ∧ wr.heap[p]? = some (.cells (a.cells (.slice A3 rs0.length c3) vL vP vX) 38 (0, 0)) ∧ wr.heap[q]? = some (.cells Z 38 (0, 0)) ∧ Below B w wr ∧ w4.heap.size ≤ wr.heap.size)) (fun _ _ s12 _ => rs0.length - (intOf s12).toNat)
  case atStart => exact ⟨0, rs0, rfl, Nat.zero_le _, rfl, Lib.hid ⟨HT0.out, HX4.out.1, HX4.out.2, HB4.out, Nat.le_refl _⟩⟩
  case round =>
    clear HT0 HX4 HB4
    obtain ⟨i, rs, rfl, hi, hrl, hR⟩ := hrel
    obtain ⟨wz, hwz⟩ : ∃ wz : World, wz = wr := ⟨_, rfl⟩
    subst hwz
    by_cases hil : i < rs0.length
    · have a1 : (i : Int) < (rs0.length : Int) := by omega
      have a0 : (0 : Int) ≤ (i : Int) := by omega
      obtain ⟨r, hr⟩ : ∃ r, rs[i]? = some r := ⟨_, List.getElem?_eq_getElem (by rw [hrl]; exact hil)⟩
      obtain ⟨en, he⟩ : ∃ en, a.entries[i]? = some en := ⟨_, List.getElem?_eq_getElem (by rw [← HL.out]; exact hil)⟩
      obtain ⟨g, cg, hv, hBg, hgl, hcell, hfz, -⟩ := rec_poke (y := r) (j := 3) (u := .slice r.la r.ln r.lc) hR.out.1.row hr rfl (by decide)
      have hwn := hR.out.1.own i r en hr he
      have hold := hwn.2.2 (Nat.le_refl _)
      injection hv with v1 v2 v3
      subst v1 v3
      have h4 : entR.size = 4 := rfl
      rw [h4] at hcell
      obtain ⟨z0, z1, z2, z3⟩ : wz.cell? ⟨g, i * 4, none⟩ = some (.int .i64 r.term) ∧ wz.cell? ⟨g, i * 4 + 1, none⟩ = some (.int .u8 r.kind) ∧ wz.cell? ⟨g, i * 4 + 2, none⟩ = some (.string r.data) ∧ wz.cell? ⟨g, i * 4 + 3, none⟩ = some (.slice r.la r.ln r.lc) := ⟨hcell 0 _ rfl, hcell 1 _ rfl, hcell 2 _ rfl, hcell 3 _ rfl⟩
      obtain ⟨wa, hwa⟩ : ∃ wa, wa = wz.alloc (.cells #[.int .i64 r.term, .int .u8 r.kind, .string r.data, .slice r.la r.ln r.lc] 62) := ⟨_, rfl⟩
      have hba : Below wz.heap.size wz wa := by rw [hwa]; exact (Below.refl _ _).alloc (Nat.le_refl _) _
      have hea : wa.heap[wz.heap.size]? = some (.cells #[.int .i64 r.term, .int .u8 r.kind, .string r.data, .slice r.la r.ln r.lc] 62 (0, 0)) := by rw [hwa]; exact heap_alloc_new wz _
      obtain ⟨eb, heb⟩ : ∃ eb, eb = wz.heap.size := ⟨_, rfl⟩
      rw [← heb] at hea
      have hbd : Below wz.heap.size wz wa.drew := hba.trans (Below.refl _ _).drew
      have hTd := hR.out.1.below hbd
      have hxd : wa.drew.heap[p]? = _ := (hbd.block p (lt_of_heap hR.out.2.1)).trans hR.out.2.1
      have hrd : wa.drew.heap[q]? = _ := (hbd.block q (lt_of_heap hR.out.2.2.1)).trans hR.out.2.2.1
      have hed : wa.drew.heap[eb]? = _ := hea
      have hBd : Below B w wa.drew := hR.out.2.2.2.1.trans (Joins.below_le hbd (by have := hR.out.2.2.2.2; omega))
      have hsd : (fun W : World => W.cell? ⟨p, 22, none⟩ = some (.slice (some ⟨g, 0, none⟩) rs0.length c3) ∧ W.cell? ⟨eb, 3, none⟩ = some (.slice r.la r.ln r.lc)) wa.drew := ⟨((blk_cells hxd).1 22).trans (mc_22 _ _ _ _ _), (blk_cells hed).1 3⟩
      have cC := cloneint_any en.list (.slice r.la r.ln r.lc) wa.drew (hold.any.grow hbd) (HN.out.es en (List.mem_of_getElem? he))
      have HWA := Lib.hid hwa
      have HEB := Lib.hid heb
      have HTD := Lib.hid (And.intro hTd (And.intro hxd (And.intro hrd (And.intro hed hBd))))
      have HRE := Lib.hid (And.intro hr (And.intro he v2))
      have hgd : g < eb := by rw [heb]; exact hgl
      have hsz := hR.out.2.2.2.2
      have hbs := hbd.size
      clear hwa hba hea heb hTd hxd hrd hed hBd hr he hcell hfz hwn hold hgl hR h4 hbd v2 hrl
      go_upto_region 5 with fail
      rw [← HWA.out, ← HEB.out]
      clear z0 z1 z2 z3 HWA HEB
      refine wp_region_held_drew (S := (fun W : World => W.cell? ⟨p, 22, none⟩ = some (.slice (some ⟨g, 0, none⟩) rs0.length c3) ∧ W.cell? ⟨eb, 3, none⟩ = some (.slice r.la r.ln r.lc))) (by kernel_rfl) hsd (fun hHeld => ?_)
      refine takeD (i := 0) (d := 17) (v := .pointer (some ⟨p, 22, none⟩)) rfl rfl (by kernel_rfl) (by kernel_rfl) (by kernel_rfl) (fun _ _ _ h => h) (.inl ⟨by rfl, fun w hSw => by dsimp only at hSw; go_simp; try with_reducible rfl⟩) (by assumption) ?_
      simp only [Act.put, List.setIfInBounds_toArray, List.set_cons_zero, List.set_cons_succ]
      refine takeD (i := 1) (d := 18) (v := .slice (some ⟨g, 0, none⟩) rs0.length c3) rfl rfl (by kernel_rfl) (by kernel_rfl) (by kernel_rfl) (fun _ _ _ h => h) (.inl ⟨by rfl, fun w hSw => by dsimp only at hSw; go_simp; try with_reducible rfl⟩) (by assumption) ?_
      simp only [Act.put, List.setIfInBounds_toArray, List.set_cons_zero, List.set_cons_succ]
      refine takeD (i := 2) (d := 19) (v := .int .i64 (i : Int)) rfl rfl (by kernel_rfl) (by kernel_rfl) (by kernel_rfl) (fun _ _ _ h => h) (.inl ⟨by rfl, fun w hSw => by dsimp only at hSw; go_simp; try with_reducible rfl⟩) (by assumption) ?_
      simp only [Act.put, List.setIfInBounds_toArray, List.set_cons_zero, List.set_cons_succ]
      refine takeD (i := 3) (d := 20) (v := .pointer (some ⟨eb, 3, none⟩)) rfl rfl (by kernel_rfl) (by kernel_rfl) (by kernel_rfl) (fun _ _ _ h => h) (.inl ⟨by rfl, fun w hSw => by dsimp only at hSw; go_simp; try with_reducible rfl⟩) (by assumption) ?_
      simp only [Act.put, List.setIfInBounds_toArray, List.set_cons_zero, List.set_cons_succ]
      refine takeD (i := 4) (d := 21) (v := .slice r.la r.ln r.lc) rfl rfl (by kernel_rfl) (by kernel_rfl) (by kernel_rfl) (fun _ _ _ h => h) (.inl ⟨by rfl, fun w hSw => by dsimp only at hSw; go_simp; try with_reducible rfl⟩) (by assumption) ?_
      simp only [Act.put, List.setIfInBounds_toArray, List.set_cons_zero, List.set_cons_succ]
      refine wpAnyH_ready (rs := [5]) (by kernel_rfl) (by simp) ?_
      refine AllReadyH.cons rfl (fun K hK => ?_) AllReadyH.nil
      rw [if_pos (by rfl)]
      go_simp
      go_at_call 48
      refine (cC).mono ?_
      rintro e wb ⟨v5, rfl, ho5, hb5⟩
      have hxb := (hb5.block p (lt_of_heap HTD.out.2.1)).trans HTD.out.2.1
      have heb := (hb5.block eb (lt_of_heap HTD.out.2.2.2.1)).trans HTD.out.2.2.2.1
      have hsb : (fun W : World => W.cell? ⟨p, 22, none⟩ = some (.slice (some ⟨g, 0, none⟩) rs0.length c3) ∧ W.cell? ⟨eb, 3, none⟩ = some (.slice r.la r.ln r.lc)) wb := ⟨((blk_cells hxb).1 22).trans (mc_22 _ _ _ _ _), (blk_cells heb).1 3⟩
      have hTb := HTD.out.1.below hb5
      obtain ⟨A5, c5, rfl⟩ := ho5.slice
      have hbz : B ≤ wa.drew.heap.size := by omega
      obtain ⟨cur, hcur⟩ := row_type hTb.row (p := g) rfl
      have hpg : p ≠ g := apart_T hxb hcur (by decide)
      obtain ⟨g', c', hv', hBg', hgl', hcl, hfr, hT'⟩ := hTb.step HRE.out.1 HRE.out.2.1 rfl (own_base ho5 hbz)
      have hgg : g = g' := by
        injection hv' with e1
        injection e1 with e1
        injection e1 with e1
      subst hgg
      have hfz : wb.frozen? ⟨g, i * 4 + 3, none⟩ = false := hfr _
      have far : ∀ b, b ≠ g → (wb.setCell ⟨g, i * 4 + 3, none⟩ (.slice A5 en.list.length c5)).heap[b]? = wb.heap[b]? := fun b hb => Below.heap_setCell wb ⟨g, i * 4 + 3, none⟩ (.slice A5 en.list.length c5) b hb
      have hrb := (hb5.block q (lt_of_heap HTD.out.2.2.1)).trans HTD.out.2.2.1
      have hqg : q ≠ g := apart_T hrb hcur (by decide)
      have hS2 : (fun W : World => W.cell? ⟨p, 22, none⟩ = some (.slice (some ⟨g, 0, none⟩) rs0.length c3) ∧ W.cell? ⟨eb, 3, none⟩ = some (.slice r.la r.ln r.lc)) (wb.setCell ⟨g, i * 4 + 3, none⟩ (.slice A5 en.list.length c5)) := ⟨((blk_cells ((far p hpg).trans hxb)).1 22).trans (mc_22 _ _ _ _ _), (blk_cells ((far eb (by omega)).trans heb)).1 3⟩
      have hF : TwL (wb.setCell ⟨g, i * 4 + 3, none⟩ (.slice A5 en.list.length c5)) B (.slice (some ⟨g, 0, none⟩) rs0.length c3) _ a.entries (i + 1) ∧ (wb.setCell ⟨g, i * 4 + 3, none⟩ (.slice A5 en.list.length c5)).heap[p]? = some (.cells (a.cells (.slice (some ⟨g, 0, none⟩) rs0.length c3) vL vP vX) 38 (0, 0)) ∧ (wb.setCell ⟨g, i * 4 + 3, none⟩ (.slice A5 en.list.length c5)).heap[q]? = some (.cells Z 38 (0, 0)) ∧ Below B w (wb.setCell ⟨g, i * 4 + 3, none⟩ (.slice A5 en.list.length c5)) ∧ w4.heap.size ≤ (wb.setCell ⟨g, i * 4 + 3, none⟩ (.slice A5 en.list.length c5)).heap.size := ⟨hT', (far p hpg).trans hxb, (far q hqg).trans hrb, (HTD.out.2.2.2.2.trans (Joins.below_le hb5 (by have := HTD.out.2.2.2.2.size; omega))).setCell hBg _, by have := hb5.size; simp only [World.setCell, Array.size_modify]; omega⟩
      have HF := Lib.hid hF
      have hsl : rs.length = rs0.length := HRE.out.2.2.symm
      have HRSL := Lib.hid hsl
      clear hTb hbz hcur hT' hv' hgl' hfr far hrb hqg hF hsl ho5 hxb heb
      dsimp only
      refine hK.out _ _ hsb (fun hHeldhK => ?_)
      try simp only [Act.put, List.setIfInBounds_toArray, List.set_cons_zero, List.set_cons_succ]
      refine takeD (i := 6) (d := 23) (v := .pointer (some ⟨g, i * 4, none⟩)) rfl rfl (by kernel_rfl) (by kernel_rfl) (by kernel_rfl) (fun _ _ _ h => h) (.inl ⟨by rfl, fun w hSw => by dsimp only at hSw; go_simp; try with_reducible rfl⟩) (by assumption) ?_
      simp only [Act.put, List.setIfInBounds_toArray, List.set_cons_zero, List.set_cons_succ]
      refine takeD (i := 7) (d := 24) (v := .pointer (some ⟨g, i * 4 + 3, none⟩)) rfl rfl (by kernel_rfl) (by kernel_rfl) (by kernel_rfl) (fun _ _ _ h => h) (.inl ⟨by rfl, fun w hSw => by dsimp only at hSw; go_simp; try with_reducible rfl⟩) (by assumption) ?_
      simp only [Act.put, List.setIfInBounds_toArray, List.set_cons_zero, List.set_cons_succ]
      refine wpAnyH_ready (rs := [8]) (by kernel_rfl) (by simp) ?_
      refine AllReadyH.cons rfl (fun K2 hK2 => ?_) AllReadyH.nil
      rw [if_pos (by rfl)]
      go_simp
      refine hK2.out _ _ hS2 (fun hHeld2 => ?_)
      try simp only [Act.put, List.setIfInBounds_toArray, List.set_cons_zero, List.set_cons_succ]
      refine wpAnyH_done (by kernel_rfl) ?_ _
      clear hsd hsb hS2 hHeld hHeldhK hHeld2 hcl hfz hpg
      go_wp2_with fail
      exact ⟨⟨i + 1, _, by go_num, hil, by simpa using HRSL.out, HF⟩, by simp [intOf]; omega⟩
    · have a1 : ¬ (i : Int) < (rs0.length : Int) := by omega
      have hie : i = rs0.length := by omega
      have hEz : EntO wz B (.slice A3 rs0.length c3) rs a.entries := ⟨hR.out.1.row, hR.out.1.len, fun j r e hr he => ⟨(hR.out.1.own j r e hr he).1, (hR.out.1.own j r e hr he).2.1 (by rw [hie, ← hrl]; exact (List.getElem?_eq_some_iff.1 hr).1)⟩⟩
      have hBw : Below w.heap.size w wz := by rw [← HB0.out]; exact hR.out.2.2.2.1
      have hxz := hR.out.2.1
      have hrz := hR.out.2.2.1
      have hqp : q ≠ p := by have h1 := HQ.out; have h2 := HP.out; omega
      have hzs : B ≤ wz.heap.size := by have := hR.out.2.2.2.2; omega
      have HEZ := Lib.hid hEz
      have HBW := Lib.hid hBw
      have HXZ := Lib.hid (And.intro hxz hrz)
      have HQP := Lib.hid hqp
      clear hEz hBw hxz hrz hqp hie hrl hR hi hil
      have c23 : wz.cell? ⟨p, 23, none⟩ = some vL := ((blk_cells HXZ.out.1).1 23).trans (mc_23 _ _ _ _ _)
      have cCl := cloneint_any a.list vL wz (H0.out.l.grow HBW.out) HN.out.l
      go_wp2_with fail
      refine cCl.mono ?_
      rintro e w5l ⟨vl, rfl, hol, hbl⟩
      obtain ⟨Al, cl, rfl⟩ := hol.slice
      clear cCl c23
      have hxl := (hbl.block p (lt_of_heap HXZ.out.1)).trans HXZ.out.1
      have hrl := (hbl.block q (lt_of_heap HXZ.out.2)).trans HXZ.out.2
      have c23 : w5l.cell? ⟨p, 23, none⟩ = some vL := ((blk_cells hxl).1 23).trans (mc_23 _ _ _ _ _)
      have f23 : w5l.frozen? ⟨p, 23, none⟩ = false := (blk_cells hxl).2 23
      obtain ⟨w6l, hwl⟩ : ∃ w6l, w6l = w5l.setCell ⟨p, 23, none⟩ (.slice Al a.list.length cl) := ⟨_, rfl⟩
      have farl : ∀ b, b ≠ p → w6l.heap[b]? = w5l.heap[b]? := fun b hb => by rw [hwl]; exact Below.heap_setCell w5l ⟨p, 23, none⟩ _ b hb
      have hxxl : w6l.heap[p]? = some (.cells (a.cells (.slice A3 rs0.length c3) (.slice Al a.list.length cl) vP vX) 38 (0, 0)) := by rw [hwl, Joins.block_setCell hxl _, set_l]
      have hrrl := (farl q HQP.out).trans hrl
      have hbwl : Below w.heap.size w w6l := (HBW.out.trans (Joins.below_le hbl HBW.out.size)).trans (by rw [hwl]; exact Below.setCell (p := ⟨p, 23, none⟩) (Below.refl _ _) (by rw [← HB0.out]; exact hBp) _)
      have hEl := (HEZ.out.below hbl).set hxl farl
      have hol2 := own_set (own_base hol (c := B) (by rw [HB0.out]; exact HBW.out.size)) hxl (by decide) farl
      have HEl := Lib.hid hEl
      have HXl := Lib.hid (And.intro hxxl hrrl)
      have HBWl := Lib.hid hbwl
      have HWl := Lib.hid hwl
      have Hrowl := Lib.hid hol2
      clear hol hbl hxl hrl hwl farl hxxl hrrl hbwl hEl hol2
      go_upto_region 8 with fail
      rw [← HWl.out]
      clear HWl c23 f23
      have c27 : w6l.cell? ⟨p, 27, none⟩ = some vP := ((blk_cells HXl.out.1).1 27).trans (mc_27 _ _ _ _ _)
      have cCp := clonePair_any a.pairs vP w6l (H0.out.p.grow HBWl.out) HN.out.p
      go_wp2_with fail
      refine cCp.mono ?_
      rintro e w5p ⟨vp, rfl, hop, hbp⟩
      obtain ⟨Ap, cp, rfl⟩ := hop.slice
      clear cCp c27
      have hxp := (hbp.block p (lt_of_heap HXl.out.1)).trans HXl.out.1
      have hrp := (hbp.block q (lt_of_heap HXl.out.2)).trans HXl.out.2
      have c27 : w5p.cell? ⟨p, 27, none⟩ = some vP := ((blk_cells hxp).1 27).trans (mc_27 _ _ _ _ _)
      have f27 : w5p.frozen? ⟨p, 27, none⟩ = false := (blk_cells hxp).2 27
      obtain ⟨w6p, hwp⟩ : ∃ w6p, w6p = w5p.setCell ⟨p, 27, none⟩ (.slice Ap a.pairs.length cp) := ⟨_, rfl⟩
      have farp : ∀ b, b ≠ p → w6p.heap[b]? = w5p.heap[b]? := fun b hb => by rw [hwp]; exact Below.heap_setCell w5p ⟨p, 27, none⟩ _ b hb
      have hxxp : w6p.heap[p]? = some (.cells (a.cells (.slice A3 rs0.length c3) (.slice Al a.list.length cl) (.slice Ap a.pairs.length cp) vX) 38 (0, 0)) := by rw [hwp, Joins.block_setCell hxp _, set_p]
      have hrrp := (farp q HQP.out).trans hrp
      have hbwp : Below w.heap.size w w6p := (HBWl.out.trans (Joins.below_le hbp HBWl.out.size)).trans (by rw [hwp]; exact Below.setCell (p := ⟨p, 27, none⟩) (Below.refl _ _) (by rw [← HB0.out]; exact hBp) _)
      have hEp := (HEl.out.below hbp).set hxp farp
      have hrowlp := own_set (Hrowl.out.below hbp) hxp (by decide) farp
      have hop2 := own_set (own_base hop (c := B) (by rw [HB0.out]; exact HBWl.out.size)) hxp (by decide) farp
      have HEp := Lib.hid hEp
      have HXp := Lib.hid (And.intro hxxp hrrp)
      have HBWp := Lib.hid hbwp
      have HWp := Lib.hid hwp
      replace Hrowl := Lib.hid hrowlp
      have Hrowp := Lib.hid hop2
      clear hop hbp hxp hrp hwp farp hxxp hrrp hbwp hEp hop2 hrowlp
      go_upto_region 9 with fail
      rw [← HWp.out]
      clear HWp c27 f27
      have c28 : w6p.cell? ⟨p, 28, none⟩ = some vX := ((blk_cells HXp.out.1).1 28).trans (mc_28 _ _ _ _ _)
      have cCx := cloneLast_any a.lasts vX w6p (H0.out.x.grow HBWp.out) HN.out.x
      go_wp2_with fail
      refine cCx.mono ?_
      rintro e w5x ⟨vx, rfl, hox, hbx⟩
      obtain ⟨Ax, cx, rfl⟩ := hox.slice
      clear cCx c28
      have hxx := (hbx.block p (lt_of_heap HXp.out.1)).trans HXp.out.1
      have hrx := (hbx.block q (lt_of_heap HXp.out.2)).trans HXp.out.2
      have c28 : w5x.cell? ⟨p, 28, none⟩ = some vX := ((blk_cells hxx).1 28).trans (mc_28 _ _ _ _ _)
      have f28 : w5x.frozen? ⟨p, 28, none⟩ = false := (blk_cells hxx).2 28
      obtain ⟨w6x, hwx⟩ : ∃ w6x, w6x = w5x.setCell ⟨p, 28, none⟩ (.slice Ax a.lasts.length cx) := ⟨_, rfl⟩
      have farx : ∀ b, b ≠ p → w6x.heap[b]? = w5x.heap[b]? := fun b hb => by rw [hwx]; exact Below.heap_setCell w5x ⟨p, 28, none⟩ _ b hb
      have hxxx : w6x.heap[p]? = some (.cells (a.cells (.slice A3 rs0.length c3) (.slice Al a.list.length cl) (.slice Ap a.pairs.length cp) (.slice Ax a.lasts.length cx)) 38 (0, 0)) := by rw [hwx, Joins.block_setCell hxx _, set_x]
      have hrrx := (farx q HQP.out).trans hrx
      have hbwx : Below w.heap.size w w6x := (HBWp.out.trans (Joins.below_le hbx HBWp.out.size)).trans (by rw [hwx]; exact Below.setCell (p := ⟨p, 28, none⟩) (Below.refl _ _) (by rw [← HB0.out]; exact hBp) _)
      have hEx := (HEp.out.below hbx).set hxx farx
      have hrowlx := own_set (Hrowl.out.below hbx) hxx (by decide) farx
      have hrowpx := own_set (Hrowp.out.below hbx) hxx (by decide) farx
      have hox2 := own_set (own_base hox (c := B) (by rw [HB0.out]; exact HBWp.out.size)) hxx (by decide) farx
      have HEx := Lib.hid hEx
      have HXx := Lib.hid (And.intro hxxx hrrx)
      have HBWx := Lib.hid hbwx
      have HWx := Lib.hid hwx
      replace Hrowl := Lib.hid hrowlx
      replace Hrowp := Lib.hid hrowpx
      have Hrowx := Lib.hid hox2
      clear hox hbx hxx hrx hwx farx hxxx hrrx hbwx hEx hox2 hrowlx hrowpx
      go_upto_region 10 with fail
      rw [← HWx.out]
      clear HWx c28 f28
      have hxf := HXx.out.1
      have hrf := HXx.out.2
      have hZs : Z.size = 33 := by rw [HZ.out]; rfl
      go_wp2_with (first
        | (refine wpList_load_row rfl 38 (.tmp 1) rfl p rfl 38 (a.cells (.slice A3 rs0.length c3) (.slice Al a.list.length cl) (.slice Ap a.pairs.length cp) (.slice Ax a.lasts.length cx)) (0, 0) _ hxf Try.underlying38 rfl (msg_sized _ _ _ _ _) ?_)
        | (refine wpList_store_row rfl 38 (.tmp 2) (.tmp 38) rfl q (a.cells (.slice A3 rs0.length c3) (.slice Al a.list.length cl) (.slice Ap a.pairs.length cp) (.slice Ax a.lasts.length cx)) rfl rfl 38 Z hrf (msg_sized _ _ _ _ _) hZs (cells_one _ _ _ _ _ _ _ _ _ _ _ _ _) ?_))
      have hfin := setRow_heap w6x q Z (a.cells (.slice A3 rs0.length c3) (.slice Al a.list.length cl) (.slice Ap a.pairs.length cp) (.slice Ax a.lasts.length cx)) _ _ hrf
      have hfar : ∀ b, b ≠ q → (w6x.setRow q (a.cells (.slice A3 rs0.length c3) (.slice Al a.list.length cl) (.slice Ap a.pairs.length cp) (.slice Ax a.lasts.length cx))).heap[b]? = w6x.heap[b]? := fun b hb => setRow_other w6x q b _ hb
      refine bodyPost_ret (v := .agg (a.cells (.slice A3 rs0.length c3) (.slice Al a.list.length cl) (.slice Ap a.pairs.length cp) (.slice Ax a.lasts.length cx))) ?_ rfl ⟨_, _, _, _, rfl, ⟨⟨rs, HEx.out.set hrf hfar⟩, own_set Hrowl.out hrf (by decide) hfar, own_set Hrowp.out hrf (by decide) hfar, own_set Hrowx.out hrf (by decide) hfar⟩, below_setRow (by rw [HB0.out]; exact HBWx.out) hBq _⟩
      exact results_cell_row rfl _ _ q 38 (a.cells (.slice A3 rs0.length c3) (.slice Al a.list.length cl) (.slice Ap a.pairs.length cp) (.slice Ax a.lasts.length cx)) (0, 0) _ rfl hfin Try.underlying38 rfl (msg_sized _ _ _ _ _)
end Go.Proofs.Yteaejihhdnndhaa
