/-
  Twins of many entries: the program's, walked. No statement is proved here. No condition.
-/
import Derived.Test.YtackfigkhjdidaaLTwins
namespace Go.Proofs.Ytackfigkhjdidaa
open Go.RowKit

theorem setCell_was {w : World} {b o : Nat} {T : TypeId} {cur : Array Value} {v : Value} (hg : w.heap[b]? = some (.cells cur T (0, 0))) (hc : w.cell? ⟨b, o, none⟩ = some v) : w.setCell ⟨b, o, none⟩ v = w :=
  setCell_same w hg (by rw [← (blk_cells hg).1 o]; exact hc)
set_option maxHeartbeats 4000000 in
set_option maxRecDepth 100000 in
theorem twins_any (l : List EN) (v : Value) (w : World) (h : EntN w Any v l) (hl : l.length ≤ 2513169434916) (hs : ∀ e ∈ l, e.list.length ≤ 17592186044416) :
    Calls Try.prog 88 #[v] w fun r w' => ∃ g c, r = .returned (.slice (some ⟨g, 0, none⟩) l.length c) ∧ (∃ rs, EntO w' w.heap.size (.slice (some ⟨g, 0, none⟩) l.length c) rs l) ∧ Below w.heap.size w w' := by
  obtain ⟨rs0, hE, hEl, hEa⟩ := h
  obtain ⟨A, c, hv, hlc, hcm⟩ := hE.slice
  have hl0 : rs0.length ≤ 2513169434916 := by rw [hEl]; exact hl
  obtain ⟨C, w1, hmk, hb, hCs, hB1, hs1⟩ := ents_made w rs0.length hl0
  obtain ⟨u, w2, hcp, hown, hBg, hfar, hs2⟩ := ents_copied w1 hb hCs (hE.grow hB1) (by unfold maxLen; omega)
  obtain ⟨g, hg⟩ : ∃ g, g = w.heap.size := ⟨_, rfl⟩
  have hB2 : Below w.heap.size w w2 := hB1.trans hBg
  rw [← hEl]
  rw [← hg] at hmk hcp hown
  subst hv
  have hT0 : TwL w2 g (.slice (some ⟨g, 0, none⟩) rs0.length rs0.length) rs0 l 0 := by
    refine ⟨hown, hEl, fun j r e hr he => ?_⟩
    have hat := hEa j r e hr he
    refine ⟨⟨hat.term, hat.kind, hat.data, hat.ln⟩, fun hj => by omega, fun _ => ?_⟩
    exact hat.list.kept (fun b _ hb => by rw [hg]; exact hb) hB2.size fun b _ hb => hB2.block b hb
  have HT0 := Lib.hid (And.intro hT0 hB2)
  have HG := Lib.hid hg
  have HL := Lib.hid (And.intro hEl hs)
  clear hE hEa hEl hb hCs hB1 hown hBg hfar hB2 hg hT0 hl hs hlc hcm
  go_enter Try.func88, Try.ntmps88
  go_upto_region 2 with fail
  go_wp2_with (at_builtin; go_must (refine wpList_cp rfl (.tmp 9) (.tmp 10) 31 rfl _ _ rfl rfl hcp ?_))
  clear hcp hmk
  go_loopw [4, 5, 14] (fun _ _ s14 wr => ∃ (i : Nat) (rs : List RE), s14 = .int .i64 (i : Int) ∧ i ≤ rs0.length ∧ rs.length = rs0.length ∧ Hid (TwL wr g (.slice (some ⟨g, 0, none⟩) rs0.length rs0.length) rs l i ∧ Below w.heap.size w wr)) (fun _ _ s14 _ => rs0.length - (intOf s14).toNat)
  case atStart => exact ⟨0, rs0, rfl, Nat.zero_le _, rfl, Lib.hid HT0.out⟩
  case round =>
    clear HT0
    obtain ⟨i, rs, rfl, hi, hrl, hR⟩ := hrel
    obtain ⟨wz, hwz⟩ : ∃ wz : World, wz = wr := ⟨_, rfl⟩
    subst hwz
    by_cases hil : i < rs0.length
    · have a1 : (i : Int) < (rs0.length : Int) := by omega
      have a0 : (0 : Int) ≤ (i : Int) := by omega
      obtain ⟨r, hr⟩ : ∃ r, rs[i]? = some r := ⟨_, List.getElem?_eq_getElem (by rw [hrl]; exact hil)⟩
      obtain ⟨en, he⟩ : ∃ en, l[i]? = some en := ⟨_, List.getElem?_eq_getElem (by rw [← HL.out.1]; exact hil)⟩
      obtain ⟨g', cg, hv, hBg, hgl, hcell, hfz, -⟩ := rec_poke (y := r) (j := 3) (u := .slice r.la r.ln r.lc) hR.out.1.row hr rfl (by decide)
      have hwn := hR.out.1.own i r en hr he
      have hold := hwn.2.2 (Nat.le_refl _)
      injection hv with v1 v2 v3
      injection v1 with v1
      injection v1 with v1
      subst v1
      have h4 : entR.size = 4 := rfl
      rw [h4] at hcell
      obtain ⟨z0, z1, z2, z3⟩ : wz.cell? ⟨g, i * 4, none⟩ = some (.int .i64 r.term) ∧ wz.cell? ⟨g, i * 4 + 1, none⟩ = some (.int .u8 r.kind) ∧ wz.cell? ⟨g, i * 4 + 2, none⟩ = some (.string r.data) ∧ wz.cell? ⟨g, i * 4 + 3, none⟩ = some (.slice r.la r.ln r.lc) := ⟨hcell 0 _ rfl, hcell 1 _ rfl, hcell 2 _ rfl, hcell 3 _ rfl⟩
      rw [hwn.1.term] at z0
      rw [hwn.1.kind] at z1
      rw [hwn.1.data] at z2
      rw [hwn.1.ln] at z3
      have hold' : inR.N wz (fun b => b < g) (.slice r.la en.list.length r.lc) en.list := by have := hold; unfold RE.lv at this; rwa [hwn.1.ln] at this
      obtain ⟨wa, hwa⟩ : ∃ wa, wa = wz.alloc (.cells #[.int .i64 en.term, .int .u8 en.kind, .string en.data, .slice r.la en.list.length r.lc] 50) := ⟨_, rfl⟩
      have hba : Below wz.heap.size wz wa := by rw [hwa]; exact (Below.refl _ _).alloc (Nat.le_refl _) _
      have hea : wa.heap[wz.heap.size]? = some (.cells #[.int .i64 en.term, .int .u8 en.kind, .string en.data, .slice r.la en.list.length r.lc] 50 (0, 0)) := by rw [hwa]; exact heap_alloc_new wz _
      obtain ⟨eb, heb⟩ : ∃ eb, eb = wz.heap.size := ⟨_, rfl⟩
      rw [← heb] at hea
      have cC := twin_any en (.slice r.la en.list.length r.lc) wa (hold'.any.grow hba) (HL.out.2 en (List.mem_of_getElem? he))
      obtain ⟨e0, e1, e2, e3⟩ : wa.cell? ⟨eb, 0, none⟩ = some (.int .i64 en.term) ∧ wa.cell? ⟨eb, 1, none⟩ = some (.int .u8 en.kind) ∧ wa.cell? ⟨eb, 2, none⟩ = some (.string en.data) ∧ wa.cell? ⟨eb, 3, none⟩ = some (.slice r.la en.list.length r.lc) := ⟨(blk_cells hea).1 0, (blk_cells hea).1 1, (blk_cells hea).1 2, (blk_cells hea).1 3⟩
      have hTa := hR.out.1.below hba
      have hBa : Below w.heap.size w wa := hR.out.2.trans (Joins.below_le hba hR.out.2.size)
      have HWA := Lib.hid hwa
      have HEB := Lib.hid heb
      have HTA := Lib.hid (And.intro hTa hBa)
      have HRE := Lib.hid (And.intro hr he)
      unfold EN.agg at cC
      clear hwa hba hea heb hTa hBa hr he hcell hfz hwn hold hold' hgl hR h4 v2 v3 hBg
      go_upto_region 6 with fail
      rw [← HWA.out, ← HEB.out]
      clear z0 z1 z2 z3 HWA HEB
      go_wp2_with fail
      refine cC.mono ?_
      rintro e wb ⟨A5, c5, rfl, ho5, hb5⟩
      clear cC e0 e1 e2 e3
      have hTb := HTA.out.1.below hb5
      have hBb := HTA.out.2.trans (Joins.below_le hb5 HTA.out.2.size)
      have hgs : g ≤ wa.heap.size := by rw [HG.out]; exact HTA.out.2.size
      obtain ⟨cur, hcur⟩ := row_type hTb.row (p := g) rfl
      obtain ⟨g', cg, hv, -, -, hcell, hfz, -⟩ := rec_poke (y := r) (j := 3) (u := .slice r.la r.ln r.lc) hTb.row HRE.out.1 rfl (by decide)
      injection hv with v1 v2 v3
      injection v1 with v1
      injection v1 with v1
      subst v1
      have hwn := (hTb.own i r en HRE.out.1 HRE.out.2).1
      have h4 : entR.size = 4 := rfl
      rw [h4] at hcell
      obtain ⟨z0, z1, z2, z3⟩ : wb.cell? ⟨g, i * 4, none⟩ = some (.int .i64 r.term) ∧ wb.cell? ⟨g, i * 4 + 1, none⟩ = some (.int .u8 r.kind) ∧ wb.cell? ⟨g, i * 4 + 2, none⟩ = some (.string r.data) ∧ wb.cell? ⟨g, i * 4 + 3, none⟩ = some (.slice r.la r.ln r.lc) := ⟨hcell 0 _ rfl, hcell 1 _ rfl, hcell 2 _ rfl, hcell 3 _ rfl⟩
      rw [hwn.term] at z0
      rw [hwn.kind] at z1
      rw [hwn.data] at z2
      obtain ⟨y0, y1, y2, y3⟩ : wb.frozen? ⟨g, i * 4, none⟩ = false ∧ wb.frozen? ⟨g, i * 4 + 1, none⟩ = false ∧ wb.frozen? ⟨g, i * 4 + 2, none⟩ = false ∧ wb.frozen? ⟨g, i * 4 + 3, none⟩ = false := ⟨hfz _, hfz _, hfz _, hfz _⟩
      obtain ⟨g2, cg2, hv', -, -, -, -, hT'⟩ := hTb.step HRE.out.1 HRE.out.2 rfl (own_base ho5 hgs)
      injection hv' with v4 v5 v6
      injection v4 with v4
      injection v4 with v4
      subst v4
      have heq : ((((wb.setCell ⟨g, i * 4, none⟩ (.int .i64 en.term)).setCell ⟨g, i * 4 + 1, none⟩ (.int .u8 en.kind)).setCell ⟨g, i * 4 + 2, none⟩ (.string en.data)).setCell ⟨g, i * 4 + 3, none⟩ (.slice A5 en.list.length c5)) = wb.setCell ⟨g, i * 4 + 3, none⟩ (.slice A5 en.list.length c5) := by
        rw [setCell_was hcur z0, setCell_was hcur z1, setCell_was hcur z2]
      have hB' : Below w.heap.size w (wb.setCell ⟨g, i * 4 + 3, none⟩ (.slice A5 en.list.length c5)) := hBb.setCell (p := ⟨g, i * 4 + 3, none⟩) (by rw [← HG.out]; exact Nat.le_refl _) _
      have HF := Lib.hid (And.intro hT' hB')
      have HEQ := Lib.hid heq
      clear hTb hBb hgs hcur hcell hfz hwn h4 hT' heq hB' hb5 ho5 v2 v3 v5 v6
      go_wp2_with fail
      rw [HEQ.out]
      exact ⟨⟨i + 1, _, by go_num, hil, by simpa using hrl, HF⟩, by simp [intOf]; omega⟩
    · have a1 : ¬ (i : Int) < (rs0.length : Int) := by omega
      have hie : i = rs0.length := by omega
      have hEz : EntO wz g (.slice (some ⟨g, 0, none⟩) rs0.length rs0.length) rs l := ⟨hR.out.1.row, hR.out.1.len, fun j r e hr he => ⟨(hR.out.1.own j r e hr he).1, (hR.out.1.own j r e hr he).2.1 (by rw [hie, ← hrl]; exact (List.getElem?_eq_some_iff.1 hr).1)⟩⟩
      have HEZ := Lib.hid (And.intro hEz hR.out.2)
      clear hEz hR
      go_wp2_with fail
      go_ret
      exact ⟨_, _, rfl, ⟨rs, by rw [← HG.out]; exact HEZ.out.1⟩, HEZ.out.2⟩
end Go.Proofs.Ytackfigkhjdidaa
