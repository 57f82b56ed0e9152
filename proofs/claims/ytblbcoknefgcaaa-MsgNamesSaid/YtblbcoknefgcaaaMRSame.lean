/-
  Two messages held against each other: the document's Same. No statement is proved here. No condition.
-/
import Derived.Test.YtblbcoknefgcaaaMSame
namespace Go.Proofs.Ytblbcoknefgcaaa
open Go.RowKit

theorem same_no (a b : MG) (h : sameL EN.same a.entries b.entries = false ∨ sameL PP.same a.pairs b.pairs = false ∨ sameL PL.same a.lasts b.lasts = false ∨ sameL iSame a.list b.list = false) : a.same b = false := by
  unfold MG.same
  rcases h with h | h | h | h <;> simp [h]
theorem same_yes (a b : MG) (h1 : sameL EN.same a.entries b.entries = true) (h2 : sameL PP.same a.pairs b.pairs = true) (h3 : sameL PL.same a.lasts b.lasts = true) (h4 : sameL iSame a.list b.list = true) : a.same b = (!((((((((((!(a.kind == b.kind)) || !(a.shard == b.shard)) || !(a.epoch == b.epoch)) || !(a.owner == b.owner)) || !(a.req == b.req)) || !(a.client == b.client)) || !(a.id == b.id)) || !(a.op.same b.op)) || !(a.code == b.code)) || !(a.res.same b.res)) && (((((((((((a.grant == b.grant)) && (a.term == b.term)) && (a.index == b.index)) && (a.prev == b.prev)) && (a.commit == b.commit)) && (a.granted == b.granted)) && (a.state.toList == b.state.toList)) && (a.part == b.part)) && (a.last == b.last)) && a.cmd.same b.cmd)) := by
  unfold MG.same
  rw [h1, h2, h3, h4]
  simp only [Bool.true_and, Bool.not_or, Bool.not_not, Bool.and_assoc]
set_option maxHeartbeats 40000000 in
set_option maxRecDepth 1000000 in
theorem rsame_any (a b : MG) (vE1 vL1 vP1 vX1 vE2 vL2 vP2 vX2 : Value) (w : World) (ha : MsgL w Any a vE1 vL1 vP1 vX1) (hb : MsgL w Any b vE2 vL2 vP2 vX2) :
    Calls Try.prog 19 #[.agg (a.cells vE1 vL1 vP1 vX1), .agg (b.cells vE2 vL2 vP2 vX2)] w fun e w' => e = .returned (.bool (a.same b)) ∧ Below w.heap.size w w' := by
  obtain ⟨AE1, cE1, rfl, hl1, hm1⟩ := ha.e.slice
  obtain ⟨AL1, cL1, rfl, -, -⟩ := ha.l.slice
  obtain ⟨AP1, cP1, rfl, hl2, hm2⟩ := ha.p.slice
  obtain ⟨AX1, cX1, rfl, hl3, hm3⟩ := ha.x.slice
  obtain ⟨AE2, cE2, rfl, -, -⟩ := hb.e.slice
  obtain ⟨AL2, cL2, rfl, -, -⟩ := hb.l.slice
  obtain ⟨AP2, cP2, rfl, -, -⟩ := hb.p.slice
  obtain ⟨AX2, cX2, rfl, -, -⟩ := hb.x.slice
  have hle : a.entries.length ≤ maxLen := Nat.le_trans hl1 hm1
  have hlp : a.pairs.length ≤ maxLen := Nat.le_trans hl2 hm2
  have hlx : a.lasts.length ≤ maxLen := Nat.le_trans hl3 hm3
  unfold maxLen at hle hlp hlx
  clear hl1 hm1 hl2 hm2 hl3 hm3
  obtain ⟨ca, hca⟩ : ∃ ca, ca = a.cells (.slice AE1 a.entries.length cE1) (.slice AL1 a.list.length cL1) (.slice AP1 a.pairs.length cP1) (.slice AX1 a.lasts.length cX1) := ⟨_, rfl⟩
  obtain ⟨cb, hcb⟩ : ∃ cb, cb = b.cells (.slice AE2 b.entries.length cE2) (.slice AL2 b.list.length cL2) (.slice AP2 b.pairs.length cP2) (.slice AX2 b.lasts.length cX2) := ⟨_, rfl⟩
  rw [← hca, ← hcb]
  obtain ⟨w1, hw1⟩ : ∃ w1, w1 = w.alloc (.cells ca 38) := ⟨_, rfl⟩
  have hb1 : Below w.heap.size w w1 := by rw [hw1]; exact (Below.refl _ _).alloc (Nat.le_refl _) _
  have hx1 : w1.heap[w.heap.size]? = some (.cells ca 38 (0, 0)) := by rw [hw1]; exact heap_alloc_new w _
  obtain ⟨w2, hw2⟩ : ∃ w2, w2 = w1.alloc (.cells cb 38) := ⟨_, rfl⟩
  have hb2 : Below w1.heap.size w1 w2 := by rw [hw2]; exact (Below.refl _ _).alloc (Nat.le_refl _) _
  have hy2 : w2.heap[w1.heap.size]? = some (.cells cb 38 (0, 0)) := by rw [hw2]; exact heap_alloc_new w1 _
  have hx2 := (hb2.block _ (Array.getElem?_eq_some_iff.1 hx1).1).trans hx1
  have hB : Below w.heap.size w w2 := hb1.trans (Joins.below_le hb2 hb1.size)
  have ha2 := (ha.grow hb1).grow hb2
  have hb22 := (hb.grow hb1).grow hb2
  have hs1 : w1.heap.size = w.heap.size + 1 := by rw [hw1]; simp
  obtain ⟨p, hp⟩ : ∃ p, p = w.heap.size := ⟨_, rfl⟩
  obtain ⟨q, hq⟩ : ∃ q, q = w1.heap.size := ⟨_, rfl⟩
  have hq1 : q = w.heap.size + 1 := hq.trans hs1
  rw [← hp] at hx2
  rw [← hq] at hy2
  have hww : w2 = (w.alloc (.cells ca 38)).alloc (.cells cb 38) := by rw [hw2, hw1]
  have HW := Lib.hid hww
  have HP := Lib.hid hp
  have HQ := Lib.hid hq1
  have HBB := Lib.hid hB
  have HA2 := Lib.hid ha2
  have HB2 := Lib.hid hb22
  rw [hca] at hx2
  rw [hcb] at hy2
  have HX2 := Lib.hid (And.intro hx2 hy2)
  have x22 : w2.cell? ⟨p, 22, none⟩ = some (.slice AE1 a.entries.length cE1) := ((blk_cells hx2).1 22).trans (mc_22 _ _ _ _ _)
  have x23 : w2.cell? ⟨p, 23, none⟩ = some (.slice AL1 a.list.length cL1) := ((blk_cells hx2).1 23).trans (mc_23 _ _ _ _ _)
  have x27 : w2.cell? ⟨p, 27, none⟩ = some (.slice AP1 a.pairs.length cP1) := ((blk_cells hx2).1 27).trans (mc_27 _ _ _ _ _)
  have x28 : w2.cell? ⟨p, 28, none⟩ = some (.slice AX1 a.lasts.length cX1) := ((blk_cells hx2).1 28).trans (mc_28 _ _ _ _ _)
  have y22 : w2.cell? ⟨q, 22, none⟩ = some (.slice AE2 b.entries.length cE2) := ((blk_cells hy2).1 22).trans (mc_22 _ _ _ _ _)
  have y23 : w2.cell? ⟨q, 23, none⟩ = some (.slice AL2 b.list.length cL2) := ((blk_cells hy2).1 23).trans (mc_23 _ _ _ _ _)
  have y27 : w2.cell? ⟨q, 27, none⟩ = some (.slice AP2 b.pairs.length cP2) := ((blk_cells hy2).1 27).trans (mc_27 _ _ _ _ _)
  have y28 : w2.cell? ⟨q, 28, none⟩ = some (.slice AX2 b.lasts.length cX2) := ((blk_cells hy2).1 28).trans (mc_28 _ _ _ _ _)
  clear ha hb hw1 hb1 hx1 hw2 hb2 hy2 hx2 hB hs1 hq hq1 hww hp ha2 hb22 hca hcb
  by_cases n1 : a.entries.length = b.entries.length
  case neg =>
    have HR := Lib.hid (same_no a b (.inl (sameL_len n1)))
    have m1 : ((a.entries.length : Int) == (b.entries.length : Int)) = false := by rw [beq_eq_false_iff_ne]; omega
    have m2 : ¬ (a.entries.length : Int) = (b.entries.length : Int) := by omega
    clear n1
    go_enter Try.func19, Try.ntmps19
    go_upto_region 1 with fail
    rw [← HW.out, ← HQ.out, ← HP.out]
    go_wp2_with fail
    go_ret
    exact ⟨by rw [HR.out]; rfl, HBB.out⟩
  by_cases n2 : a.pairs.length = b.pairs.length
  case neg =>
    have HR := Lib.hid (same_no a b (.inr (.inl (sameL_len n2))))
    have m1 : ((a.pairs.length : Int) == (b.pairs.length : Int)) = false := by rw [beq_eq_false_iff_ne]; omega
    have m2 : ¬ (a.pairs.length : Int) = (b.pairs.length : Int) := by omega
    rw [← n1] at y22
    clear n1 n2
    go_enter Try.func19, Try.ntmps19
    go_upto_region 1 with fail
    rw [← HW.out, ← HQ.out, ← HP.out]
    go_wp2_with fail
    go_ret
    exact ⟨by rw [HR.out]; rfl, HBB.out⟩
  by_cases n3 : a.lasts.length = b.lasts.length
  case neg =>
    have HR := Lib.hid (same_no a b (.inr (.inr (.inl (sameL_len n3)))))
    have m1 : ((a.lasts.length : Int) == (b.lasts.length : Int)) = false := by rw [beq_eq_false_iff_ne]; omega
    have m2 : ¬ (a.lasts.length : Int) = (b.lasts.length : Int) := by omega
    rw [← n1] at y22
    rw [← n2] at y27
    clear n1 n2 n3
    go_enter Try.func19, Try.ntmps19
    go_upto_region 1 with fail
    rw [← HW.out, ← HQ.out, ← HP.out]
    go_wp2_with fail
    go_ret
    exact ⟨by rw [HR.out]; rfl, HBB.out⟩
  have cI := ints_any a.list b.list _ _ w2 HA2.out.l HB2.out.l
  have HN := Lib.hid (And.intro n1 (And.intro n2 n3))
  rw [← n1] at y22
  rw [← n2] at y27
  rw [← n3] at y28
  clear n1 n2 n3
  go_enter Try.func19, Try.ntmps19
  go_upto_region 1 with fail
  rw [← HW.out, ← HQ.out, ← HP.out]
  go_wp2_with fail
  refine cI.mono ?_
  rintro e w3 ⟨rfl, hb3⟩
  clear cI x22 x23 x27 x28 y22 y23 y27 y28
  cases hsl : sameL iSame a.list b.list
  · have HR := Lib.hid (same_no a b (.inr (.inr (.inr hsl))))
    have HF := Lib.hid (HBB.out.trans (Joins.below_le hb3 HBB.out.size))
    clear hsl hb3
    go_wp2_with fail
    go_ret
    exact ⟨by rw [HR.out]; rfl, HF.out⟩
  have HSL := Lib.hid hsl
  have HB30 : Hid (Below w2.heap.size w2 w3) := Lib.hid hb3
  have HS0 : Hid (∀ (j : Nat) (x y : EN), j < 0 → a.entries[j]? = some x → b.entries[j]? = some y → EN.same x y = true) := Lib.hid fun j x y hj => by omega
  clear hsl hb3
  go_wp2_with fail
  go_loopw [5, 6, 7] (fun s5 _ _ wr => ∃ i : Nat, s5 = .int .i64 (i : Int) ∧ i ≤ a.entries.length ∧ Hid (Below w2.heap.size w2 wr) ∧ Hid (∀ (j : Nat) (x y : EN), j < i → a.entries[j]? = some x → b.entries[j]? = some y → EN.same x y = true)) (fun s5 _ _ _ => a.entries.length - (intOf s5).toNat)
  case atStart => exact ⟨0, rfl, Nat.zero_le _, HB30, HS0⟩
  case round =>
    clear HB30 HS0
    obtain ⟨i, rfl, hi, hbl, hsf⟩ := hrel
    obtain ⟨wz, hwz⟩ : ∃ wz : World, wz = wr := ⟨_, rfl⟩
    subst hwz
    have hX := (hbl.out.block p (Array.getElem?_eq_some_iff.1 HX2.out.1).1).trans HX2.out.1
    have hY := (hbl.out.block q (Array.getElem?_eq_some_iff.1 HX2.out.2).1).trans HX2.out.2
    have p1 : wz.cell? ⟨p, 22, none⟩ = some (.slice AE1 a.entries.length cE1) := ((blk_cells hX).1 22).trans (mc_22 _ _ _ _ _)
    by_cases hil : i < a.entries.length
    · have a1 : (i : Int) < (a.entries.length : Int) := by omega
      have a0 : (0 : Int) ≤ (i : Int) := by omega
      obtain ⟨x, hx⟩ : ∃ x, a.entries[i]? = some x := ⟨_, List.getElem?_eq_getElem hil⟩
      obtain ⟨y, hy⟩ : ∃ y, b.entries[i]? = some y := ⟨_, List.getElem?_eq_getElem (by rw [← HN.out.1]; exact hil)⟩
      obtain ⟨g1, o1, n1, k1, A3, c3, hv, -, hg1, hl1, y0, y1, y2, y3⟩ := (HA2.out.e.grow hbl.out).cell hx
      injection hv with v1 v2 v3
      subst v1 v2 v3
      obtain ⟨wa, hwa⟩ : ∃ wa, wa = wz.alloc (.cells #[.int .i64 x.term, .int .u8 x.kind, .string x.data, .slice A3 x.list.length c3] 79) := ⟨_, rfl⟩
      have hba : Below wz.heap.size wz wa := by rw [hwa]; exact (Below.refl _ _).alloc (Nat.le_refl _) _
      have hxa : wa.heap[wz.heap.size]? = some (.cells #[.int .i64 x.term, .int .u8 x.kind, .string x.data, .slice A3 x.list.length c3] 79 (0, 0)) := by rw [hwa]; exact heap_alloc_new wz _
      have hbla := hbl.out.trans (Joins.below_le hba hbl.out.size)
      have p2 : wa.cell? ⟨q, 22, none⟩ = some (.slice AE2 a.entries.length cE2) := ((blk_cells ((hba.block q (Array.getElem?_eq_some_iff.1 hY).1).trans hY)).1 22).trans (by rw [HN.out.1]; exact mc_22 _ _ _ _ _)
      obtain ⟨g2, o2, n2, k2, A4, c4, hv, -, hg2, hl2, z0, z1, z2, z3⟩ := (HB2.out.e.grow hbla).cell hy
      injection hv with v1 v2 v3
      subst v1 v3
      clear v2
      obtain ⟨wb, hwb⟩ : ∃ wb, wb = wa.alloc (.cells #[.int .i64 y.term, .int .u8 y.kind, .string y.data, .slice A4 y.list.length c4] 79) := ⟨_, rfl⟩
      have hbb : Below wa.heap.size wa wb := by rw [hwb]; exact (Below.refl _ _).alloc (Nat.le_refl _) _
      have hyb : wb.heap[wa.heap.size]? = some (.cells #[.int .i64 y.term, .int .u8 y.kind, .string y.data, .slice A4 y.list.length c4] 79 (0, 0)) := by rw [hwb]; exact heap_alloc_new wa _
      have hxb := (hbb.block _ (Array.getElem?_eq_some_iff.1 hxa).1).trans hxa
      have hblb := hbla.trans (Joins.below_le hbb hbla.size)
      have cS := ints_any x.list y.list _ _ wb ((hl1.grow hba).grow hbb) (hl2.grow hbb)
      obtain ⟨u, hu⟩ : ∃ u, u = wz.heap.size := ⟨_, rfl⟩
      obtain ⟨t, ht⟩ : ∃ t, t = wa.heap.size := ⟨_, rfl⟩
      rw [← hu] at hxb
      rw [← ht] at hyb
      obtain ⟨d0, d1, d2, d3⟩ : wb.cell? ⟨u, 0, none⟩ = some (.int .i64 x.term) ∧ wb.cell? ⟨u, 1, none⟩ = some (.int .u8 x.kind) ∧ wb.cell? ⟨u, 2, none⟩ = some (.string x.data) ∧ wb.cell? ⟨u, 3, none⟩ = some (.slice A3 x.list.length c3) := ⟨(blk_cells hxb).1 0, (blk_cells hxb).1 1, (blk_cells hxb).1 2, (blk_cells hxb).1 3⟩
      obtain ⟨f0, f1, f2, f3⟩ : wb.cell? ⟨t, 0, none⟩ = some (.int .i64 y.term) ∧ wb.cell? ⟨t, 1, none⟩ = some (.int .u8 y.kind) ∧ wb.cell? ⟨t, 2, none⟩ = some (.string y.data) ∧ wb.cell? ⟨t, 3, none⟩ = some (.slice A4 y.list.length c4) := ⟨(blk_cells hyb).1 0, (blk_cells hyb).1 1, (blk_cells hyb).1 2, (blk_cells hyb).1 3⟩
      have HWA := Lib.hid hwa
      have HWB := Lib.hid hwb
      have HU := Lib.hid hu
      have HT := Lib.hid ht
      have HBL := Lib.hid hblb
      have HXY := Lib.hid (And.intro hx hy)
      have HBW := Lib.hid (HBB.out.trans (Joins.below_le hblb HBB.out.size))
      clear hwa hba hxa hbla hwb hbb hyb hxb hblb hu ht hx hy hg1 hg2 hl1 hl2 hbl hX hY
      have step : x.same y = true → ∀ (j : Nat) (x y : EN), j < i + 1 → a.entries[j]? = some x → b.entries[j]? = some y → EN.same x y = true := fun hs j x' y' hj h1 h2 => by
        by_cases hji : j = i
        · subst hji
          have e1 : some x' = some x := h1.symm.trans HXY.out.1
          have e2 : some y' = some y := h2.symm.trans HXY.out.2
          injection e1 with e1
          injection e2 with e2
          rw [e1, e2]
          exact hs
        · exact hsf.out j x' y' (by omega) h1 h2
      have stop : x.same y = false → a.same b = false := fun hs => same_no a b (.inl (sameL_at HXY.out.1 HXY.out.2 hs))
      have HST := Lib.hid (And.intro step stop)
      clear step stop
      go_upto_region 7 with fail
      rw [← HWA.out, ← HU.out]
      go_upto_region 8 with fail
      rw [← HWB.out, ← HT.out]
      clear y0 y1 y2 y3 z0 z1 z2 z3 HWA HWB HU HT p1 p2
      by_cases k1 : x.term = y.term
      · by_cases k2 : x.kind = y.kind
        · by_cases k3 : x.data.toList = y.data.toList
          · have hr : x.same y = sameL iSame x.list y.list := by unfold EN.same; simp [k1, k2, k3]
            have HR := Lib.hid hr
            rw [← k1] at f0
            rw [← k2] at f1
            have k3' : (x.data.toList == y.data.toList) = true := by simpa using k3
            clear hr k1 k2 k3
            go_wp2_with fail
            refine cS.mono ?_
            rintro e wc ⟨rfl, hbc⟩
            have HBC := Lib.hid (HBL.out.trans (Joins.below_le hbc HBL.out.size))
            have HBC2 := Lib.hid (HBW.out.trans (Joins.below_le hbc HBW.out.size))
            clear hbc cS d0 d1 d2 d3 f0 f1 f2 f3
            cases hs : sameL iSame x.list y.list
            · have HF := Lib.hid (HST.out.2 (HR.out.trans hs))
              clear hs
              go_wp2_with fail
              go_ret
              exact ⟨by rw [HF.out]; rfl, HBC2.out⟩
            · have HSF2 := Lib.hid (HST.out.1 (HR.out.trans hs))
              clear hs
              go_wp2_with fail
              exact ⟨⟨i + 1, by go_num, by omega, HBC, HSF2⟩, by simp [intOf]; omega⟩
          · have hr : x.same y = false := by unfold EN.same; simp [k1, k2, k3]
            have HF := Lib.hid (HST.out.2 hr)
            rw [← k1] at f0
            rw [← k2] at f1
            have k3' : (x.data.toList == y.data.toList) = false := by simpa using k3
            clear hr k1 k2 k3 cS
            go_wp2_with fail
            go_ret
            exact ⟨by rw [HF.out]; rfl, HBW.out⟩
        · have hr : x.same y = false := by unfold EN.same; simp [k2]
          have HF := Lib.hid (HST.out.2 hr)
          rw [← k1] at f0
          have k2' : (x.kind == y.kind) = false := by simpa using k2
          clear hr k1 cS
          go_wp2_with fail
          go_ret
          exact ⟨by rw [HF.out]; rfl, HBW.out⟩
      · have hr : x.same y = false := by unfold EN.same; simp [k1]
        have HF := Lib.hid (HST.out.2 hr)
        have k1' : (x.term == y.term) = false := by simpa using k1
        clear hr cS
        go_wp2_with fail
        go_ret
        exact ⟨by rw [HF.out]; rfl, HBW.out⟩
    · have a1 : ¬ (i : Int) < (a.entries.length : Int) := by omega
      have hr : sameL EN.same a.entries b.entries = true := sameL_all HN.out.1 fun j x y hx hy => hsf.out j x y (by have := (List.getElem?_eq_some_iff.1 hx).1; omega) hx hy
      have HSE := Lib.hid hr
      have HBI := Lib.hid hbl.out
      clear hr hbl hsf hX hY
      go_wp2_with fail
      clear p1
      have HB30 : Hid (Below w2.heap.size w2 _) := HBI
      have HS0 : Hid (∀ (j : Nat) (x y : PP), j < 0 → a.pairs[j]? = some x → b.pairs[j]? = some y → PP.same x y = true) := Lib.hid fun j x y hj => by omega
      clear HBI
      go_loopw [8] (fun s8 wr => ∃ i : Nat, s8 = .int .i64 (i : Int) ∧ i ≤ a.pairs.length ∧ Hid (Below w2.heap.size w2 wr) ∧ Hid (∀ (j : Nat) (x y : PP), j < i → a.pairs[j]? = some x → b.pairs[j]? = some y → PP.same x y = true)) (fun s8 _ => a.pairs.length - (intOf s8).toNat)
      case atStart => exact ⟨0, rfl, Nat.zero_le _, HB30, HS0⟩
      case round =>
        clear HB30 HS0
        obtain ⟨i, rfl, hi, hbl, hsf⟩ := hrel
        obtain ⟨wz, hwz⟩ : ∃ wz : World, wz = wr := ⟨_, rfl⟩
        subst hwz
        have hX := (hbl.out.block p (Array.getElem?_eq_some_iff.1 HX2.out.1).1).trans HX2.out.1
        have hY := (hbl.out.block q (Array.getElem?_eq_some_iff.1 HX2.out.2).1).trans HX2.out.2
        have p1 : wz.cell? ⟨p, 27, none⟩ = some (.slice AP1 a.pairs.length cP1) := ((blk_cells hX).1 27).trans (mc_27 _ _ _ _ _)
        have p2 : wz.cell? ⟨q, 27, none⟩ = some (.slice AP2 a.pairs.length cP2) := ((blk_cells hY).1 27).trans (by rw [HN.out.2.1]; exact mc_27 _ _ _ _ _)
        clear hX hY
        by_cases hil : i < a.pairs.length
        · have a1 : (i : Int) < (a.pairs.length : Int) := by omega
          have a0 : (0 : Int) ≤ (i : Int) := by omega
          obtain ⟨x, hx⟩ : ∃ x, a.pairs[i]? = some x := ⟨_, List.getElem?_eq_getElem hil⟩
          obtain ⟨y, hy⟩ : ∃ y, b.pairs[i]? = some y := ⟨_, List.getElem?_eq_getElem (by rw [← HN.out.2.1]; exact hil)⟩
          obtain ⟨g1, o1, n1, k1, hv, -, hg1, hc1⟩ := (HA2.out.p.grow hbl.out).cell hx
          injection hv with v1 v2 v3
          subst v1 v2 v3
          obtain ⟨g2, o2, n2, k2, hv, -, hg2, hc2⟩ := (HB2.out.p.grow hbl.out).cell hy
          injection hv with v1 v2 v3
          subst v1 v3
          clear v2
          obtain ⟨y0, y1⟩ : wz.cell? ⟨g1, o1 + i * 2, none⟩ = some (.string x.key) ∧ wz.cell? ⟨g1, o1 + i * 2 + 1, none⟩ = some (.string x.val) := ⟨hc1 0 _ rfl, hc1 1 _ rfl⟩
          obtain ⟨z0, z1⟩ : wz.cell? ⟨g2, o2 + i * 2, none⟩ = some (.string y.key) ∧ wz.cell? ⟨g2, o2 + i * 2 + 1, none⟩ = some (.string y.val) := ⟨hc2 0 _ rfl, hc2 1 _ rfl⟩
          have heq := fun W => eq_pp x y W
          have HXY := Lib.hid (And.intro hx hy)
          clear hc1 hc2 hx hy hg1 hg2
          cases hs : x.same y
          · rw [hs] at heq
            have HF := Lib.hid (same_no a b (.inr <| .inl (sameL_at HXY.out.1 HXY.out.2 hs)))
            clear hs
            go_upto_region 13 with fail
            go_quiet (fail)
            have HBQ : Hid (Below w.heap.size w (wz.drewN nq)) := Lib.hid (drewN_below _ _ _ _ (HBB.out.trans (Joins.below_le hbl.out HBB.out.size)))
            go_wp2_with fail
            go_ret
            exact ⟨by rw [HF.out]; rfl, HBQ.out⟩
          · rw [hs] at heq
            have hsf2 : ∀ (j : Nat) (x y : PP), j < i + 1 → a.pairs[j]? = some x → b.pairs[j]? = some y → PP.same x y = true := fun j x' y' hj h1 h2 => by
              by_cases hji : j = i
              · subst hji
                have e1 : some x' = some x := h1.symm.trans HXY.out.1
                have e2 : some y' = some y := h2.symm.trans HXY.out.2
                injection e1 with e1
                injection e2 with e2
                rw [e1, e2]
                exact hs
              · exact hsf.out j x' y' (by omega) h1 h2
            have HSF2 := Lib.hid hsf2
            clear hs hsf2
            go_upto_region 13 with fail
            go_quiet (fail)
            have HBQ : Hid (Below w2.heap.size w2 (wz.drewN nq)) := Lib.hid (drewN_below _ _ _ _ hbl.out)
            go_wp2_with fail
            exact ⟨⟨i + 1, by go_num, by omega, HBQ, HSF2⟩, by simp [intOf]; omega⟩
        · have a1 : ¬ (i : Int) < (a.pairs.length : Int) := by omega
          have hr : sameL PP.same a.pairs b.pairs = true := sameL_all HN.out.2.1 fun j x y hx hy => hsf.out j x y (by have := (List.getElem?_eq_some_iff.1 hx).1; omega) hx hy
          have HSP := Lib.hid hr
          have HBI := Lib.hid hbl.out
          clear hr hbl hsf
          go_wp2_with fail
          clear p1 p2
          have HB30 : Hid (Below w2.heap.size w2 _) := HBI
          have HS0 : Hid (∀ (j : Nat) (x y : PL), j < 0 → a.lasts[j]? = some x → b.lasts[j]? = some y → PL.same x y = true) := Lib.hid fun j x y hj => by omega
          clear HBI
          go_loopw [9] (fun s9 wr => ∃ i : Nat, s9 = .int .i64 (i : Int) ∧ i ≤ a.lasts.length ∧ Hid (Below w2.heap.size w2 wr) ∧ Hid (∀ (j : Nat) (x y : PL), j < i → a.lasts[j]? = some x → b.lasts[j]? = some y → PL.same x y = true)) (fun s9 _ => a.lasts.length - (intOf s9).toNat)
          case atStart => exact ⟨0, rfl, Nat.zero_le _, HB30, HS0⟩
          case round =>
            clear HB30 HS0
            obtain ⟨i, rfl, hi, hbl, hsf⟩ := hrel
            obtain ⟨wz, hwz⟩ : ∃ wz : World, wz = wr := ⟨_, rfl⟩
            subst hwz
            have hX := (hbl.out.block p (Array.getElem?_eq_some_iff.1 HX2.out.1).1).trans HX2.out.1
            have hY := (hbl.out.block q (Array.getElem?_eq_some_iff.1 HX2.out.2).1).trans HX2.out.2
            have p1 : wz.cell? ⟨p, 28, none⟩ = some (.slice AX1 a.lasts.length cX1) := ((blk_cells hX).1 28).trans (mc_28 _ _ _ _ _)
            have p2 : wz.cell? ⟨q, 28, none⟩ = some (.slice AX2 a.lasts.length cX2) := ((blk_cells hY).1 28).trans (by rw [HN.out.2.2]; exact mc_28 _ _ _ _ _)
            clear hX hY
            by_cases hil : i < a.lasts.length
            · have a1 : (i : Int) < (a.lasts.length : Int) := by omega
              have a0 : (0 : Int) ≤ (i : Int) := by omega
              obtain ⟨x, hx⟩ : ∃ x, a.lasts[i]? = some x := ⟨_, List.getElem?_eq_getElem hil⟩
              obtain ⟨y, hy⟩ : ∃ y, b.lasts[i]? = some y := ⟨_, List.getElem?_eq_getElem (by rw [← HN.out.2.2]; exact hil)⟩
              obtain ⟨g1, o1, n1, k1, hv, -, hg1, hc1⟩ := (HA2.out.x.grow hbl.out).cell hx
              injection hv with v1 v2 v3
              subst v1 v2 v3
              obtain ⟨g2, o2, n2, k2, hv, -, hg2, hc2⟩ := (HB2.out.x.grow hbl.out).cell hy
              injection hv with v1 v2 v3
              subst v1 v3
              clear v2
              obtain ⟨y0, y1, y2, y3, y4⟩ : wz.cell? ⟨g1, o1 + i * 5, none⟩ = some (.int .i64 x.client) ∧ wz.cell? ⟨g1, o1 + i * 5 + 1, none⟩ = some (.int .i64 x.id) ∧ wz.cell? ⟨g1, o1 + i * 5 + 2, none⟩ = some (.int .u8 x.res.kind) ∧ wz.cell? ⟨g1, o1 + i * 5 + 3, none⟩ = some (.bool x.res.found) ∧ wz.cell? ⟨g1, o1 + i * 5 + 4, none⟩ = some (.string x.res.val) := ⟨hc1 0 _ rfl, hc1 1 _ rfl, hc1 2 _ rfl, hc1 3 _ rfl, hc1 4 _ rfl⟩
              obtain ⟨z0, z1, z2, z3, z4⟩ : wz.cell? ⟨g2, o2 + i * 5, none⟩ = some (.int .i64 y.client) ∧ wz.cell? ⟨g2, o2 + i * 5 + 1, none⟩ = some (.int .i64 y.id) ∧ wz.cell? ⟨g2, o2 + i * 5 + 2, none⟩ = some (.int .u8 y.res.kind) ∧ wz.cell? ⟨g2, o2 + i * 5 + 3, none⟩ = some (.bool y.res.found) ∧ wz.cell? ⟨g2, o2 + i * 5 + 4, none⟩ = some (.string y.res.val) := ⟨hc2 0 _ rfl, hc2 1 _ rfl, hc2 2 _ rfl, hc2 3 _ rfl, hc2 4 _ rfl⟩
              have heq := fun W => eq_pl x y W
              have HXY := Lib.hid (And.intro hx hy)
              clear hc1 hc2 hx hy hg1 hg2
              cases hs : x.same y
              · rw [hs] at heq
                have HF := Lib.hid (same_no a b (.inr <| .inr <| .inl (sameL_at HXY.out.1 HXY.out.2 hs)))
                clear hs
                go_upto_region 18 with fail
                go_quiet (fail)
                have HBQ : Hid (Below w.heap.size w (wz.drewN nq)) := Lib.hid (drewN_below _ _ _ _ (HBB.out.trans (Joins.below_le hbl.out HBB.out.size)))
                go_wp2_with fail
                go_ret
                exact ⟨by rw [HF.out]; rfl, HBQ.out⟩
              · rw [hs] at heq
                have hsf2 : ∀ (j : Nat) (x y : PL), j < i + 1 → a.lasts[j]? = some x → b.lasts[j]? = some y → PL.same x y = true := fun j x' y' hj h1 h2 => by
                  by_cases hji : j = i
                  · subst hji
                    have e1 : some x' = some x := h1.symm.trans HXY.out.1
                    have e2 : some y' = some y := h2.symm.trans HXY.out.2
                    injection e1 with e1
                    injection e2 with e2
                    rw [e1, e2]
                    exact hs
                  · exact hsf.out j x' y' (by omega) h1 h2
                have HSF2 := Lib.hid hsf2
                clear hs hsf2
                go_upto_region 18 with fail
                go_quiet (fail)
                have HBQ : Hid (Below w2.heap.size w2 (wz.drewN nq)) := Lib.hid (drewN_below _ _ _ _ hbl.out)
                go_wp2_with fail
                exact ⟨⟨i + 1, by go_num, by omega, HBQ, HSF2⟩, by simp [intOf]; omega⟩
            · have a1 : ¬ (i : Int) < (a.lasts.length : Int) := by omega
              have hr : sameL PL.same a.lasts b.lasts = true := sameL_all HN.out.2.2 fun j x y hx hy => hsf.out j x y (by have := (List.getElem?_eq_some_iff.1 hx).1; omega) hx hy
              have HSX := Lib.hid hr
              have HBI := Lib.hid hbl.out
              clear hr hbl hsf
              have hX := (HBI.out.block p (Array.getElem?_eq_some_iff.1 HX2.out.1).1).trans HX2.out.1
              have hY := (HBI.out.block q (Array.getElem?_eq_some_iff.1 HX2.out.2).1).trans HX2.out.2
              have HF := Lib.hid (HBB.out.trans (Joins.below_le HBI.out HBB.out.size))
              have HZ := Lib.hid (same_yes a b HSE.out HSP.out HSX.out HSL.out)
              go_upto_region 20 with fail
              rename_i aK2 K9 aK
              have HK := Lib.hid aK
              have HK2 := Lib.hid aK2
              clear aK aK2 p1 p2
              refine wp_region_list ?_
              refine wl_gen (n := 259) (x := 2) (y := 3) (pv := .pointer (some ⟨p, 0, none⟩)) (qv := .pointer (some ⟨q, 0, none⟩)) (by rfl) rfl (by rfl) (by rfl) ?_
              intro c0 hs0 hd0 h20 h30
              refine mv (k := 123) rfl rfl (by rw [hs0]; decide) (ex_fa rfl h20 (fa_0 p wz)) ?_
              intro cqa fqa eqa
              have hsqa := fqa.size.trans hs0
              have h2qa := (fqa.keep 2 (by decide)).trans h20
              have h3qa := (fqa.keep 3 (by decide)).trans h30
              have hdqa := fqa.defers.trans hd0
              refine mv (k := 124) rfl rfl (by rw [hsqa]; decide) (ex_load rfl eqa (u := .int .u8 a.kind) (ld_uint8 p 0 _ wz (((blk_cells hX).1 0).trans (mc_0 _ _ _ _ _)))) ?_
              intro cqb fqb eqb
              have hsqb := fqb.size.trans hsqa
              have h2qb := (fqb.keep 2 (by decide)).trans h2qa
              have h3qb := (fqb.keep 3 (by decide)).trans h3qa
              have hdqb := fqb.defers.trans hdqa
              refine mv (k := 125) rfl rfl (by rw [hsqb]; decide) (ex_fa rfl h3qb (fa_0 q wz)) ?_
              intro cqd fqd eqd
              have hsqd := fqd.size.trans hsqb
              have h2qd := (fqd.keep 2 (by decide)).trans h2qb
              have h3qd := (fqd.keep 3 (by decide)).trans h3qb
              have hdqd := fqd.defers.trans hdqb
              refine mv (k := 126) rfl rfl (by rw [hsqd]; decide) (ex_load rfl eqd (u := .int .u8 b.kind) (ld_uint8 q 0 _ wz (((blk_cells hY).1 0).trans (mc_0 _ _ _ _ _)))) ?_
              intro cqg fqg eqg
              have hsqg := fqg.size.trans hsqd
              have h2qg := (fqg.keep 2 (by decide)).trans h2qd
              have h3qg := (fqg.keep 3 (by decide)).trans h3qd
              have hdqg := fqg.defers.trans hdqd
              have eqb2 := ((fqg.keep 124 (by decide)).trans (fqd.keep 124 (by decide))).trans eqb
              refine mv (k := 127) rfl rfl (by rw [hsqg]; decide) (ex_bin rfl eqb2 eqg (guard_uint8_neq _ _ _ _ wz) (bin_uint8_neq _ _ wz)) ?_
              intro cqi fqi eqi
              have hsqi := fqi.size.trans hsqg
              have h2qi := (fqi.keep 2 (by decide)).trans h2qg
              have h3qi := (fqi.keep 3 (by decide)).trans h3qg
              have hdqi := fqi.defers.trans hdqg
              refine mv (k := 128) rfl rfl (by rw [hsqi]; decide) (ex_move rfl eqi) ?_
              intro cqz0 fqz0 eqz0
              have hsqz0 := fqz0.size.trans hsqi
              have h2qz0 := (fqz0.keep 2 (by decide)).trans h2qi
              have h3qz0 := (fqz0.keep 3 (by decide)).trans h3qi
              have hdqz0 := fqz0.defers.trans hdqi
              refine grp (gi := 5) (g := 128) (k := 129) (x := 2) (y := 3) (b := (!(a.kind == b.kind))) (r := !(a.shard == b.shard)) (pol := false) (u1 := .int .i64 a.shard) (u3 := .int .i64 b.shard) (by kernel_rfl) rfl rfl rfl rfl rfl rfl rfl rfl rfl rfl rfl rfl (by rw [hsqz0]; decide) (by decide) (by decide) eqz0 h2qz0 h3qz0 (fun _ h => ex_fa rfl h (fa_1 p wz)) (fun _ h => ex_load rfl h (ld_int p 1 _ wz (((blk_cells hX).1 1).trans (mc_1 _ _ _ _ _)))) (fun _ h => ex_fa rfl h (fa_1 q wz)) (fun _ h => ex_load rfl h (ld_int q 1 _ wz (((blk_cells hY).1 1).trans (mc_1 _ _ _ _ _)))) (fun _ h k => ex_bin rfl h k (guard_int_neq _ _ _ _ wz) (bin_int_neq _ _ wz)) (fun _ _ h => ex_pickO rfl h) ?_
              intro cqp1 fqp1 eqp1
              rw [or_z] at eqp1
              have hsqp1 := fqp1.size.trans hsqz0
              have h2qp1 := (fqp1.keep 2 (by decide)).trans h2qz0
              have h3qp1 := (fqp1.keep 3 (by decide)).trans h3qz0
              have hdqp1 := fqp1.defers.trans hdqz0
              refine mv (k := 135) rfl rfl (by rw [hsqp1]; decide) (ex_move rfl eqp1) ?_
              intro cqzz1 fqzz1 eqzz1
              have hsqzz1 := fqzz1.size.trans hsqp1
              have h2qzz1 := (fqzz1.keep 2 (by decide)).trans h2qp1
              have h3qzz1 := (fqzz1.keep 3 (by decide)).trans h3qp1
              have hdqzz1 := fqzz1.defers.trans hdqp1
              clear eqp1
              refine grp (gi := 12) (g := 135) (k := 136) (x := 2) (y := 3) (b := ((!(a.kind == b.kind)) || !(a.shard == b.shard))) (r := !(a.epoch == b.epoch)) (pol := false) (u1 := .int .i64 a.epoch) (u3 := .int .i64 b.epoch) (by kernel_rfl) rfl rfl rfl rfl rfl rfl rfl rfl rfl rfl rfl rfl (by rw [hsqzz1]; decide) (by decide) (by decide) eqzz1 h2qzz1 h3qzz1 (fun _ h => ex_fa rfl h (fa_2 p wz)) (fun _ h => ex_load rfl h (ld_int p 2 _ wz (((blk_cells hX).1 2).trans (mc_2 _ _ _ _ _)))) (fun _ h => ex_fa rfl h (fa_2 q wz)) (fun _ h => ex_load rfl h (ld_int q 2 _ wz (((blk_cells hY).1 2).trans (mc_2 _ _ _ _ _)))) (fun _ h k => ex_bin rfl h k (guard_int_neq _ _ _ _ wz) (bin_int_neq _ _ wz)) (fun _ _ h => ex_pickO rfl h) ?_
              intro cqp2 fqp2 eqp2
              rw [or_z] at eqp2
              have hsqp2 := fqp2.size.trans hsqzz1
              have h2qp2 := (fqp2.keep 2 (by decide)).trans h2qzz1
              have h3qp2 := (fqp2.keep 3 (by decide)).trans h3qzz1
              have hdqp2 := fqp2.defers.trans hdqzz1
              refine mv (k := 142) rfl rfl (by rw [hsqp2]; decide) (ex_move rfl eqp2) ?_
              intro cqzz2 fqzz2 eqzz2
              have hsqzz2 := fqzz2.size.trans hsqp2
              have h2qzz2 := (fqzz2.keep 2 (by decide)).trans h2qp2
              have h3qzz2 := (fqzz2.keep 3 (by decide)).trans h3qp2
              have hdqzz2 := fqzz2.defers.trans hdqp2
              clear eqp2
              refine grp (gi := 19) (g := 142) (k := 143) (x := 2) (y := 3) (b := (((!(a.kind == b.kind)) || !(a.shard == b.shard)) || !(a.epoch == b.epoch))) (r := !(a.owner == b.owner)) (pol := false) (u1 := .int .i64 a.owner) (u3 := .int .i64 b.owner) (by kernel_rfl) rfl rfl rfl rfl rfl rfl rfl rfl rfl rfl rfl rfl (by rw [hsqzz2]; decide) (by decide) (by decide) eqzz2 h2qzz2 h3qzz2 (fun _ h => ex_fa rfl h (fa_3 p wz)) (fun _ h => ex_load rfl h (ld_int p 3 _ wz (((blk_cells hX).1 3).trans (mc_3 _ _ _ _ _)))) (fun _ h => ex_fa rfl h (fa_3 q wz)) (fun _ h => ex_load rfl h (ld_int q 3 _ wz (((blk_cells hY).1 3).trans (mc_3 _ _ _ _ _)))) (fun _ h k => ex_bin rfl h k (guard_int_neq _ _ _ _ wz) (bin_int_neq _ _ wz)) (fun _ _ h => ex_pickO rfl h) ?_
              intro cqp3 fqp3 eqp3
              rw [or_z] at eqp3
              have hsqp3 := fqp3.size.trans hsqzz2
              have h2qp3 := (fqp3.keep 2 (by decide)).trans h2qzz2
              have h3qp3 := (fqp3.keep 3 (by decide)).trans h3qzz2
              have hdqp3 := fqp3.defers.trans hdqzz2
              refine mv (k := 149) rfl rfl (by rw [hsqp3]; decide) (ex_move rfl eqp3) ?_
              intro cqzz3 fqzz3 eqzz3
              have hsqzz3 := fqzz3.size.trans hsqp3
              have h2qzz3 := (fqzz3.keep 2 (by decide)).trans h2qp3
              have h3qzz3 := (fqzz3.keep 3 (by decide)).trans h3qp3
              have hdqzz3 := fqzz3.defers.trans hdqp3
              clear eqp3
              refine grp (gi := 26) (g := 149) (k := 150) (x := 2) (y := 3) (b := ((((!(a.kind == b.kind)) || !(a.shard == b.shard)) || !(a.epoch == b.epoch)) || !(a.owner == b.owner))) (r := !(a.req == b.req)) (pol := false) (u1 := .int .i64 a.req) (u3 := .int .i64 b.req) (by kernel_rfl) rfl rfl rfl rfl rfl rfl rfl rfl rfl rfl rfl rfl (by rw [hsqzz3]; decide) (by decide) (by decide) eqzz3 h2qzz3 h3qzz3 (fun _ h => ex_fa rfl h (fa_4 p wz)) (fun _ h => ex_load rfl h (ld_int p 4 _ wz (((blk_cells hX).1 4).trans (mc_4 _ _ _ _ _)))) (fun _ h => ex_fa rfl h (fa_4 q wz)) (fun _ h => ex_load rfl h (ld_int q 4 _ wz (((blk_cells hY).1 4).trans (mc_4 _ _ _ _ _)))) (fun _ h k => ex_bin rfl h k (guard_int_neq _ _ _ _ wz) (bin_int_neq _ _ wz)) (fun _ _ h => ex_pickO rfl h) ?_
              intro cqp4 fqp4 eqp4
              rw [or_z] at eqp4
              have hsqp4 := fqp4.size.trans hsqzz3
              have h2qp4 := (fqp4.keep 2 (by decide)).trans h2qzz3
              have h3qp4 := (fqp4.keep 3 (by decide)).trans h3qzz3
              have hdqp4 := fqp4.defers.trans hdqzz3
              refine mv (k := 156) rfl rfl (by rw [hsqp4]; decide) (ex_move rfl eqp4) ?_
              intro cqzz4 fqzz4 eqzz4
              have hsqzz4 := fqzz4.size.trans hsqp4
              have h2qzz4 := (fqzz4.keep 2 (by decide)).trans h2qp4
              have h3qzz4 := (fqzz4.keep 3 (by decide)).trans h3qp4
              have hdqzz4 := fqzz4.defers.trans hdqp4
              clear eqp4
              refine grp (gi := 33) (g := 156) (k := 157) (x := 2) (y := 3) (b := (((((!(a.kind == b.kind)) || !(a.shard == b.shard)) || !(a.epoch == b.epoch)) || !(a.owner == b.owner)) || !(a.req == b.req))) (r := !(a.client == b.client)) (pol := false) (u1 := .int .i64 a.client) (u3 := .int .i64 b.client) (by kernel_rfl) rfl rfl rfl rfl rfl rfl rfl rfl rfl rfl rfl rfl (by rw [hsqzz4]; decide) (by decide) (by decide) eqzz4 h2qzz4 h3qzz4 (fun _ h => ex_fa rfl h (fa_5 p wz)) (fun _ h => ex_load rfl h (ld_int p 5 _ wz (((blk_cells hX).1 5).trans (mc_5 _ _ _ _ _)))) (fun _ h => ex_fa rfl h (fa_5 q wz)) (fun _ h => ex_load rfl h (ld_int q 5 _ wz (((blk_cells hY).1 5).trans (mc_5 _ _ _ _ _)))) (fun _ h k => ex_bin rfl h k (guard_int_neq _ _ _ _ wz) (bin_int_neq _ _ wz)) (fun _ _ h => ex_pickO rfl h) ?_
              intro cqp5 fqp5 eqp5
              rw [or_z] at eqp5
              have hsqp5 := fqp5.size.trans hsqzz4
              have h2qp5 := (fqp5.keep 2 (by decide)).trans h2qzz4
              have h3qp5 := (fqp5.keep 3 (by decide)).trans h3qzz4
              have hdqp5 := fqp5.defers.trans hdqzz4
              refine mv (k := 163) rfl rfl (by rw [hsqp5]; decide) (ex_move rfl eqp5) ?_
              intro cqzz5 fqzz5 eqzz5
              have hsqzz5 := fqzz5.size.trans hsqp5
              have h2qzz5 := (fqzz5.keep 2 (by decide)).trans h2qp5
              have h3qzz5 := (fqzz5.keep 3 (by decide)).trans h3qp5
              have hdqzz5 := fqzz5.defers.trans hdqp5
              clear eqp5
              refine grp (gi := 40) (g := 163) (k := 164) (x := 2) (y := 3) (b := ((((((!(a.kind == b.kind)) || !(a.shard == b.shard)) || !(a.epoch == b.epoch)) || !(a.owner == b.owner)) || !(a.req == b.req)) || !(a.client == b.client))) (r := !(a.id == b.id)) (pol := false) (u1 := .int .i64 a.id) (u3 := .int .i64 b.id) (by kernel_rfl) rfl rfl rfl rfl rfl rfl rfl rfl rfl rfl rfl rfl (by rw [hsqzz5]; decide) (by decide) (by decide) eqzz5 h2qzz5 h3qzz5 (fun _ h => ex_fa rfl h (fa_6 p wz)) (fun _ h => ex_load rfl h (ld_int p 6 _ wz (((blk_cells hX).1 6).trans (mc_6 _ _ _ _ _)))) (fun _ h => ex_fa rfl h (fa_6 q wz)) (fun _ h => ex_load rfl h (ld_int q 6 _ wz (((blk_cells hY).1 6).trans (mc_6 _ _ _ _ _)))) (fun _ h k => ex_bin rfl h k (guard_int_neq _ _ _ _ wz) (bin_int_neq _ _ wz)) (fun _ _ h => ex_pickO rfl h) ?_
              intro cqp6 fqp6 eqp6
              rw [or_z] at eqp6
              have hsqp6 := fqp6.size.trans hsqzz5
              have h2qp6 := (fqp6.keep 2 (by decide)).trans h2qzz5
              have h3qp6 := (fqp6.keep 3 (by decide)).trans h3qzz5
              have hdqp6 := fqp6.defers.trans hdqzz5
              refine mv (k := 170) rfl rfl (by rw [hsqp6]; decide) (ex_move rfl eqp6) ?_
              intro cqzz6 fqzz6 eqzz6
              have hsqzz6 := fqzz6.size.trans hsqp6
              have h2qzz6 := (fqzz6.keep 2 (by decide)).trans h2qp6
              have h3qzz6 := (fqzz6.keep 3 (by decide)).trans h3qp6
              have hdqzz6 := fqzz6.defers.trans hdqp6
              clear eqp6
              refine grp (gi := 47) (g := 170) (k := 171) (x := 2) (y := 3) (b := (((((((!(a.kind == b.kind)) || !(a.shard == b.shard)) || !(a.epoch == b.epoch)) || !(a.owner == b.owner)) || !(a.req == b.req)) || !(a.client == b.client)) || !(a.id == b.id))) (r := !(a.op.same b.op)) (pol := false) (u1 := .agg #[.int .u8 a.op.kind, .string a.op.key, .string a.op.val, .string a.op.old, .bool a.op.had]) (u3 := .agg #[.int .u8 b.op.kind, .string b.op.key, .string b.op.val, .string b.op.old, .bool b.op.had]) (by kernel_rfl) rfl rfl rfl rfl rfl rfl rfl rfl rfl rfl rfl rfl (by rw [hsqzz6]; decide) (by decide) (by decide) eqzz6 h2qzz6 h3qzz6 (fun _ h => ex_fa rfl h (fa_7 p wz)) (fun _ h => ex_load rfl h (ld_api_Op p 7 _ _ _ _ _ wz (((blk_cells hX).1 7).trans (mc_7 _ _ _ _ _)) (((blk_cells hX).1 8).trans (mc_8 _ _ _ _ _)) (((blk_cells hX).1 9).trans (mc_9 _ _ _ _ _)) (((blk_cells hX).1 10).trans (mc_10 _ _ _ _ _)) (((blk_cells hX).1 11).trans (mc_11 _ _ _ _ _)))) (fun _ h => ex_fa rfl h (fa_7 q wz)) (fun _ h => ex_load rfl h (ld_api_Op q 7 _ _ _ _ _ wz (((blk_cells hY).1 7).trans (mc_7 _ _ _ _ _)) (((blk_cells hY).1 8).trans (mc_8 _ _ _ _ _)) (((blk_cells hY).1 9).trans (mc_9 _ _ _ _ _)) (((blk_cells hY).1 10).trans (mc_10 _ _ _ _ _)) (((blk_cells hY).1 11).trans (mc_11 _ _ _ _ _)))) (fun _ h k => ex_bin rfl h k (guard_api_Op_neq _ _ _ _ wz) (bin_api_Op_neq _ _ wz)) (fun _ _ h => ex_pickO rfl h) ?_
              intro cqp7 fqp7 eqp7
              rw [or_z] at eqp7
              have hsqp7 := fqp7.size.trans hsqzz6
              have h2qp7 := (fqp7.keep 2 (by decide)).trans h2qzz6
              have h3qp7 := (fqp7.keep 3 (by decide)).trans h3qzz6
              have hdqp7 := fqp7.defers.trans hdqzz6
              refine mv (k := 177) rfl rfl (by rw [hsqp7]; decide) (ex_move rfl eqp7) ?_
              intro cqzz7 fqzz7 eqzz7
              have hsqzz7 := fqzz7.size.trans hsqp7
              have h2qzz7 := (fqzz7.keep 2 (by decide)).trans h2qp7
              have h3qzz7 := (fqzz7.keep 3 (by decide)).trans h3qp7
              have hdqzz7 := fqzz7.defers.trans hdqp7
              clear eqp7
              refine grp (gi := 54) (g := 177) (k := 178) (x := 2) (y := 3) (b := ((((((((!(a.kind == b.kind)) || !(a.shard == b.shard)) || !(a.epoch == b.epoch)) || !(a.owner == b.owner)) || !(a.req == b.req)) || !(a.client == b.client)) || !(a.id == b.id)) || !(a.op.same b.op))) (r := !(a.code == b.code)) (pol := false) (u1 := .int .i64 a.code) (u3 := .int .i64 b.code) (by kernel_rfl) rfl rfl rfl rfl rfl rfl rfl rfl rfl rfl rfl rfl (by rw [hsqzz7]; decide) (by decide) (by decide) eqzz7 h2qzz7 h3qzz7 (fun _ h => ex_fa rfl h (fa_8 p wz)) (fun _ h => ex_load rfl h (ld_api_Errno p 12 _ wz (((blk_cells hX).1 12).trans (mc_12 _ _ _ _ _)))) (fun _ h => ex_fa rfl h (fa_8 q wz)) (fun _ h => ex_load rfl h (ld_api_Errno q 12 _ wz (((blk_cells hY).1 12).trans (mc_12 _ _ _ _ _)))) (fun _ h k => ex_bin rfl h k (guard_api_Errno_neq _ _ _ _ wz) (bin_api_Errno_neq _ _ wz)) (fun _ _ h => ex_pickO rfl h) ?_
              intro cqp8 fqp8 eqp8
              rw [or_z] at eqp8
              have hsqp8 := fqp8.size.trans hsqzz7
              have h2qp8 := (fqp8.keep 2 (by decide)).trans h2qzz7
              have h3qp8 := (fqp8.keep 3 (by decide)).trans h3qzz7
              have hdqp8 := fqp8.defers.trans hdqzz7
              refine mv (k := 184) rfl rfl (by rw [hsqp8]; decide) (ex_move rfl eqp8) ?_
              intro cqzz8 fqzz8 eqzz8
              have hsqzz8 := fqzz8.size.trans hsqp8
              have h2qzz8 := (fqzz8.keep 2 (by decide)).trans h2qp8
              have h3qzz8 := (fqzz8.keep 3 (by decide)).trans h3qp8
              have hdqzz8 := fqzz8.defers.trans hdqp8
              clear eqp8
              refine grp (gi := 61) (g := 184) (k := 185) (x := 2) (y := 3) (b := (((((((((!(a.kind == b.kind)) || !(a.shard == b.shard)) || !(a.epoch == b.epoch)) || !(a.owner == b.owner)) || !(a.req == b.req)) || !(a.client == b.client)) || !(a.id == b.id)) || !(a.op.same b.op)) || !(a.code == b.code))) (r := !(a.res.same b.res)) (pol := false) (u1 := .agg #[.int .u8 a.res.kind, .bool a.res.found, .string a.res.val]) (u3 := .agg #[.int .u8 b.res.kind, .bool b.res.found, .string b.res.val]) (by kernel_rfl) rfl rfl rfl rfl rfl rfl rfl rfl rfl rfl rfl rfl (by rw [hsqzz8]; decide) (by decide) (by decide) eqzz8 h2qzz8 h3qzz8 (fun _ h => ex_fa rfl h (fa_9 p wz)) (fun _ h => ex_load rfl h (ld_api_Result p 13 _ _ _ wz (((blk_cells hX).1 13).trans (mc_13 _ _ _ _ _)) (((blk_cells hX).1 14).trans (mc_14 _ _ _ _ _)) (((blk_cells hX).1 15).trans (mc_15 _ _ _ _ _)))) (fun _ h => ex_fa rfl h (fa_9 q wz)) (fun _ h => ex_load rfl h (ld_api_Result q 13 _ _ _ wz (((blk_cells hY).1 13).trans (mc_13 _ _ _ _ _)) (((blk_cells hY).1 14).trans (mc_14 _ _ _ _ _)) (((blk_cells hY).1 15).trans (mc_15 _ _ _ _ _)))) (fun _ h k => ex_bin rfl h k (guard_api_Result_neq _ _ _ _ wz) (bin_api_Result_neq _ _ wz)) (fun _ _ h => ex_pickO rfl h) ?_
              intro cqp9 fqp9 eqp9
              rw [or_z] at eqp9
              have hsqp9 := fqp9.size.trans hsqzz8
              have h2qp9 := (fqp9.keep 2 (by decide)).trans h2qzz8
              have h3qp9 := (fqp9.keep 3 (by decide)).trans h3qzz8
              have hdqp9 := fqp9.defers.trans hdqzz8
              refine wpList_nil ?_
              refine HK.out _ _ ?_
              have hsR := hsqp9
              have h2R := h2qp9
              have h3R := h3qp9
              have hdR := hdqp9
              refine wp_cond_split (eval_tmp eqp9) (fun h1 => ?_) (fun h1 => ?_)
              · refine wp_seq_k ?_
                intro K3 aK3
                refine wp_region_list ?_
                refine mv (k := 4) rfl rfl (by rw [hsR]; decide) (ex_assignc rfl) ?_
                intro cL fL eL
                refine wpList_nil ?_
                refine aK3 _ _ ?_
                refine wp_ret ?_
                exact ⟨fL.defers.trans hdR, _, results_t rfl eL, by rw [HZ.out, h1]; rfl, HF.out⟩
              · refine wp_skip ?_
                refine HK2.out _ _ ?_
                refine wp_seq_k ?_
                intro K3 aK3
                refine wp_region_list ?_
                refine mv (k := 191) rfl rfl (by rw [hsR]; decide) (ex_fa rfl h2R (fa_10 p wz)) ?_
                intro cra fra era
                have hsra := fra.size.trans hsR
                have h2ra := (fra.keep 2 (by decide)).trans h2R
                have h3ra := (fra.keep 3 (by decide)).trans h3R
                have hdra := fra.defers.trans hdR
                refine mv (k := 192) rfl rfl (by rw [hsra]; decide) (ex_load rfl era (u := .int .i64 a.grant) (ld_int p 16 _ wz (((blk_cells hX).1 16).trans (mc_16 _ _ _ _ _)))) ?_
                intro crb frb erb
                have hsrb := frb.size.trans hsra
                have h2rb := (frb.keep 2 (by decide)).trans h2ra
                have h3rb := (frb.keep 3 (by decide)).trans h3ra
                have hdrb := frb.defers.trans hdra
                refine mv (k := 193) rfl rfl (by rw [hsrb]; decide) (ex_fa rfl h3rb (fa_10 q wz)) ?_
                intro crd frd erd
                have hsrd := frd.size.trans hsrb
                have h2rd := (frd.keep 2 (by decide)).trans h2rb
                have h3rd := (frd.keep 3 (by decide)).trans h3rb
                have hdrd := frd.defers.trans hdrb
                refine mv (k := 194) rfl rfl (by rw [hsrd]; decide) (ex_load rfl erd (u := .int .i64 b.grant) (ld_int q 16 _ wz (((blk_cells hY).1 16).trans (mc_16 _ _ _ _ _)))) ?_
                intro crg frg erg
                have hsrg := frg.size.trans hsrd
                have h2rg := (frg.keep 2 (by decide)).trans h2rd
                have h3rg := (frg.keep 3 (by decide)).trans h3rd
                have hdrg := frg.defers.trans hdrd
                have erb2 := ((frg.keep 192 (by decide)).trans (frd.keep 192 (by decide))).trans erb
                refine mv (k := 195) rfl rfl (by rw [hsrg]; decide) (ex_bin rfl erb2 erg (guard_int_eql _ _ _ _ wz) (bin_int_eql _ _ wz)) ?_
                intro cri fri eri
                have hsri := fri.size.trans hsrg
                have h2ri := (fri.keep 2 (by decide)).trans h2rg
                have h3ri := (fri.keep 3 (by decide)).trans h3rg
                have hdri := fri.defers.trans hdrg
                refine mv (k := 196) rfl rfl (by rw [hsri]; decide) (ex_move rfl eri) ?_
                intro crz0 frz0 erz0
                have hsrz0 := frz0.size.trans hsri
                have h2rz0 := (frz0.keep 2 (by decide)).trans h2ri
                have h3rz0 := (frz0.keep 3 (by decide)).trans h3ri
                have hdrz0 := frz0.defers.trans hdri
                refine grp (gi := 5) (g := 196) (k := 197) (x := 2) (y := 3) (b := ((a.grant == b.grant))) (r := a.term == b.term) (pol := true) (u1 := .int .i64 a.term) (u3 := .int .i64 b.term) (by kernel_rfl) rfl rfl rfl rfl rfl rfl rfl rfl rfl rfl rfl rfl (by rw [hsrz0]; decide) (by decide) (by decide) erz0 h2rz0 h3rz0 (fun _ h => ex_fa rfl h (fa_11 p wz)) (fun _ h => ex_load rfl h (ld_int p 17 _ wz (((blk_cells hX).1 17).trans (mc_17 _ _ _ _ _)))) (fun _ h => ex_fa rfl h (fa_11 q wz)) (fun _ h => ex_load rfl h (ld_int q 17 _ wz (((blk_cells hY).1 17).trans (mc_17 _ _ _ _ _)))) (fun _ h k => ex_bin rfl h k (guard_int_eql _ _ _ _ wz) (bin_int_eql _ _ wz)) (fun _ _ h => ex_pickA rfl h) ?_
                intro crp11 frp11 erp11
                rw [and_z] at erp11
                have hsrp11 := frp11.size.trans hsrz0
                have h2rp11 := (frp11.keep 2 (by decide)).trans h2rz0
                have h3rp11 := (frp11.keep 3 (by decide)).trans h3rz0
                have hdrp11 := frp11.defers.trans hdrz0
                refine mv (k := 203) rfl rfl (by rw [hsrp11]; decide) (ex_move rfl erp11) ?_
                intro crzz11 frzz11 erzz11
                have hsrzz11 := frzz11.size.trans hsrp11
                have h2rzz11 := (frzz11.keep 2 (by decide)).trans h2rp11
                have h3rzz11 := (frzz11.keep 3 (by decide)).trans h3rp11
                have hdrzz11 := frzz11.defers.trans hdrp11
                clear erp11
                refine grp (gi := 12) (g := 203) (k := 204) (x := 2) (y := 3) (b := (((a.grant == b.grant)) && (a.term == b.term))) (r := a.index == b.index) (pol := true) (u1 := .int .i64 a.index) (u3 := .int .i64 b.index) (by kernel_rfl) rfl rfl rfl rfl rfl rfl rfl rfl rfl rfl rfl rfl (by rw [hsrzz11]; decide) (by decide) (by decide) erzz11 h2rzz11 h3rzz11 (fun _ h => ex_fa rfl h (fa_12 p wz)) (fun _ h => ex_load rfl h (ld_int p 18 _ wz (((blk_cells hX).1 18).trans (mc_18 _ _ _ _ _)))) (fun _ h => ex_fa rfl h (fa_12 q wz)) (fun _ h => ex_load rfl h (ld_int q 18 _ wz (((blk_cells hY).1 18).trans (mc_18 _ _ _ _ _)))) (fun _ h k => ex_bin rfl h k (guard_int_eql _ _ _ _ wz) (bin_int_eql _ _ wz)) (fun _ _ h => ex_pickA rfl h) ?_
                intro crp12 frp12 erp12
                rw [and_z] at erp12
                have hsrp12 := frp12.size.trans hsrzz11
                have h2rp12 := (frp12.keep 2 (by decide)).trans h2rzz11
                have h3rp12 := (frp12.keep 3 (by decide)).trans h3rzz11
                have hdrp12 := frp12.defers.trans hdrzz11
                refine mv (k := 210) rfl rfl (by rw [hsrp12]; decide) (ex_move rfl erp12) ?_
                intro crzz12 frzz12 erzz12
                have hsrzz12 := frzz12.size.trans hsrp12
                have h2rzz12 := (frzz12.keep 2 (by decide)).trans h2rp12
                have h3rzz12 := (frzz12.keep 3 (by decide)).trans h3rp12
                have hdrzz12 := frzz12.defers.trans hdrp12
                clear erp12
                refine grp (gi := 19) (g := 210) (k := 211) (x := 2) (y := 3) (b := ((((a.grant == b.grant)) && (a.term == b.term)) && (a.index == b.index))) (r := a.prev == b.prev) (pol := true) (u1 := .int .i64 a.prev) (u3 := .int .i64 b.prev) (by kernel_rfl) rfl rfl rfl rfl rfl rfl rfl rfl rfl rfl rfl rfl (by rw [hsrzz12]; decide) (by decide) (by decide) erzz12 h2rzz12 h3rzz12 (fun _ h => ex_fa rfl h (fa_13 p wz)) (fun _ h => ex_load rfl h (ld_int p 19 _ wz (((blk_cells hX).1 19).trans (mc_19 _ _ _ _ _)))) (fun _ h => ex_fa rfl h (fa_13 q wz)) (fun _ h => ex_load rfl h (ld_int q 19 _ wz (((blk_cells hY).1 19).trans (mc_19 _ _ _ _ _)))) (fun _ h k => ex_bin rfl h k (guard_int_eql _ _ _ _ wz) (bin_int_eql _ _ wz)) (fun _ _ h => ex_pickA rfl h) ?_
                intro crp13 frp13 erp13
                rw [and_z] at erp13
                have hsrp13 := frp13.size.trans hsrzz12
                have h2rp13 := (frp13.keep 2 (by decide)).trans h2rzz12
                have h3rp13 := (frp13.keep 3 (by decide)).trans h3rzz12
                have hdrp13 := frp13.defers.trans hdrzz12
                refine mv (k := 217) rfl rfl (by rw [hsrp13]; decide) (ex_move rfl erp13) ?_
                intro crzz13 frzz13 erzz13
                have hsrzz13 := frzz13.size.trans hsrp13
                have h2rzz13 := (frzz13.keep 2 (by decide)).trans h2rp13
                have h3rzz13 := (frzz13.keep 3 (by decide)).trans h3rp13
                have hdrzz13 := frzz13.defers.trans hdrp13
                clear erp13
                refine grp (gi := 26) (g := 217) (k := 218) (x := 2) (y := 3) (b := (((((a.grant == b.grant)) && (a.term == b.term)) && (a.index == b.index)) && (a.prev == b.prev))) (r := a.commit == b.commit) (pol := true) (u1 := .int .i64 a.commit) (u3 := .int .i64 b.commit) (by kernel_rfl) rfl rfl rfl rfl rfl rfl rfl rfl rfl rfl rfl rfl (by rw [hsrzz13]; decide) (by decide) (by decide) erzz13 h2rzz13 h3rzz13 (fun _ h => ex_fa rfl h (fa_14 p wz)) (fun _ h => ex_load rfl h (ld_int p 20 _ wz (((blk_cells hX).1 20).trans (mc_20 _ _ _ _ _)))) (fun _ h => ex_fa rfl h (fa_14 q wz)) (fun _ h => ex_load rfl h (ld_int q 20 _ wz (((blk_cells hY).1 20).trans (mc_20 _ _ _ _ _)))) (fun _ h k => ex_bin rfl h k (guard_int_eql _ _ _ _ wz) (bin_int_eql _ _ wz)) (fun _ _ h => ex_pickA rfl h) ?_
                intro crp14 frp14 erp14
                rw [and_z] at erp14
                have hsrp14 := frp14.size.trans hsrzz13
                have h2rp14 := (frp14.keep 2 (by decide)).trans h2rzz13
                have h3rp14 := (frp14.keep 3 (by decide)).trans h3rzz13
                have hdrp14 := frp14.defers.trans hdrzz13
                refine mv (k := 224) rfl rfl (by rw [hsrp14]; decide) (ex_move rfl erp14) ?_
                intro crzz14 frzz14 erzz14
                have hsrzz14 := frzz14.size.trans hsrp14
                have h2rzz14 := (frzz14.keep 2 (by decide)).trans h2rp14
                have h3rzz14 := (frzz14.keep 3 (by decide)).trans h3rp14
                have hdrzz14 := frzz14.defers.trans hdrp14
                clear erp14
                refine grp (gi := 33) (g := 224) (k := 225) (x := 2) (y := 3) (b := ((((((a.grant == b.grant)) && (a.term == b.term)) && (a.index == b.index)) && (a.prev == b.prev)) && (a.commit == b.commit))) (r := a.granted == b.granted) (pol := true) (u1 := .bool a.granted) (u3 := .bool b.granted) (by kernel_rfl) rfl rfl rfl rfl rfl rfl rfl rfl rfl rfl rfl rfl (by rw [hsrzz14]; decide) (by decide) (by decide) erzz14 h2rzz14 h3rzz14 (fun _ h => ex_fa rfl h (fa_15 p wz)) (fun _ h => ex_load rfl h (ld_bool p 21 _ wz (((blk_cells hX).1 21).trans (mc_21 _ _ _ _ _)))) (fun _ h => ex_fa rfl h (fa_15 q wz)) (fun _ h => ex_load rfl h (ld_bool q 21 _ wz (((blk_cells hY).1 21).trans (mc_21 _ _ _ _ _)))) (fun _ h k => ex_bin rfl h k (guard_bool_eql _ _ _ _ wz) (bin_bool_eql _ _ wz)) (fun _ _ h => ex_pickA rfl h) ?_
                intro crp15 frp15 erp15
                rw [and_z] at erp15
                have hsrp15 := frp15.size.trans hsrzz14
                have h2rp15 := (frp15.keep 2 (by decide)).trans h2rzz14
                have h3rp15 := (frp15.keep 3 (by decide)).trans h3rzz14
                have hdrp15 := frp15.defers.trans hdrzz14
                refine mv (k := 231) rfl rfl (by rw [hsrp15]; decide) (ex_move rfl erp15) ?_
                intro crzz15 frzz15 erzz15
                have hsrzz15 := frzz15.size.trans hsrp15
                have h2rzz15 := (frzz15.keep 2 (by decide)).trans h2rp15
                have h3rzz15 := (frzz15.keep 3 (by decide)).trans h3rp15
                have hdrzz15 := frzz15.defers.trans hdrp15
                clear erp15
                refine grp (gi := 40) (g := 231) (k := 232) (x := 2) (y := 3) (b := (((((((a.grant == b.grant)) && (a.term == b.term)) && (a.index == b.index)) && (a.prev == b.prev)) && (a.commit == b.commit)) && (a.granted == b.granted))) (r := a.state.toList == b.state.toList) (pol := true) (u1 := .string a.state) (u3 := .string b.state) (by kernel_rfl) rfl rfl rfl rfl rfl rfl rfl rfl rfl rfl rfl rfl (by rw [hsrzz15]; decide) (by decide) (by decide) erzz15 h2rzz15 h3rzz15 (fun _ h => ex_fa rfl h (fa_18 p wz)) (fun _ h => ex_load rfl h (ld_string p 24 _ wz (((blk_cells hX).1 24).trans (mc_24 _ _ _ _ _)))) (fun _ h => ex_fa rfl h (fa_18 q wz)) (fun _ h => ex_load rfl h (ld_string q 24 _ wz (((blk_cells hY).1 24).trans (mc_24 _ _ _ _ _)))) (fun _ h k => ex_bin rfl h k (guard_string_eql _ _ _ _ wz) (bin_string_eql _ _ wz)) (fun _ _ h => ex_pickA rfl h) ?_
                intro crp18 frp18 erp18
                rw [and_z] at erp18
                have hsrp18 := frp18.size.trans hsrzz15
                have h2rp18 := (frp18.keep 2 (by decide)).trans h2rzz15
                have h3rp18 := (frp18.keep 3 (by decide)).trans h3rzz15
                have hdrp18 := frp18.defers.trans hdrzz15
                refine mv (k := 238) rfl rfl (by rw [hsrp18]; decide) (ex_move rfl erp18) ?_
                intro crzz18 frzz18 erzz18
                have hsrzz18 := frzz18.size.trans hsrp18
                have h2rzz18 := (frzz18.keep 2 (by decide)).trans h2rp18
                have h3rzz18 := (frzz18.keep 3 (by decide)).trans h3rp18
                have hdrzz18 := frzz18.defers.trans hdrp18
                clear erp18
                refine grp (gi := 47) (g := 238) (k := 239) (x := 2) (y := 3) (b := ((((((((a.grant == b.grant)) && (a.term == b.term)) && (a.index == b.index)) && (a.prev == b.prev)) && (a.commit == b.commit)) && (a.granted == b.granted)) && (a.state.toList == b.state.toList))) (r := a.part == b.part) (pol := true) (u1 := .int .i64 a.part) (u3 := .int .i64 b.part) (by kernel_rfl) rfl rfl rfl rfl rfl rfl rfl rfl rfl rfl rfl rfl (by rw [hsrzz18]; decide) (by decide) (by decide) erzz18 h2rzz18 h3rzz18 (fun _ h => ex_fa rfl h (fa_19 p wz)) (fun _ h => ex_load rfl h (ld_int p 25 _ wz (((blk_cells hX).1 25).trans (mc_25 _ _ _ _ _)))) (fun _ h => ex_fa rfl h (fa_19 q wz)) (fun _ h => ex_load rfl h (ld_int q 25 _ wz (((blk_cells hY).1 25).trans (mc_25 _ _ _ _ _)))) (fun _ h k => ex_bin rfl h k (guard_int_eql _ _ _ _ wz) (bin_int_eql _ _ wz)) (fun _ _ h => ex_pickA rfl h) ?_
                intro crp19 frp19 erp19
                rw [and_z] at erp19
                have hsrp19 := frp19.size.trans hsrzz18
                have h2rp19 := (frp19.keep 2 (by decide)).trans h2rzz18
                have h3rp19 := (frp19.keep 3 (by decide)).trans h3rzz18
                have hdrp19 := frp19.defers.trans hdrzz18
                refine mv (k := 245) rfl rfl (by rw [hsrp19]; decide) (ex_move rfl erp19) ?_
                intro crzz19 frzz19 erzz19
                have hsrzz19 := frzz19.size.trans hsrp19
                have h2rzz19 := (frzz19.keep 2 (by decide)).trans h2rp19
                have h3rzz19 := (frzz19.keep 3 (by decide)).trans h3rp19
                have hdrzz19 := frzz19.defers.trans hdrp19
                clear erp19
                refine grp (gi := 54) (g := 245) (k := 246) (x := 2) (y := 3) (b := (((((((((a.grant == b.grant)) && (a.term == b.term)) && (a.index == b.index)) && (a.prev == b.prev)) && (a.commit == b.commit)) && (a.granted == b.granted)) && (a.state.toList == b.state.toList)) && (a.part == b.part))) (r := a.last == b.last) (pol := true) (u1 := .bool a.last) (u3 := .bool b.last) (by kernel_rfl) rfl rfl rfl rfl rfl rfl rfl rfl rfl rfl rfl rfl (by rw [hsrzz19]; decide) (by decide) (by decide) erzz19 h2rzz19 h3rzz19 (fun _ h => ex_fa rfl h (fa_20 p wz)) (fun _ h => ex_load rfl h (ld_bool p 26 _ wz (((blk_cells hX).1 26).trans (mc_26 _ _ _ _ _)))) (fun _ h => ex_fa rfl h (fa_20 q wz)) (fun _ h => ex_load rfl h (ld_bool q 26 _ wz (((blk_cells hY).1 26).trans (mc_26 _ _ _ _ _)))) (fun _ h k => ex_bin rfl h k (guard_bool_eql _ _ _ _ wz) (bin_bool_eql _ _ wz)) (fun _ _ h => ex_pickA rfl h) ?_
                intro crp20 frp20 erp20
                rw [and_z] at erp20
                have hsrp20 := frp20.size.trans hsrzz19
                have h2rp20 := (frp20.keep 2 (by decide)).trans h2rzz19
                have h3rp20 := (frp20.keep 3 (by decide)).trans h3rzz19
                have hdrp20 := frp20.defers.trans hdrzz19
                refine mv (k := 252) rfl rfl (by rw [hsrp20]; decide) (ex_move rfl erp20) ?_
                intro crzz20 frzz20 erzz20
                have hsrzz20 := frzz20.size.trans hsrp20
                have h2rzz20 := (frzz20.keep 2 (by decide)).trans h2rp20
                have h3rzz20 := (frzz20.keep 3 (by decide)).trans h3rp20
                have hdrzz20 := frzz20.defers.trans hdrp20
                clear erp20
                refine grp (gi := 61) (g := 252) (k := 253) (x := 2) (y := 3) (b := ((((((((((a.grant == b.grant)) && (a.term == b.term)) && (a.index == b.index)) && (a.prev == b.prev)) && (a.commit == b.commit)) && (a.granted == b.granted)) && (a.state.toList == b.state.toList)) && (a.part == b.part)) && (a.last == b.last))) (r := a.cmd.same b.cmd) (pol := true) (u1 := .agg #[.int .u8 a.cmd.kind, .int .i64 a.cmd.shard, .int .i64 a.cmd.store, .int .i64 a.cmd.epoch]) (u3 := .agg #[.int .u8 b.cmd.kind, .int .i64 b.cmd.shard, .int .i64 b.cmd.store, .int .i64 b.cmd.epoch]) (by kernel_rfl) rfl rfl rfl rfl rfl rfl rfl rfl rfl rfl rfl rfl (by rw [hsrzz20]; decide) (by decide) (by decide) erzz20 h2rzz20 h3rzz20 (fun _ h => ex_fa rfl h (fa_23 p wz)) (fun _ h => ex_load rfl h (ld_api_Command p 29 _ _ _ _ wz (((blk_cells hX).1 29).trans (mc_29 _ _ _ _ _)) (((blk_cells hX).1 30).trans (mc_30 _ _ _ _ _)) (((blk_cells hX).1 31).trans (mc_31 _ _ _ _ _)) (((blk_cells hX).1 32).trans (mc_32 _ _ _ _ _)))) (fun _ h => ex_fa rfl h (fa_23 q wz)) (fun _ h => ex_load rfl h (ld_api_Command q 29 _ _ _ _ wz (((blk_cells hY).1 29).trans (mc_29 _ _ _ _ _)) (((blk_cells hY).1 30).trans (mc_30 _ _ _ _ _)) (((blk_cells hY).1 31).trans (mc_31 _ _ _ _ _)) (((blk_cells hY).1 32).trans (mc_32 _ _ _ _ _)))) (fun _ h k => ex_bin rfl h k (guard_api_Command_eql _ _ _ _ wz) (bin_api_Command_eql _ _ wz)) (fun _ _ h => ex_pickA rfl h) ?_
                intro crp23 frp23 erp23
                rw [and_z] at erp23
                have hsrp23 := frp23.size.trans hsrzz20
                have h2rp23 := (frp23.keep 2 (by decide)).trans h2rzz20
                have h3rp23 := (frp23.keep 3 (by decide)).trans h3rzz20
                have hdrp23 := frp23.defers.trans hdrzz20
                refine mv (k := 4) rfl rfl (by rw [hsrp23]; decide) (ex_assign rfl erp23) ?_
                intro cL fL eL
                refine wpList_nil ?_
                refine aK3 _ _ ?_
                refine wp_ret ?_
                exact ⟨fL.defers.trans hdrp23, _, results_t rfl eL, by rw [HZ.out, h1]; simp, HF.out⟩
end Go.Proofs.Ytblbcoknefgcaaa
