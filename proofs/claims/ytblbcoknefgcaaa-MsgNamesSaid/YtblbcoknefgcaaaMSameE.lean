/-
  Entries held against each other. No statement is proved here. No condition.
-/
import Derived.Test.YtblbcoknefgcaaaMEqual
namespace Go.Proofs.Ytblbcoknefgcaaa
open Go.RowKit

set_option maxHeartbeats 4000000 in
set_option maxRecDepth 100000 in
theorem sameEntry_any (x y : EN) (A1 A2 : Option Addr) (c1 c2 : Nat) (w : World) (h1 : inR.N w Any (.slice A1 x.list.length c1) x.list) (h2 : inR.N w Any (.slice A2 y.list.length c2) y.list) :
    Calls Try.prog 62 #[.agg #[.int .i64 x.term, .int .u8 x.kind, .string x.data, .slice A1 x.list.length c1], .agg #[.int .i64 y.term, .int .u8 y.kind, .string y.data, .slice A2 y.list.length c2]] w fun e w' => e = .returned (.bool (x.same y)) ∧ Below w.heap.size w w' := by
  obtain ⟨w1, hw1⟩ : ∃ w1, w1 = w.alloc (.cells #[.int .i64 x.term, .int .u8 x.kind, .string x.data, .slice A1 x.list.length c1] 79) := ⟨_, rfl⟩
  have hb1 : Below w.heap.size w w1 := by rw [hw1]; exact (Below.refl _ _).alloc (Nat.le_refl _) _
  have hx1 : w1.heap[w.heap.size]? = some (.cells #[.int .i64 x.term, .int .u8 x.kind, .string x.data, .slice A1 x.list.length c1] 79 (0, 0)) := by rw [hw1]; exact heap_alloc_new w _
  obtain ⟨w2, hw2⟩ : ∃ w2, w2 = w1.alloc (.cells #[.int .i64 y.term, .int .u8 y.kind, .string y.data, .slice A2 y.list.length c2] 79) := ⟨_, rfl⟩
  have hb2 : Below w1.heap.size w1 w2 := by rw [hw2]; exact (Below.refl _ _).alloc (Nat.le_refl _) _
  have hy2 : w2.heap[w1.heap.size]? = some (.cells #[.int .i64 y.term, .int .u8 y.kind, .string y.data, .slice A2 y.list.length c2] 79 (0, 0)) := by rw [hw2]; exact heap_alloc_new w1 _
  have hx2 := (hb2.block _ (Array.getElem?_eq_some_iff.1 hx1).1).trans hx1
  have hB : Below w.heap.size w w2 := hb1.trans (Joins.below_le hb2 hb1.size)
  have cL := equalI_any x.list y.list _ _ w2 ((h1.grow hb1).grow hb2) ((h2.grow hb1).grow hb2)
  have hs1 : w1.heap.size = w.heap.size + 1 := by rw [hw1]; simp
  obtain ⟨p, hp⟩ : ∃ p, p = w.heap.size := ⟨_, rfl⟩
  obtain ⟨q, hq⟩ : ∃ q, q = w1.heap.size := ⟨_, rfl⟩
  have hq1 : q = w.heap.size + 1 := hq.trans hs1
  rw [← hp] at hx2
  rw [← hq] at hy2
  obtain ⟨a0, a1, a2, a3⟩ : w2.cell? ⟨p, 0, none⟩ = some (.int .i64 x.term) ∧ w2.cell? ⟨p, 1, none⟩ = some (.int .u8 x.kind) ∧ w2.cell? ⟨p, 2, none⟩ = some (.string x.data) ∧ w2.cell? ⟨p, 3, none⟩ = some (.slice A1 x.list.length c1) := ⟨(blk_cells hx2).1 0, (blk_cells hx2).1 1, (blk_cells hx2).1 2, (blk_cells hx2).1 3⟩
  obtain ⟨b0, b1, b2, b3⟩ : w2.cell? ⟨q, 0, none⟩ = some (.int .i64 y.term) ∧ w2.cell? ⟨q, 1, none⟩ = some (.int .u8 y.kind) ∧ w2.cell? ⟨q, 2, none⟩ = some (.string y.data) ∧ w2.cell? ⟨q, 3, none⟩ = some (.slice A2 y.list.length c2) := ⟨(blk_cells hy2).1 0, (blk_cells hy2).1 1, (blk_cells hy2).1 2, (blk_cells hy2).1 3⟩
  have hww : w2 = (w.alloc (.cells #[.int .i64 x.term, .int .u8 x.kind, .string x.data, .slice A1 x.list.length c1] 79)).alloc (.cells #[.int .i64 y.term, .int .u8 y.kind, .string y.data, .slice A2 y.list.length c2] 79) := by rw [hw2, hw1]
  have HW := Lib.hid hww
  have HP := Lib.hid hp
  have HQ := Lib.hid hq1
  have HBB := Lib.hid hB
  have hsz : w2.heap.size = w2.heap.size := rfl
  clear h1 h2 hw1 hb1 hx1 hw2 hb2 hy2 hx2 hB hs1 hq hq1 hww hp hsz
  go_enter Try.func62, Try.ntmps62
  go_upto_region 1 with fail
  rw [← HW.out, ← HQ.out, ← HP.out]
  by_cases k1 : x.term = y.term
  · by_cases k2 : x.kind = y.kind
    · by_cases k3 : x.data.toList = y.data.toList
      · have hr : x.same y = sameL iSame x.list y.list := by unfold EN.same; simp [k1, k2, k3]
        have HR := Lib.hid hr
        rw [← k1] at b0
        rw [← k2] at b1
        have k3' : (x.data.toList == y.data.toList) = true := by simpa using k3
        clear hr k1 k2 k3
        go_wp2_with fail
        refine cL.mono ?_
        rintro e w3 ⟨rfl, hb3⟩
        have HF := Lib.hid (HBB.out.trans (Joins.below_le hb3 HBB.out.size))
        clear hb3
        go_wp2_with fail
        go_ret
        exact ⟨by rw [HR.out]; rfl, HF.out⟩
      · have hr : x.same y = false := by unfold EN.same; simp [k1, k2, k3]
        have HR := Lib.hid hr
        rw [← k1] at b0
        rw [← k2] at b1
        have k3' : (x.data.toList == y.data.toList) = false := by simpa using k3
        clear hr k1 k2 k3 cL
        go_wp2_with fail
        go_ret
        exact ⟨by rw [HR.out]; rfl, HBB.out⟩
    · have hr : x.same y = false := by unfold EN.same; simp [k2]
      have HR := Lib.hid hr
      rw [← k1] at b0
      have k2' : (x.kind == y.kind) = false := by simpa using k2
      clear hr k1 cL
      go_wp2_with fail
      go_ret
      exact ⟨by rw [HR.out]; rfl, HBB.out⟩
  · have hr : x.same y = false := by unfold EN.same; simp [k1]
    have HR := Lib.hid hr
    have k1' : (x.term == y.term) = false := by simpa using k1
    clear hr cL
    go_wp2_with fail
    go_ret
    exact ⟨by rw [HR.out]; rfl, HBB.out⟩

set_option maxHeartbeats 4000000 in
set_option maxRecDepth 100000 in
theorem equalE_any (l m : List EN) (a b : Value) (w : World) (ha : EntN w Any a l) (hb : EntN w Any b m) :
    Calls Try.prog 61 #[a, b, .func (.func 62) #[] #[]] w fun e w' => e = .returned (.bool (sameL EN.same l m)) ∧ Below w.heap.size w w' := by
  obtain ⟨A, c, rfl, hlc, hcm⟩ := ha.slice
  obtain ⟨A2, c2, rfl, hlc2, hcm2⟩ := hb.slice
  have hl : l.length ≤ maxLen := Nat.le_trans hlc hcm
  unfold maxLen at hl
  have HA := Lib.hid ha
  have HB := Lib.hid hb
  have HB0 : Hid (Below w.heap.size w w) := Lib.hid (Below.refl _ _)
  by_cases hlen : l.length = m.length
  case neg =>
    have hr : sameL EN.same l m = false := sameL_len hlen
    have n1 : ((l.length : Int) == (m.length : Int)) = false := by rw [beq_eq_false_iff_ne]; omega
    have n2 : ¬ (l.length : Int) = (m.length : Int) := by omega
    have HR := Lib.hid hr
    clear ha hb hlc hcm hlc2 hcm2 hlen hr
    go_enter Try.func61, Try.ntmps61
    go_wp2_with fail
    go_ret
    exact ⟨by rw [HR.out]; rfl, HB0.out⟩
  have HLN := Lib.hid hlen
  have HS0 : Hid (∀ (j : Nat) (x y : EN), j < 0 → l[j]? = some x → m[j]? = some y → EN.same x y = true) := Lib.hid fun j x y hj => by omega
  rw [← hlen] at HB ⊢
  clear ha hb hlc hcm hlc2 hcm2
  go_enter Try.func61, Try.ntmps61
  clear hlen
  go_wp2_with fail
  go_loopw [7, 8, 9, 17] (fun _ _ _ s17 wr => ∃ i : Nat, s17 = .int .i64 (i : Int) ∧ i ≤ l.length ∧ Hid (Below w.heap.size w wr) ∧ Hid (∀ (j : Nat) (x y : EN), j < i → l[j]? = some x → m[j]? = some y → EN.same x y = true)) (fun _ _ _ s17 _ => l.length - (intOf s17).toNat)
  case atStart => exact ⟨0, rfl, Nat.zero_le _, HB0, HS0⟩
  case round =>
    clear HB0 HS0
    obtain ⟨i, rfl, hi, hbl, hsf⟩ := hrel
    obtain ⟨wz, hwz⟩ : ∃ wz : World, wz = wr := ⟨_, rfl⟩
    subst hwz
    by_cases hil : i < l.length
    · have a1 : (i : Int) < (l.length : Int) := by omega
      have a0 : (0 : Int) ≤ (i : Int) := by omega
      obtain ⟨x, hx⟩ : ∃ x, l[i]? = some x := ⟨_, List.getElem?_eq_getElem hil⟩
      obtain ⟨y, hy⟩ : ∃ y, m[i]? = some y := ⟨_, List.getElem?_eq_getElem (by rw [← HLN.out]; exact hil)⟩
      obtain ⟨g1, o1, n1, k1, A3, c3, hv, -, hg1, hl1, y0, y1, y2, y3⟩ := (HA.out.grow hbl.out).cell hx
      injection hv with v1 v2 v3
      subst v1 v2 v3
      obtain ⟨wa, hwa⟩ : ∃ wa, wa = wz.alloc (.cells #[.int .i64 x.term, .int .u8 x.kind, .string x.data, .slice A3 x.list.length c3] 79) := ⟨_, rfl⟩
      have hba : Below wz.heap.size wz wa := by rw [hwa]; exact (Below.refl _ _).alloc (Nat.le_refl _) _
      have hxa : wa.heap[wz.heap.size]? = some (.cells #[.int .i64 x.term, .int .u8 x.kind, .string x.data, .slice A3 x.list.length c3] 79 (0, 0)) := by rw [hwa]; exact heap_alloc_new wz _
      have hbla := hbl.out.trans (Joins.below_le hba hbl.out.size)
      obtain ⟨g2, o2, n2, k2, A4, c4, hv, -, hg2, hl2, z0, z1, z2, z3⟩ := (HB.out.grow hbla).cell hy
      injection hv with v1 v2 v3
      subst v1 v2 v3
      obtain ⟨wb, hwb⟩ : ∃ wb, wb = wa.alloc (.cells #[.int .i64 y.term, .int .u8 y.kind, .string y.data, .slice A4 y.list.length c4] 79) := ⟨_, rfl⟩
      have hbb : Below wa.heap.size wa wb := by rw [hwb]; exact (Below.refl _ _).alloc (Nat.le_refl _) _
      have hyb : wb.heap[wa.heap.size]? = some (.cells #[.int .i64 y.term, .int .u8 y.kind, .string y.data, .slice A4 y.list.length c4] 79 (0, 0)) := by rw [hwb]; exact heap_alloc_new wa _
      have hxb := (hbb.block _ (Array.getElem?_eq_some_iff.1 hxa).1).trans hxa
      have hblb := hbla.trans (Joins.below_le hbb hbla.size)
      have cS := sameEntry_any x y A3 A4 c3 c4 wb ((hl1.grow hba).grow hbb) (hl2.grow hbb)
      obtain ⟨u, hu⟩ : ∃ u, u = wz.heap.size := ⟨_, rfl⟩
      obtain ⟨t, ht⟩ : ∃ t, t = wa.heap.size := ⟨_, rfl⟩
      rw [← hu] at hxb
      rw [← ht] at hyb
      obtain ⟨d0, d1, d2, d3⟩ : wb.cell? ⟨u, 0, none⟩ = some (.int .i64 x.term) ∧ wb.cell? ⟨u, 1, none⟩ = some (.int .u8 x.kind) ∧ wb.cell? ⟨u, 2, none⟩ = some (.string x.data) ∧ wb.cell? ⟨u, 3, none⟩ = some (.slice A3 x.list.length c3) := ⟨(blk_cells hxb).1 0, (blk_cells hxb).1 1, (blk_cells hxb).1 2, (blk_cells hxb).1 3⟩
      obtain ⟨f0, f1, f2, f3⟩ : wb.cell? ⟨t, 0, none⟩ = some (.int .i64 y.term) ∧ wb.cell? ⟨t, 1, none⟩ = some (.int .u8 y.kind) ∧ wb.cell? ⟨t, 2, none⟩ = some (.string y.data) ∧ wb.cell? ⟨t, 3, none⟩ = some (.slice A4 y.list.length c4) := ⟨(blk_cells hyb).1 0, (blk_cells hyb).1 1, (blk_cells hyb).1 2, (blk_cells hyb).1 3⟩
      have HWA := Lib.hid hwa
      have HWB := Lib.hid hwb
      have HU := Lib.hid hu
      have HT := Lib.hid ht
      have HBL := Lib.hid hblb
      have HXY := Lib.hid (And.intro hx hy)
      clear hwa hba hxa hbla hwb hbb hyb hxb hblb hu ht hx hy hg1 hg2 hl1 hl2 hbl
      go_upto_region 6 with fail
      rw [← HWA.out, ← HU.out]
      go_upto_region 7 with fail
      rw [← HWB.out, ← HT.out]
      clear y0 y1 y2 y3 z0 z1 z2 z3 HWA HWB HU HT
      go_wp2_with fail
      refine cS.mono ?_
      rintro e wc ⟨rfl, hbc⟩
      have HBC := Lib.hid (HBL.out.trans (Joins.below_le hbc HBL.out.size))
      clear hbc cS d0 d1 d2 d3 f0 f1 f2 f3
      cases hs : x.same y
      · have hr : sameL EN.same l m = false := sameL_at HXY.out.1 HXY.out.2 hs
        have HR := Lib.hid hr
        clear hr hs
        go_wp2_with fail
        go_ret
        exact ⟨by rw [HR.out]; rfl, HBC.out⟩
      · have hsf2 : ∀ (j : Nat) (x y : EN), j < i + 1 → l[j]? = some x → m[j]? = some y → EN.same x y = true := fun j x' y' hj h1 h2 => by
          by_cases hji : j = i
          · subst hji
            have e1 : some x' = some x := h1.symm.trans HXY.out.1
            have e2 : some y' = some y := h2.symm.trans HXY.out.2
            injection e1 with e1
            injection e2 with e2
            rw [e1, e2]
            exact hs
          · exact hsf.out j x' y' (by omega) h1 h2
        have HSF2 := Lib.hid hsf2
        clear hs hsf2
        go_wp2_with fail
        exact ⟨⟨i + 1, by go_num, by omega, HBC, HSF2⟩, by simp [intOf]; omega⟩
    · have a1 : ¬ (i : Int) < (l.length : Int) := by omega
      have hr : sameL EN.same l m = true := sameL_all HLN.out fun j x y hx hy => hsf.out j x y (by have := (List.getElem?_eq_some_iff.1 hx).1; omega) hx hy
      have HR := Lib.hid hr
      clear hr
      go_wp2_with fail
      go_ret
      exact ⟨by rw [HR.out]; rfl, hbl.out⟩
end Go.Proofs.Ytblbcoknefgcaaa
