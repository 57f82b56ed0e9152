/-
  The document's Step, walked (package butteryref09). No statement is proved here. No condition.
-/
import Derived.Test.YtlgjidoehnhnoaaETwo
namespace Go.Proofs.Ytlgjidoehnhnoaa
open Go.RowKit

set_option maxHeartbeats 16000000 in
set_option maxRecDepth 1000000 in
theorem rstep_any (m : List PP) (l : List PL) (c i : Int) (o : PO) (v u : Value) (w : World) (h : pairR.N w Any v m) (h' : lastR.N w Any u l) (hm : m.length ≤ 4398046511000) (hl : l.length ≤ 3518437208880) (hk : 0 ≤ o.kind ∧ o.kind ≤ 255) :
    Calls Try.prog 26 #[v, u, .int .i64 c, .int .i64 i, o.agg] w fun e w' => ∃ va vb, e = .returned (.tuple #[va, vb, (stepP m l c i o).2.2.agg, .int .i64 (stepErr l c i o)]) ∧ pairR.Own w' w.heap.size 24 va (stepP m l c i o).1 ∧ lastR.Own w' w.heap.size 46 vb (stepP m l c i o).2.1 ∧ Below w.heap.size w w' := by
  obtain ⟨A, cp, rfl, hlc, hcm⟩ := h.slice
  obtain ⟨A', cp', rfl, hlc', hcm'⟩ := h'.slice
  obtain ⟨w1, hw1⟩ : ∃ w1, w1 = w.alloc (.cells #[.int .u8 o.kind, .string o.key, .string o.val, .string o.old, .bool o.had] 32) := ⟨_, rfl⟩
  have hb1 : Below w.heap.size w w1 := by rw [hw1]; exact (Below.refl _ _).alloc (Nat.le_refl _) _
  have hx1 : w1.heap[w.heap.size]? = some (.cells #[.int .u8 o.kind, .string o.key, .string o.val, .string o.old, .bool o.had] 32 (0, 0)) := by rw [hw1]; exact heap_alloc_new w _
  have hs1 : w1.heap.size = w.heap.size + 1 := by rw [hw1]; simp
  obtain ⟨w2, hw2⟩ : ∃ w2, w2 = w1.alloc (.cells #[.int .u8 0, .bool false, .string ⟨#[]⟩] 27) := ⟨_, rfl⟩
  have hb2 : Below w1.heap.size w1 w2 := by rw [hw2]; exact (Below.refl _ _).alloc (Nat.le_refl _) _
  have hx2 := (hb2.block _ (by omega)).trans hx1
  have hy2 : w2.heap[w.heap.size + 1]? = some (.cells #[.int .u8 0, .bool false, .string ⟨#[]⟩] 27 (0, 0)) := by rw [hw2, ← hs1]; exact heap_alloc_new w1 _
  have hs2 : w2.heap.size = w.heap.size + 2 := by rw [hw2]; simp [hs1]
  have hbw : Below w.heap.size w w2 := hb1.trans (Joins.below_le hb2 (by omega))
  have hz := zero_res
  have hzl : ∀ W, (zeroValue 46).run Try.prog W = .ok (.agg #[.int .i64 0, .int .i64 0, .int .u8 0, .bool false, .string ⟨#[]⟩]) W := fun W => by kernel_rfl
  have hfin : ∀ (W : World) (a : Int) (b : Bool) (s : ByteArray), Below w2.heap.size w2 W →
      (W.cell? ⟨w.heap.size + 1, 0, none⟩ = some (.int .u8 0) ∧ W.cell? ⟨w.heap.size + 1, 1, none⟩ = some (.bool false) ∧ W.cell? ⟨w.heap.size + 1, 2, none⟩ = some (.string ⟨#[]⟩) ∧ W.frozen? ⟨w.heap.size + 1, 0, none⟩ = false ∧ W.frozen? ⟨w.heap.size + 1, 1, none⟩ = false ∧ W.frozen? ⟨w.heap.size + 1, 2, none⟩ = false) ∧
      ∃ wf, wf = ((W.setCell ⟨w.heap.size + 1, 0, none⟩ (.int .u8 a)).setCell ⟨w.heap.size + 1, 1, none⟩ (.bool b)).setCell ⟨w.heap.size + 1, 2, none⟩ (.string s) ∧
        (wf.cell? ⟨w.heap.size + 1, 0, none⟩ = some (.int .u8 a) ∧ wf.cell? ⟨w.heap.size + 1, 1, none⟩ = some (.bool b) ∧ wf.cell? ⟨w.heap.size + 1, 2, none⟩ = some (.string s)) ∧ Below w.heap.size w wf ∧ (∀ b, b ≠ w.heap.size + 1 → wf.heap[b]? = W.heap[b]?) := fun W a b s hW => by
    have e := (hW.block _ (by omega)).trans hy2
    have e2 := set3_at (x := .int .u8 a) (y := .bool b) (z := .string s) e
    exact ⟨⟨(blk_cells e).1 0, (blk_cells e).1 1, (blk_cells e).1 2, (blk_cells e).2 0, (blk_cells e).2 1, (blk_cells e).2 2⟩, _, rfl, ⟨(blk_cells e2).1 0, (blk_cells e2).1 1, (blk_cells e2).1 2⟩, set3_below (hbw.trans (Joins.below_le hW (by omega))) (by omega), fun b hb => set3_far hb⟩
  have cC := rcheck_any o w2 hk
  obtain ⟨er, her⟩ : ∃ er, er = o.err := ⟨_, rfl⟩
  rw [← her] at cC
  obtain ⟨D, hDD⟩ : ∃ D, D = stepP m l c i o := ⟨_, rfl⟩
  obtain ⟨E, hEE⟩ : ∃ E, E = stepErr l c i o := ⟨_, rfl⟩
  rw [← hDD, ← hEE]
  have HDD := Lib.hid hDD
  have HEE := Lib.hid hEE
  have HER := Lib.hid her
  have HN := Lib.hid (h.grow hbw)
  have HN' := Lib.hid (h'.grow hbw)
  have HFIN := Lib.hid hfin
  have HX2 := Lib.hid hx2
  have HS2 := Lib.hid hs2
  have HW1 := Lib.hid hw1
  have HW2 := Lib.hid hw2
  have hpf : ∀ W, Below w2.heap.size w2 W → W.cell? ⟨w.heap.size, 0, none⟩ = some (.int .u8 o.kind) ∧ W.cell? ⟨w.heap.size, 1, none⟩ = some (.string o.key) ∧ W.cell? ⟨w.heap.size, 2, none⟩ = some (.string o.val) ∧ W.cell? ⟨w.heap.size, 3, none⟩ = some (.string o.old) ∧ W.cell? ⟨w.heap.size, 4, none⟩ = some (.bool o.had) := fun W hW => by
    have e := (hW.block _ (by omega)).trans hx2
    exact ⟨(blk_cells e).1 0, (blk_cells e).1 1, (blk_cells e).1 2, (blk_cells e).1 3, (blk_cells e).1 4⟩
  have HPF := Lib.hid hpf
  obtain ⟨p0, p1, p2, p3, p4⟩ := hpf w2 (Below.refl _ _)
  unfold maxLen at hcm hcm'
  obtain ⟨hk0, hk1⟩ := hk
  clear h h' hw1 hw2 hb1 hb2 hx1 hx2 hy2 hs1 hs2 hbw hfin her hpf hDD hEE
  unfold PO.agg at cC ⊢
  go_enter Try.func26, Try.ntmps26
  go_upto_region 1 with fail
  rw [← HW1.out, ← HW2.out]
  go_wp2_with fail
  refine cC.mono ?_
  rintro e w3 ⟨rfl, hb3⟩
  clear cC p0 p1 p2 p3 p4
  by_cases he : er = 0
  · subst he
    have her0 : ¬ o.err ≠ 0 := by rw [← HER.out]; simp
    obtain ⟨p0, p1, p2, p3, p4⟩ := HPF.out w3 hb3
    by_cases h1 : o.kind = 1
    · have hE : E = 1 := by rw [HEE.out]; unfold stepErr; rw [if_neg her0, if_pos h1]
      have hD : D = ([], [], zR) := by rw [HDD.out]; unfold stepP; rw [if_pos (by rw [← HEE.out, hE]; simp)]
      have HD := Lib.hid hD
      have HE := Lib.hid hE
      clear hD hE
      have onp := Rec.Own.none pairR w3 w2.heap.size 24
      have onl := Rec.Own.none lastR w3 w2.heap.size 46
      obtain ⟨⟨r0, r1, r2, r3, r4, r5⟩, wf, hwf, ⟨g0, g1, g2⟩, hbf, hfar⟩ := HFIN.out w3 (0) (false) (⟨#[]⟩) hb3
      have hof := (Rec.Own.same onp (w' := wf) fun b h1 _ => hfar b (by have := HS2.out; omega)).base (show w.heap.size ≤ w2.heap.size by have := HS2.out; omega)
      have hol := (Rec.Own.same onl (w' := wf) fun b h1 _ => hfar b (by have := HS2.out; omega)).base (show w.heap.size ≤ w2.heap.size by have := HS2.out; omega)
      have HWF := Lib.hid hwf
      have HOF := Lib.hid hof
      have HOL := Lib.hid hol
      have HBF := Lib.hid hbf
      clear hwf hof hol hbf hfar
      go_wp2_with fail
      rw [← HWF.out]
      refine bodyPost_ret (v := .tuple #[.slice none 0 0, .slice none 0 0, .agg #[.int .u8 (0), .bool (false), .string (⟨#[]⟩)], .int .i64 1]) (by clear r0 r1 r2 r3 r4 r5; rw [results_ttct rfl]; go_simp; try rfl) rfl ?_
      rw [HD.out, HE.out]
      exact ⟨_, _, rfl, HOF.out, HOL.out, HBF.out⟩
    · have cS := rseen_any l c i _ w3 (HN'.out.grow hb3)
      obtain ⟨sn, hsn⟩ : ∃ sn, sn = seenP l c i := ⟨_, rfl⟩
      rw [← hsn] at cS
      obtain ⟨sr, se⟩ := sn
      have hE : E = if se = 6 then 6 else 0 := by rw [HEE.out]; unfold stepErr; rw [if_neg her0, if_neg h1, ← hsn]
      have hDc : E = 0 → D = if se = 0 then (m, l, sr) else ((doP m o).1, noteP l ⟨c, i, (doP m o).2⟩, (doP m o).2) := fun hE0 => by rw [HDD.out]; unfold stepP; rw [if_neg (by rw [← HEE.out, hE0]; simp), ← hsn]
      have HEc := Lib.hid hE
      have HDc := Lib.hid hDc
      clear hE hDc hsn
      unfold PR.agg at cS
      go_wp2_with fail
      refine cS.mono ?_
      rintro e w4 ⟨rfl, hb4'⟩
      have hb4 := hb3.trans (Joins.below_le hb4' hb3.size)
      obtain ⟨w5, hw5⟩ : ∃ w5, w5 = w4.alloc (.cells #[.int .u8 sr.kind, .bool sr.found, .string sr.val] 27) := ⟨_, rfl⟩
      have hb45 : Below w4.heap.size w4 w5 := by rw [hw5]; exact (Below.refl _ _).alloc (Nat.le_refl _) _
      have hx5 : w5.heap[w4.heap.size]? = some (.cells #[.int .u8 sr.kind, .bool sr.found, .string sr.val] 27 (0, 0)) := by rw [hw5]; exact heap_alloc_new w4 _
      have hs5 : w5.heap.size = w4.heap.size + 1 := by rw [hw5]; simp
      have hb5 := hb4.trans (Joins.below_le hb45 hb4.size)
      have HW5 := Lib.hid hw5
      have HX5 := Lib.hid hx5
      have HS5 := Lib.hid hs5
      have HS4 : Hid (w2.heap.size ≤ w4.heap.size) := Lib.hid hb4.size
      clear cS p0 p1 p2 p3 p4 hb4' hb3 hw5 hx5 hs5 hb45 hb4
      go_upto_region 7 with fail
      rw [← HW5.out]
      by_cases h6 : se = 6
      · subst h6
        have hE : E = 6 := by rw [HEc.out, if_pos rfl]
        have hD : D = ([], [], zR) := by rw [HDD.out]; unfold stepP; rw [if_pos (by rw [← HEE.out, hE]; simp)]
        have HD := Lib.hid hD
        have HE := Lib.hid hE
        clear hD hE
        have onp := Rec.Own.none pairR w5 w2.heap.size 24
        have onl := Rec.Own.none lastR w5 w2.heap.size 46
        obtain ⟨⟨r0, r1, r2, r3, r4, r5⟩, wf, hwf, ⟨g0, g1, g2⟩, hbf, hfar⟩ := HFIN.out w5 (0) (false) (⟨#[]⟩) hb5
        have hof := (Rec.Own.same onp (w' := wf) fun b h1 _ => hfar b (by have := HS2.out; omega)).base (show w.heap.size ≤ w2.heap.size by have := HS2.out; omega)
        have hol := (Rec.Own.same onl (w' := wf) fun b h1 _ => hfar b (by have := HS2.out; omega)).base (show w.heap.size ≤ w2.heap.size by have := HS2.out; omega)
        have HWF := Lib.hid hwf
        have HOF := Lib.hid hof
        have HOL := Lib.hid hol
        have HBF := Lib.hid hbf
        clear hwf hof hol hbf hfar
        go_wp2_with fail
        rw [← HWF.out]
        refine bodyPost_ret (v := .tuple #[.slice none 0 0, .slice none 0 0, .agg #[.int .u8 (0), .bool (false), .string (⟨#[]⟩)], .int .i64 6]) (by clear r0 r1 r2 r3 r4 r5; rw [results_ttct rfl]; go_simp; try rfl) rfl ?_
        rw [HD.out, HE.out]
        exact ⟨_, _, rfl, HOF.out, HOL.out, HBF.out⟩
      · have hE : E = 0 := by rw [HEc.out, if_neg h6]
        have HE := Lib.hid hE
        by_cases h0 : se = 0
        · subst h0
          have hD : D = (m, l, sr) := by rw [HDc.out hE, if_pos rfl]
          have HD := Lib.hid hD
          clear hD hE
          have hS : ∀ W, Below w5.heap.size w5 W → (W.cell? ⟨w4.heap.size, 0, none⟩ = some (.int .u8 sr.kind) ∧ W.cell? ⟨w4.heap.size, 1, none⟩ = some (.bool sr.found) ∧ W.cell? ⟨w4.heap.size, 2, none⟩ = some (.string sr.val)) := fun W hW => by
            have e := (hW.block _ (by have := HS5.out; omega)).trans HX5.out
            exact ⟨(blk_cells e).1 0, (blk_cells e).1 1, (blk_cells e).1 2⟩
          have hT : ∀ W, Below w5.heap.size w5 W → ((((W.setCell ⟨w.heap.size + 1, 0, none⟩ (.int .u8 sr.kind)).setCell ⟨w.heap.size + 1, 1, none⟩ (.bool sr.found)).setCell ⟨w.heap.size + 1, 2, none⟩ (.string sr.val)).cell? ⟨w4.heap.size, 0, none⟩ = some (.int .u8 sr.kind) ∧ (((W.setCell ⟨w.heap.size + 1, 0, none⟩ (.int .u8 sr.kind)).setCell ⟨w.heap.size + 1, 1, none⟩ (.bool sr.found)).setCell ⟨w.heap.size + 1, 2, none⟩ (.string sr.val)).cell? ⟨w4.heap.size, 1, none⟩ = some (.bool sr.found) ∧ (((W.setCell ⟨w.heap.size + 1, 0, none⟩ (.int .u8 sr.kind)).setCell ⟨w.heap.size + 1, 1, none⟩ (.bool sr.found)).setCell ⟨w.heap.size + 1, 2, none⟩ (.string sr.val)).cell? ⟨w4.heap.size, 2, none⟩ = some (.string sr.val)) := fun W hW => by
            have e := (set3_far (x := .int .u8 sr.kind) (y := .bool sr.found) (z := .string sr.val) (p := w.heap.size + 1) (by have := HS2.out; have := HS4.out; omega)).trans ((hW.block _ (by have := HS5.out; omega)).trans HX5.out)
            exact ⟨(blk_cells e).1 0, (blk_cells e).1 1, (blk_cells e).1 2⟩
          have hbr : ∀ W, Below w5.heap.size w5 W → Below w2.heap.size w2 W := fun W hW => hb5.trans (Joins.below_le hW hb5.size)
          obtain ⟨va1, wa1, va2, wa2, ra1, ra2, oa1, oa2, ba1, baa, ba2⟩ := two_apps1 (W := w5) (HN.out.grow hb5) (HN'.out.grow hb5) hm hl
          obtain ⟨vb1, wb1, vb2, wb2, rb1, rb2, ob1, ob2, bb1, bb2⟩ := two_apps2 (W := w5) (HN.out.grow hb5) (HN'.out.grow hb5) hm hl
          obtain ⟨vc1, wc1, vc2, wc2, rc1, rc2, oc1, oc2, bc1, bc2⟩ := two_apps3 (W := w5) (HN.out.grow hb5) (HN'.out.grow hb5) hm hl
          have k0 := hS w5.drew ((Below.refl _ _).drew)
          have k1 := hS (w5.alloc (.cells #[] 24)).drew (((Below.refl _ _).alloc (Nat.le_refl _) _).drew)
          have k2 := hS (w5.alloc (.cells #[] 46)).drew (((Below.refl _ _).alloc (Nat.le_refl _) _).drew)
          have k3 := hS ((w5.alloc (.cells #[] 24)).alloc (.cells #[] 46)).drew ((((Below.refl _ _).alloc (Nat.le_refl _) _).alloc (by simp) _).drew)
          have k4 := hS ((w5.alloc (.cells #[] 46)).alloc (.cells #[] 24)).drew ((((Below.refl _ _).alloc (Nat.le_refl _) _).alloc (by simp) _).drew)
          have k5 := hS wa1 ba1
          have k6 := hS (wa1.alloc (.cells #[] 46)) baa
          have k7 := hS wa2 ba2
          have k8 := hS wb1 bb1
          have k9 := hS wb2 bb2
          have k10 := hS wc1 bc1
          have k11 := hS wc2 bc2
          have j1 := hT wa2 ba2
          have j2 := hT wb2 bb2
          have j3 := hT wc2 bc2
          have da := HFIN.out wa2 sr.kind sr.found sr.val (hbr _ ba2)
          have db := HFIN.out wb2 sr.kind sr.found sr.val (hbr _ bb2)
          have dc := HFIN.out wc2 sr.kind sr.found sr.val (hbr _ bc2)
          obtain ⟨⟨ra3, ra4, ra5, ra6, ra7, ra8⟩, -⟩ := da
          obtain ⟨⟨rb3, rb4, rb5, rb6, rb7, rb8⟩, -⟩ := db
          obtain ⟨⟨rc3, rc4, rc5, rc6, rc7, rc8⟩, -⟩ := dc
          have RA1 := Lib.hid ra1
          have RA2 := Lib.hid ra2
          have RB1 := Lib.hid rb1
          have RB2 := Lib.hid rb2
          have RC1 := Lib.hid rc1
          have RC2 := Lib.hid rc2
          have OA1 := Lib.hid (oa1.base (show w2.heap.size ≤ w5.heap.size from hb5.size))
          have OA2 := Lib.hid (oa2.base (show w2.heap.size ≤ w5.heap.size from hb5.size))
          have OB1 := Lib.hid (ob1.base (show w2.heap.size ≤ w5.heap.size from hb5.size))
          have OB2 := Lib.hid (ob2.base (show w2.heap.size ≤ w5.heap.size from hb5.size))
          have OC1 := Lib.hid (oc1.base (show w2.heap.size ≤ w5.heap.size from hb5.size))
          have OC2 := Lib.hid (oc2.base (show w2.heap.size ≤ w5.heap.size from hb5.size))
          have BA := Lib.hid (hbr _ ba2)
          have BB := Lib.hid (hbr _ bb2)
          have BC := Lib.hid (hbr _ bc2)
          clear ra1 ra2 rb1 rb2 rc1 rc2 oa1 oa2 ob1 ob2 oc1 oc2 ba1 baa ba2 bb1 bb2 bc1 bc2 hS hT hbr
          go_upto_region 10 with fail
          go_region_held3 (fun W => (W.cell? ⟨w4.heap.size, 0, none⟩ = some (.int .u8 sr.kind) ∧ W.cell? ⟨w4.heap.size, 1, none⟩ = some (.bool sr.found) ∧ W.cell? ⟨w4.heap.size, 2, none⟩ = some (.string sr.val))) (first | with_reducible exact k0 | with_reducible exact k1 | with_reducible exact k2 | with_reducible exact k3 | with_reducible exact k4 | with_reducible exact k5 | with_reducible exact k6 | with_reducible exact k7 | with_reducible exact k8 | with_reducible exact k9 | with_reducible exact k10 | with_reducible exact k11 | with_reducible exact j1 | with_reducible exact j2 | with_reducible exact j3)
            (first
              | (refine stepApp rfl (.tmp 41) (.tmp 42) 25 rfl (.slice (some ⟨w5.heap.size, 0, none⟩) 0 0) (.slice A m.length cp) rfl rfl (by with_reducible exact RA1.out) ?_)
              | (refine stepApp rfl (.tmp 41) (.tmp 42) 25 rfl (.slice (some ⟨w5.heap.size, 0, none⟩) 0 0) (.slice A m.length cp) rfl rfl (by with_reducible exact RB1.out) ?_)
              | (refine stepApp rfl (.tmp 41) (.tmp 42) 25 rfl (.slice (some ⟨w5.heap.size + 1, 0, none⟩) 0 0) (.slice A m.length cp) rfl rfl (by with_reducible exact RC1.out) ?_)
              | (refine stepApp rfl (.tmp 44) (.tmp 45) 33 rfl (.slice (some ⟨wa1.heap.size, 0, none⟩) 0 0) (.slice A' l.length cp') rfl rfl (by with_reducible exact RA2.out) ?_)
              | (refine stepApp rfl (.tmp 44) (.tmp 45) 33 rfl (.slice (some ⟨w5.heap.size + 1, 0, none⟩) 0 0) (.slice A' l.length cp') rfl rfl (by with_reducible exact RB2.out) ?_)
              | (refine stepApp rfl (.tmp 44) (.tmp 45) 33 rfl (.slice (some ⟨w5.heap.size, 0, none⟩) 0 0) (.slice A' l.length cp') rfl rfl (by with_reducible exact RC2.out) ?_))
          clear k0 k1 k2 k3 k4 k5 k6 k7 k8 k9 k10 k11 j1 j2 j3
          all_goals
            clear ra3 ra4 ra5 ra6 ra7 ra8 rb3 rb4 rb5 rb6 rb7 rb8 rc3 rc4 rc5 rc6 rc7 rc8
            first
              | (obtain ⟨⟨r0, r1, r2, r3, r4, r5⟩, wf, hwf, ⟨g0, g1, g2⟩, hbf, hfar⟩ := HFIN.out wa2 (sr.kind) (sr.found) (sr.val) BA.out
                 have hof := (Rec.Own.same OA1.out (w' := wf) fun b h1 _ => hfar b (by have := HS2.out; omega)).base (show w.heap.size ≤ w2.heap.size by have := HS2.out; omega)
                 have hol := (Rec.Own.same OA2.out (w' := wf) fun b h1 _ => hfar b (by have := HS2.out; omega)).base (show w.heap.size ≤ w2.heap.size by have := HS2.out; omega)
                 have HWF := Lib.hid hwf
                 have HOF := Lib.hid hof
                 have HOL := Lib.hid hol
                 have HBF := Lib.hid hbf
                 clear hwf hof hol hbf hfar
                 go_wp2_with fail
                 rw [← HWF.out]
                 refine bodyPost_ret (v := .tuple #[va1, va2, .agg #[.int .u8 (sr.kind), .bool (sr.found), .string (sr.val)], .int .i64 0]) (by clear r0 r1 r2 r3 r4 r5; rw [results_ttct rfl]; go_simp; try rfl) rfl ?_
                 rw [HD.out, HE.out]
                 exact ⟨_, _, rfl, HOF.out, HOL.out, HBF.out⟩)
              | (obtain ⟨⟨r0, r1, r2, r3, r4, r5⟩, wf, hwf, ⟨g0, g1, g2⟩, hbf, hfar⟩ := HFIN.out wb2 (sr.kind) (sr.found) (sr.val) BB.out
                 have hof := (Rec.Own.same OB1.out (w' := wf) fun b h1 _ => hfar b (by have := HS2.out; omega)).base (show w.heap.size ≤ w2.heap.size by have := HS2.out; omega)
                 have hol := (Rec.Own.same OB2.out (w' := wf) fun b h1 _ => hfar b (by have := HS2.out; omega)).base (show w.heap.size ≤ w2.heap.size by have := HS2.out; omega)
                 have HWF := Lib.hid hwf
                 have HOF := Lib.hid hof
                 have HOL := Lib.hid hol
                 have HBF := Lib.hid hbf
                 clear hwf hof hol hbf hfar
                 go_wp2_with fail
                 rw [← HWF.out]
                 refine bodyPost_ret (v := .tuple #[vb1, vb2, .agg #[.int .u8 (sr.kind), .bool (sr.found), .string (sr.val)], .int .i64 0]) (by clear r0 r1 r2 r3 r4 r5; rw [results_ttct rfl]; go_simp; try rfl) rfl ?_
                 rw [HD.out, HE.out]
                 exact ⟨_, _, rfl, HOF.out, HOL.out, HBF.out⟩)
              | (obtain ⟨⟨r0, r1, r2, r3, r4, r5⟩, wf, hwf, ⟨g0, g1, g2⟩, hbf, hfar⟩ := HFIN.out wc2 (sr.kind) (sr.found) (sr.val) BC.out
                 have hof := (Rec.Own.same OC1.out (w' := wf) fun b h1 _ => hfar b (by have := HS2.out; omega)).base (show w.heap.size ≤ w2.heap.size by have := HS2.out; omega)
                 have hol := (Rec.Own.same OC2.out (w' := wf) fun b h1 _ => hfar b (by have := HS2.out; omega)).base (show w.heap.size ≤ w2.heap.size by have := HS2.out; omega)
                 have HWF := Lib.hid hwf
                 have HOF := Lib.hid hof
                 have HOL := Lib.hid hol
                 have HBF := Lib.hid hbf
                 clear hwf hof hol hbf hfar
                 go_wp2_with fail
                 rw [← HWF.out]
                 refine bodyPost_ret (v := .tuple #[vc1, vc2, .agg #[.int .u8 (sr.kind), .bool (sr.found), .string (sr.val)], .int .i64 0]) (by clear r0 r1 r2 r3 r4 r5; rw [results_ttct rfl]; go_simp; try rfl) rfl ?_
                 rw [HD.out, HE.out]
                 exact ⟨_, _, rfl, HOF.out, HOL.out, HBF.out⟩)
        · have hD : D = ((doP m o).1, noteP l ⟨c, i, (doP m o).2⟩, (doP m o).2) := by rw [HDc.out hE, if_neg h0]
          have HD := Lib.hid hD
          clear hD hE
          have cD := rdo_any m o _ w5 (HN.out.grow hb5) hm ⟨hk0, hk1⟩
          have hdo : doE m o = doP m o := by unfold doE; rw [if_neg her0]
          rw [hdo, show o.err = 0 from HER.out.symm] at cD
          obtain ⟨dl, dr, hdd⟩ : ∃ dl dr, doP m o = (dl, dr) := ⟨_, _, rfl⟩
          rw [hdd] at cD
          have HDD2 := Lib.hid hdd
          unfold PO.agg PR.agg at cD
          obtain ⟨p0, p1, p2, p3, p4⟩ := HPF.out w5 hb5
          clear hdo hdd her0
          go_wp2_with fail
          refine cD.mono ?_
          rintro e w6 ⟨v6, rfl, ho6, hb6⟩
          have x6 := (hb6.block _ (by have := HS5.out; omega)).trans HX5.out
          obtain ⟨r0, r1, r2⟩ : (w6.cell? ⟨w4.heap.size, 0, none⟩ = some (.int .u8 sr.kind) ∧ w6.cell? ⟨w4.heap.size, 1, none⟩ = some (.bool sr.found) ∧ w6.cell? ⟨w4.heap.size, 2, none⟩ = some (.string sr.val)) := ⟨(blk_cells x6).1 0, (blk_cells x6).1 1, (blk_cells x6).1 2⟩
          obtain ⟨r3, r4, r5⟩ : w6.frozen? ⟨w4.heap.size, 0, none⟩ = false ∧ w6.frozen? ⟨w4.heap.size, 1, none⟩ = false ∧ w6.frozen? ⟨w4.heap.size, 2, none⟩ = false := ⟨(blk_cells x6).2 0, (blk_cells x6).2 1, (blk_cells x6).2 2⟩
          obtain ⟨w7, hw7⟩ : ∃ w7, w7 = (((w6.setCell ⟨w4.heap.size, 0, none⟩ (.int .u8 dr.kind)).setCell ⟨w4.heap.size, 1, none⟩ (.bool dr.found)).setCell ⟨w4.heap.size, 2, none⟩ (.string dr.val)) := ⟨_, rfl⟩
          have e7 := set3_at (x := .int .u8 dr.kind) (y := .bool dr.found) (z := .string dr.val) x6
          rw [← hw7] at e7
          have hbb6 := hb5.trans (Joins.below_le hb6 hb5.size)
          have hb7 : Below w2.heap.size w2 w7 := by rw [hw7]; exact set3_below hbb6 HS4.out
          have hs7 : w7.heap.size = w6.heap.size := by rw [hw7]; simp [World.setCell]
          have ho7 := (Rec.Own.same ho6 (w' := w7) fun b h1 _ => by rw [hw7]; exact set3_far (by have := HS5.out; omega)).base (show w2.heap.size ≤ w5.heap.size from hb5.size)
          have hzlt : w4.heap.size < w7.heap.size := (Array.getElem?_eq_some_iff.1 e7).1
          have hS : ∀ W, Below w7.heap.size w7 W → (W.cell? ⟨w4.heap.size, 0, none⟩ = some (.int .u8 dr.kind) ∧ W.cell? ⟨w4.heap.size, 1, none⟩ = some (.bool dr.found) ∧ W.cell? ⟨w4.heap.size, 2, none⟩ = some (.string dr.val)) := fun W hW => by
            have e := (hW.block _ hzlt).trans e7
            exact ⟨(blk_cells e).1 0, (blk_cells e).1 1, (blk_cells e).1 2⟩
          have hT : ∀ W, Below w7.heap.size w7 W → ((((W.setCell ⟨w.heap.size + 1, 0, none⟩ (.int .u8 dr.kind)).setCell ⟨w.heap.size + 1, 1, none⟩ (.bool dr.found)).setCell ⟨w.heap.size + 1, 2, none⟩ (.string dr.val)).cell? ⟨w4.heap.size, 0, none⟩ = some (.int .u8 dr.kind) ∧ (((W.setCell ⟨w.heap.size + 1, 0, none⟩ (.int .u8 dr.kind)).setCell ⟨w.heap.size + 1, 1, none⟩ (.bool dr.found)).setCell ⟨w.heap.size + 1, 2, none⟩ (.string dr.val)).cell? ⟨w4.heap.size, 1, none⟩ = some (.bool dr.found) ∧ (((W.setCell ⟨w.heap.size + 1, 0, none⟩ (.int .u8 dr.kind)).setCell ⟨w.heap.size + 1, 1, none⟩ (.bool dr.found)).setCell ⟨w.heap.size + 1, 2, none⟩ (.string dr.val)).cell? ⟨w4.heap.size, 2, none⟩ = some (.string dr.val)) := fun W hW => by
            have e := (set3_far (x := .int .u8 dr.kind) (y := .bool dr.found) (z := .string dr.val) (p := w.heap.size + 1) (by have := HS2.out; have := HS4.out; omega)).trans ((hW.block _ hzlt).trans e7)
            exact ⟨(blk_cells e).1 0, (blk_cells e).1 1, (blk_cells e).1 2⟩
          have hbr : ∀ W, Below w7.heap.size w7 W → Below w2.heap.size w2 W := fun W hW => hb7.trans (Joins.below_le hW hb7.size)
          have hnote : ∀ W, Below w7.heap.size w7 W → Calls Try.prog 25 #[.slice A' l.length cp', .agg #[.int .i64 c, .int .i64 i, .int .u8 dr.kind, .bool dr.found, .string dr.val]] W fun e w' => ∃ v', e = .returned v' ∧ lastR.Own w' W.heap.size 46 v' (noteP l ⟨c, i, dr⟩) ∧ Below W.heap.size W w' := fun W hW => rnote_any l ⟨c, i, dr⟩ _ W (HN'.out.grow (hbr W hW)) hl
          have HS := Lib.hid hS
          have HT := Lib.hid hT
          have HBR := Lib.hid hbr
          have HNOTE := Lib.hid hnote
          have HO7 := Lib.hid ho7
          have HW7 := Lib.hid hw7
          have HB7 : Hid (w2.heap.size ≤ w7.heap.size) := Lib.hid hb7.size
          clear cD x6 e7 hbb6 hb7 hs7 ho7 hzlt hS hT hbr hnote ho6 hb6 hw7 p0 p1 p2 p3 p4
          go_upto_region 12 with fail
          rw [← HW7.out]
          clear r0 r1 r2 r3 r4 r5
          have hbe : Below w7.heap.size w7 w7.drew := (Below.refl _ _).drew
          have hst := HS.out _ hbe
          go_region_held3 (fun W => (W.cell? ⟨w4.heap.size, 0, none⟩ = some (.int .u8 dr.kind) ∧ W.cell? ⟨w4.heap.size, 1, none⟩ = some (.bool dr.found) ∧ W.cell? ⟨w4.heap.size, 2, none⟩ = some (.string dr.val))) (first | with_reducible exact hst | with_reducible exact HS.out _ hbe | with_reducible exact HT.out _ hbe)
            (first
              | (go_at_call 25; refine (HNOTE.out _ hbe).mono ?_; rintro e wy ⟨vn, rfl, hon, hby⟩; replace hbe := hbe.trans (Joins.below_le hby hbe.size); have HON := Lib.hid (hon.base (Nat.le_trans HB7.out (by first | exact Nat.le_refl _ | (simp; done) | exact Nat.le_refl w7.heap.size))); obtain ⟨⟨q0, q1, q2, q3, q4, q5⟩, -⟩ := HFIN.out wy dr.kind dr.found dr.val (HBR.out _ hbe); clear hon hby))
          clear hst q0 q1 q2 q3 q4 q5
          have ho8 := Rec.Own.below HO7.out hbe
          have hb8 := HBR.out _ hbe
          have WY := Lib.hid hbe
          clear hbe
          obtain ⟨⟨r0, r1, r2, r3, r4, r5⟩, wf, hwf, ⟨g0, g1, g2⟩, hbf, hfar⟩ := HFIN.out wy (dr.kind) (dr.found) (dr.val) hb8
          have hof := (Rec.Own.same ho8 (w' := wf) fun b h1 _ => hfar b (by have := HS2.out; omega)).base (show w.heap.size ≤ w2.heap.size by have := HS2.out; omega)
          have hol := (Rec.Own.same HON.out (w' := wf) fun b h1 _ => hfar b (by have := HS2.out; omega)).base (show w.heap.size ≤ w2.heap.size by have := HS2.out; omega)
          have HWF := Lib.hid hwf
          have HOF := Lib.hid hof
          have HOL := Lib.hid hol
          have HBF := Lib.hid hbf
          clear hwf hof hol hbf hfar
          go_wp2_with fail
          rw [← HWF.out]
          refine bodyPost_ret (v := .tuple #[v6, vn, .agg #[.int .u8 (dr.kind), .bool (dr.found), .string (dr.val)], .int .i64 0]) (by clear r0 r1 r2 r3 r4 r5; rw [results_ttct rfl]; go_simp; try rfl) rfl ?_
          rw [HD.out, HE.out, HDD2.out]
          exact ⟨_, _, rfl, HOF.out, HOL.out, HBF.out⟩
  · have hE : E = er := by rw [HEE.out]; unfold stepErr; rw [if_pos (by rw [← HER.out]; exact he), HER.out]
    have hD : D = ([], [], zR) := by rw [HDD.out]; unfold stepP; rw [if_pos (by rw [← HEE.out, hE]; exact he)]
    have HD := Lib.hid hD
    have HE := Lib.hid hE
    clear hD hE
    have onp := Rec.Own.none pairR w3 w2.heap.size 24
    have onl := Rec.Own.none lastR w3 w2.heap.size 46
    obtain ⟨⟨r0, r1, r2, r3, r4, r5⟩, wf, hwf, ⟨g0, g1, g2⟩, hbf, hfar⟩ := HFIN.out w3 (0) (false) (⟨#[]⟩) hb3
    have hof := (Rec.Own.same onp (w' := wf) fun b h1 _ => hfar b (by have := HS2.out; omega)).base (show w.heap.size ≤ w2.heap.size by have := HS2.out; omega)
    have hol := (Rec.Own.same onl (w' := wf) fun b h1 _ => hfar b (by have := HS2.out; omega)).base (show w.heap.size ≤ w2.heap.size by have := HS2.out; omega)
    have HWF := Lib.hid hwf
    have HOF := Lib.hid hof
    have HOL := Lib.hid hol
    have HBF := Lib.hid hbf
    clear hwf hof hol hbf hfar
    go_wp2_with fail
    rw [← HWF.out]
    refine bodyPost_ret (v := .tuple #[.slice none 0 0, .slice none 0 0, .agg #[.int .u8 (0), .bool (false), .string (⟨#[]⟩)], .int .i64 er]) (by clear r0 r1 r2 r3 r4 r5; rw [results_ttct rfl]; go_simp; try rfl) rfl ?_
    rw [HD.out, HE.out]
    exact ⟨_, _, rfl, HOF.out, HOL.out, HBF.out⟩
end Go.Proofs.Ytlgjidoehnhnoaa
