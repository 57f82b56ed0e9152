/-
  The program's Step; the contracts of the program's seven functions stand here together. No statement is proved here. No condition.
-/
import Derived.Test.YtlgjidoehnhnoaaEDoP
import Derived.Test.YtlgjidoehnhnoaaESeenP
import Derived.Test.YtlgjidoehnhnoaaEStep
namespace Go.Proofs.Ytlgjidoehnhnoaa
open Go.RowKit

theorem werr_zero {o : PO} (h : o.werr = 0) : o.err = 0 ∧ o.kind ≠ 1 := by
  unfold PO.werr at h
  by_cases he : o.err ≠ 0
  · rw [if_pos he] at h
    exact absurd h he
  · rw [if_neg he] at h
    refine ⟨Decidable.not_not.1 he, fun hk => ?_⟩
    rw [if_pos hk] at h
    exact absurd h (by decide)
theorem stepErr_werr {o : PO} (l : List PL) (c i : Int) (h : o.werr ≠ 0) : stepErr l c i o = o.werr := by
  unfold stepErr PO.werr at *
  by_cases he : o.err ≠ 0
  · rw [if_pos he, if_pos he]
  · rw [if_neg he] at h ⊢
    rw [if_neg he]
    by_cases hk : o.kind = 1
    · rw [if_pos hk, if_pos hk]
    · rw [if_neg hk] at h
      exact absurd rfl h
set_option maxHeartbeats 8000000 in
set_option maxRecDepth 100000 in
theorem pstep_any (m : List PP) (l : List PL) (c i : Int) (o : PO) (v u : Value) (w : World) (h : pairR.N w Any v m) (h' : lastR.N w Any u l) (hm : m.length ≤ 4398046511000) (hl : l.length ≤ 3518437208880) (hk : 0 ≤ o.kind ∧ o.kind ≤ 255) :
    Calls Try.prog 12 #[v, u, .int .i64 c, .int .i64 i, o.agg] w fun e w' => ∃ va vb, e = .returned (.tuple #[va, vb, (stepP m l c i o).2.2.agg, .int .i64 (stepErr l c i o)]) ∧ pairR.Own w' w.heap.size 24 va (stepP m l c i o).1 ∧ lastR.Own w' w.heap.size 46 vb (stepP m l c i o).2.1 ∧ Below w.heap.size w w' := by
  obtain ⟨A, cp, rfl, hlc, hcm⟩ := h.slice
  obtain ⟨A', cp', rfl, hlc', hcm'⟩ := h'.slice
  obtain ⟨w1, hw1⟩ : ∃ w1, w1 = w.alloc (.cells #[.int .u8 o.kind, .string o.key, .string o.val, .string o.old, .bool o.had] 32) := ⟨_, rfl⟩
  have hb1 : Below w.heap.size w w1 := by rw [hw1]; exact (Below.refl _ _).alloc (Nat.le_refl _) _
  have hx1 : w1.heap[w.heap.size]? = some (.cells #[.int .u8 o.kind, .string o.key, .string o.val, .string o.old, .bool o.had] 32 (0, 0)) := by rw [hw1]; exact heap_alloc_new w _
  have hs1 : w1.heap.size = w.heap.size + 1 := by rw [hw1]; simp
  obtain ⟨w2, hw2⟩ : ∃ w2, w2 = w1.alloc (.cells #[.int .u8 0, .bool false, .string ⟨#[]⟩] 27) := ⟨_, rfl⟩
  have hb2 : Below w1.heap.size w1 w2 := by rw [hw2]; exact (Below.refl _ _).alloc (Nat.le_refl _) _
  have hx2 := (hb2.block _ (by omega)).trans hx1
  have hy2 : w2.heap[w.heap.size + 1]? = some (.cells #[.int .u8 0, .bool false, .string ⟨#[]⟩] 27 (0, 0)) := by rw [hw2, ← hs1]; exact heap_alloc_new w1 _
  have hs2 : w2.heap.size = w.heap.size + 2 := by rw [hw2]; simp [hs1]
  have hbw : Below w.heap.size w w2 := hb1.trans (Joins.below_le hb2 (by omega))
  have hz := zero_res
  have hzl : ∀ W, (zeroValue 46).run Try.prog W = .ok (.agg #[.int .i64 0, .int .i64 0, .int .u8 0, .bool false, .string ⟨#[]⟩]) W := fun W => by kernel_rfl
  have hfin : ∀ (W : World) (a : Int) (b : Bool) (s : ByteArray), Below w2.heap.size w2 W →
      (W.cell? ⟨w.heap.size + 1, 0, none⟩ = some (.int .u8 0) ∧ W.cell? ⟨w.heap.size + 1, 1, none⟩ = some (.bool false) ∧ W.cell? ⟨w.heap.size + 1, 2, none⟩ = some (.string ⟨#[]⟩) ∧ W.frozen? ⟨w.heap.size + 1, 0, none⟩ = false ∧ W.frozen? ⟨w.heap.size + 1, 1, none⟩ = false ∧ W.frozen? ⟨w.heap.size + 1, 2, none⟩ = false) ∧
      ∃ wf, wf = ((W.setCell ⟨w.heap.size + 1, 0, none⟩ (.int .u8 a)).setCell ⟨w.heap.size + 1, 1, none⟩ (.bool b)).setCell ⟨w.heap.size + 1, 2, none⟩ (.string s) ∧
        (wf.cell? ⟨w.heap.size + 1, 0, none⟩ = some (.int .u8 a) ∧ wf.cell? ⟨w.heap.size + 1, 1, none⟩ = some (.bool b) ∧ wf.cell? ⟨w.heap.size + 1, 2, none⟩ = some (.string s)) ∧ Below w.heap.size w wf ∧ (∀ b, b ≠ w.heap.size + 1 → wf.heap[b]? = W.heap[b]?) := fun W a b s hW => by
    have e := (hW.block _ (by omega)).trans hy2
    have e2 := set3_at (x := .int .u8 a) (y := .bool b) (z := .string s) e
    exact ⟨⟨(blk_cells e).1 0, (blk_cells e).1 1, (blk_cells e).1 2, (blk_cells e).2 0, (blk_cells e).2 1, (blk_cells e).2 2⟩, _, rfl, ⟨(blk_cells e2).1 0, (blk_cells e2).1 1, (blk_cells e2).1 2⟩, set3_below (hbw.trans (Joins.below_le hW (by omega))) (by omega), fun b hb => set3_far hb⟩
  have cC := pcheckw_any o w2 hk
  obtain ⟨er, her⟩ : ∃ er, er = o.werr := ⟨_, rfl⟩
  rw [← her] at cC
  obtain ⟨D, hDD⟩ : ∃ D, D = stepP m l c i o := ⟨_, rfl⟩
  obtain ⟨E, hEE⟩ : ∃ E, E = stepErr l c i o := ⟨_, rfl⟩
  rw [← hDD, ← hEE]
  have HDD := Lib.hid hDD
  have HEE := Lib.hid hEE
  have HER := Lib.hid her
  have HN := Lib.hid (h.grow hbw)
  have HN' := Lib.hid (h'.grow hbw)
  have HFIN := Lib.hid hfin
  have HX2 := Lib.hid hx2
  have HS2 := Lib.hid hs2
  have HW1 := Lib.hid hw1
  have HW2 := Lib.hid hw2
  have hpf : ∀ W, Below w2.heap.size w2 W → W.cell? ⟨w.heap.size, 0, none⟩ = some (.int .u8 o.kind) ∧ W.cell? ⟨w.heap.size, 1, none⟩ = some (.string o.key) ∧ W.cell? ⟨w.heap.size, 2, none⟩ = some (.string o.val) ∧ W.cell? ⟨w.heap.size, 3, none⟩ = some (.string o.old) ∧ W.cell? ⟨w.heap.size, 4, none⟩ = some (.bool o.had) := fun W hW => by
    have e := (hW.block _ (by omega)).trans hx2
    exact ⟨(blk_cells e).1 0, (blk_cells e).1 1, (blk_cells e).1 2, (blk_cells e).1 3, (blk_cells e).1 4⟩
  have HPF := Lib.hid hpf
  obtain ⟨p0, p1, p2, p3, p4⟩ := hpf w2 (Below.refl _ _)
  unfold maxLen at hcm hcm'
  have hk' := hk
  obtain ⟨hk0, hk1⟩ := hk
  clear h h' hw1 hw2 hb1 hb2 hx1 hx2 hy2 hs1 hs2 hbw hfin her hpf hDD hEE
  unfold PO.agg at cC ⊢
  go_enter Try.func12, Try.ntmps12
  go_upto_region 1 with fail
  rw [← HW1.out, ← HW2.out]
  go_wp2_with fail
  refine cC.mono ?_
  rintro e w3 ⟨rfl, hb3⟩
  clear cC p0 p1 p2 p3 p4
  by_cases he : er = 0
  · subst he
    obtain ⟨her0, h1⟩ := werr_zero HER.out.symm
    obtain ⟨p0, p1, p2, p3, p4⟩ := HPF.out w3 hb3
    have cS := pseen_any l c i _ w3 (HN'.out.grow hb3)
    obtain ⟨sn, hsn⟩ : ∃ sn, sn = seenP l c i := ⟨_, rfl⟩
    rw [← hsn] at cS
    obtain ⟨sr, se⟩ := sn
    have hE : E = if se = 6 then 6 else 0 := by rw [HEE.out]; unfold stepErr; rw [if_neg (fun h => h her0), if_neg h1, ← hsn]
    have hDc : E = 0 → D = if se = 0 then (m, l, sr) else ((doP m o).1, noteP l ⟨c, i, (doP m o).2⟩, (doP m o).2) := fun hE0 => by rw [HDD.out]; unfold stepP; rw [if_neg (by rw [← HEE.out, hE0]; simp), ← hsn]
    have HEc := Lib.hid hE
    have HDc := Lib.hid hDc
    clear hE hDc hsn
    unfold PR.agg at cS
    go_wp2_with fail
    refine cS.mono ?_
    rintro e w4 ⟨rfl, hb4'⟩
    have hb4 := hb3.trans (Joins.below_le hb4' hb3.size)
    obtain ⟨w5, hw5⟩ : ∃ w5, w5 = w4.alloc (.cells #[.int .u8 sr.kind, .bool sr.found, .string sr.val] 27) := ⟨_, rfl⟩
    have hb45 : Below w4.heap.size w4 w5 := by rw [hw5]; exact (Below.refl _ _).alloc (Nat.le_refl _) _
    have hx5 : w5.heap[w4.heap.size]? = some (.cells #[.int .u8 sr.kind, .bool sr.found, .string sr.val] 27 (0, 0)) := by rw [hw5]; exact heap_alloc_new w4 _
    have hs5 : w5.heap.size = w4.heap.size + 1 := by rw [hw5]; simp
    have hb5 := hb4.trans (Joins.below_le hb45 hb4.size)
    have hb5s : w2.heap.size ≤ w5.heap.size := hb5.size
    have HW5 := Lib.hid hw5
    have HX5 := Lib.hid hx5
    have HS5 := Lib.hid hs5
    have HS4 : Hid (w2.heap.size ≤ w4.heap.size) := Lib.hid hb4.size
    clear cS p0 p1 p2 p3 p4 hb4' hb3 hw5 hx5 hs5 hb45 hb4
    go_upto_region 5 with fail
    rw [← HW5.out]
    by_cases h0 : se = 0
    · subst h0
      have hE : E = 0 := by rw [HEc.out, if_neg (by decide)]
      have hD : D = (m, l, sr) := by rw [HDc.out hE, if_pos rfl]
      have HD := Lib.hid hD
      have HE := Lib.hid hE
      clear hD hE
      have hst : (fun w' : World => w'.cell? ⟨w4.heap.size, 0, none⟩ = some (.int .u8 sr.kind) ∧ w'.cell? ⟨w4.heap.size, 1, none⟩ = some (.bool sr.found) ∧ w'.cell? ⟨w4.heap.size, 2, none⟩ = some (.string sr.val)) w5 := ⟨(blk_cells HX5.out).1 0, (blk_cells HX5.out).1 1, (blk_cells HX5.out).1 2⟩
      go_upto_region 7 with fail
      refine wp_region_held_drew (S := (fun w' : World => w'.cell? ⟨w4.heap.size, 0, none⟩ = some (.int .u8 sr.kind) ∧ w'.cell? ⟨w4.heap.size, 1, none⟩ = some (.bool sr.found) ∧ w'.cell? ⟨w4.heap.size, 2, none⟩ = some (.string sr.val))) (by kernel_rfl) hst (fun hHeld => ?_)
      refine takeD (i := 0) (d := 33) (v := .slice A m.length cp) rfl rfl (by kernel_rfl) (by kernel_rfl) (by kernel_rfl) (fun _ _ _ h => h) (.inl ⟨by rfl, fun w hSw => by dsimp only at hSw; go_simp; try with_reducible rfl⟩) (by assumption) ?_
      simp only [Act.put, List.setIfInBounds_toArray, List.set_cons_zero, List.set_cons_succ]
      refine takeD (i := 2) (d := 35) (v := .slice A' l.length cp') rfl rfl (by kernel_rfl) (by kernel_rfl) (by kernel_rfl) (fun _ _ _ h => h) (.inl ⟨by rfl, fun w hSw => by dsimp only at hSw; go_simp; try with_reducible rfl⟩) (by assumption) ?_
      simp only [Act.put, List.setIfInBounds_toArray, List.set_cons_zero, List.set_cons_succ]
      refine takeD (i := 4) (d := 37) (v := .agg #[.int .u8 sr.kind, .bool sr.found, .string sr.val]) rfl rfl (by kernel_rfl) (by kernel_rfl) (by kernel_rfl) (fun _ _ _ h => h) (.inl ⟨by rfl, fun w hSw => by dsimp only at hSw; go_simp; try with_reducible rfl⟩) (by assumption) ?_
      simp only [Act.put, List.setIfInBounds_toArray, List.set_cons_zero, List.set_cons_succ]
      refine wpAnyH_ready (rs := [1]) (by kernel_rfl) (by simp) ?_
      refine AllReadyH.cons rfl (fun K hK => ?_) AllReadyH.nil
      have cX := clonePair_any m _ w5.drew (HN.out.grow hb5.drew) hm
      rw [if_pos (by rfl)]
      go_simp
      go_at_call 28
      refine cX.mono ?_
      rintro e w6 ⟨v6, rfl, ho6, hb6⟩
      have hx6 := (hb6.block w4.heap.size (by show _ < w5.heap.size; have := HS5.out; omega)).trans HX5.out
      have hst6 : (fun w' : World => w'.cell? ⟨w4.heap.size, 0, none⟩ = some (.int .u8 sr.kind) ∧ w'.cell? ⟨w4.heap.size, 1, none⟩ = some (.bool sr.found) ∧ w'.cell? ⟨w4.heap.size, 2, none⟩ = some (.string sr.val)) w6 := ⟨(blk_cells hx6).1 0, (blk_cells hx6).1 1, (blk_cells hx6).1 2⟩
      have hb26 : Below w2.heap.size w2 w6 := hb5.drew.trans (Joins.below_le hb6 hb5s)
      have cY := cloneLast_any l _ w6 (HN'.out.grow hb26) hl
      clear cX
      dsimp only
      refine hK.out _ _ hst6 (fun hHeld6 => ?_)
      try simp only [Act.put, List.setIfInBounds_toArray, List.set_cons_zero, List.set_cons_succ]
      refine wpAnyH_ready (rs := [3]) (by kernel_rfl) (by simp) ?_
      refine AllReadyH.cons rfl (fun K2 hK2 => ?_) AllReadyH.nil
      rw [if_pos (by rfl)]
      go_simp
      go_at_call 36
      refine cY.mono ?_
      rintro e w7 ⟨v7, rfl, ho7, hb7⟩
      have hx7 := (hb7.block w4.heap.size (by have := (Array.getElem?_eq_some_iff.1 hx6).1; exact this)).trans hx6
      have hst7 : (fun w' : World => w'.cell? ⟨w4.heap.size, 0, none⟩ = some (.int .u8 sr.kind) ∧ w'.cell? ⟨w4.heap.size, 1, none⟩ = some (.bool sr.found) ∧ w'.cell? ⟨w4.heap.size, 2, none⟩ = some (.string sr.val)) w7 := ⟨(blk_cells hx7).1 0, (blk_cells hx7).1 1, (blk_cells hx7).1 2⟩
      have hb27 : Below w2.heap.size w2 w7 := hb26.trans (Joins.below_le hb7 hb26.size)
      clear cY
      dsimp only
      refine hK2.out _ _ hst7 (fun hHeld7 => ?_)
      try simp only [Act.put, List.setIfInBounds_toArray, List.set_cons_zero, List.set_cons_succ]
      refine takeD (i := 5) (d := 10) (v := v6) rfl rfl (by kernel_rfl) (by kernel_rfl) (by kernel_rfl) (fun _ _ _ h => h) (.inl ⟨by rfl, fun w hSw => by dsimp only at hSw; go_simp; try with_reducible rfl⟩) (by assumption) ?_
      simp only [Act.put, List.setIfInBounds_toArray, List.set_cons_zero, List.set_cons_succ]
      refine takeD (i := 6) (d := 11) (v := v7) rfl rfl (by kernel_rfl) (by kernel_rfl) (by kernel_rfl) (fun _ _ _ h => h) (.inl ⟨by rfl, fun w hSw => by dsimp only at hSw; go_simp; try with_reducible rfl⟩) (by assumption) ?_
      simp only [Act.put, List.setIfInBounds_toArray, List.set_cons_zero, List.set_cons_succ]
      refine wpAnyH_ready (rs := [7]) (by kernel_rfl) (by simp) ?_
      refine AllReadyH.cons rfl (fun K3 hK3 => ?_) AllReadyH.nil
      rw [if_pos (by rfl)]
      obtain ⟨⟨r0, r1, r2, r3, r4, r5⟩, wf, hwf, ⟨g0, g1, g2⟩, hbf, hfar⟩ := HFIN.out w7 (sr.kind) (sr.found) (sr.val) hb27
      have hof := (Rec.Own.same ((ho6.below hb7).base hb5s) (w' := wf) fun b h1 _ => hfar b (by have := HS2.out; omega)).base (show w.heap.size ≤ w2.heap.size by have := HS2.out; omega)
      have hol := (Rec.Own.same (ho7.base (Nat.le_trans hb5s hb6.size)) (w' := wf) fun b h1 _ => hfar b (by have := HS2.out; omega)).base (show w.heap.size ≤ w2.heap.size by have := HS2.out; omega)
      have HWF := Lib.hid hwf
      have HOF := Lib.hid hof
      have HOL := Lib.hid hol
      have HBF := Lib.hid hbf
      clear hof hol hbf 
      have hstf : (fun w' : World => w'.cell? ⟨w4.heap.size, 0, none⟩ = some (.int .u8 sr.kind) ∧ w'.cell? ⟨w4.heap.size, 1, none⟩ = some (.bool sr.found) ∧ w'.cell? ⟨w4.heap.size, 2, none⟩ = some (.string sr.val)) wf := by
        have e := (hfar w4.heap.size (by have := HS2.out; have := HS4.out; omega)).trans hx7
        exact ⟨(blk_cells e).1 0, (blk_cells e).1 1, (blk_cells e).1 2⟩
      clear hwf hfar hx7 hst6 hx6 hst7 ho6 ho7 hb6 hb7 hb26 hb27
      go_simp
      rw [← HWF.out]
      refine hK3.out _ _ hstf (fun hHeld8 => ?_)
      try simp only [Act.put, List.setIfInBounds_toArray, List.set_cons_zero, List.set_cons_succ]
      refine takeD (i := 8) (d := 13) (v := .int .i64 0) rfl rfl (by kernel_rfl) (by kernel_rfl) (by kernel_rfl) (fun _ _ _ h => h) (.inl ⟨by rfl, fun w hSw => by dsimp only at hSw; go_simp; try with_reducible rfl⟩) (by assumption) ?_
      simp only [Act.put, List.setIfInBounds_toArray, List.set_cons_zero, List.set_cons_succ]
      refine wpAnyH_done (by kernel_rfl) ?_ _
      clear hstf
      go_wp2_with fail
      refine bodyPost_ret (v := .tuple #[v6, v7, .agg #[.int .u8 (sr.kind), .bool (sr.found), .string (sr.val)], .int .i64 (0)]) (by clear r0 r1 r2 r3 r4 r5; rw [results_ttct rfl]; go_simp; try rfl) rfl ?_
      rw [HD.out, HE.out]
      exact ⟨_, _, rfl, HOF.out, HOL.out, HBF.out⟩
    · by_cases h6 : se = 6
      · subst h6
        have hE : E = 6 := by rw [HEc.out, if_pos rfl]
        have hD : D = ([], [], zR) := by rw [HDD.out]; unfold stepP; rw [if_pos (by rw [← HEE.out, hE]; simp)]
        have HD := Lib.hid hD
        have HE := Lib.hid hE
        clear hD hE
        obtain ⟨⟨r0, r1, r2, r3, r4, r5⟩, wf, hwf, ⟨g0, g1, g2⟩, hbf, hfar⟩ := HFIN.out w5 (0) (false) (⟨#[]⟩) hb5
        have hof := (Rec.Own.same (Rec.Own.none pairR w5 w2.heap.size 24) (w' := wf) fun b h1 _ => hfar b (by have := HS2.out; omega)).base (show w.heap.size ≤ w2.heap.size by have := HS2.out; omega)
        have hol := (Rec.Own.same (Rec.Own.none lastR w5 w2.heap.size 46) (w' := wf) fun b h1 _ => hfar b (by have := HS2.out; omega)).base (show w.heap.size ≤ w2.heap.size by have := HS2.out; omega)
        have HWF := Lib.hid hwf
        have HOF := Lib.hid hof
        have HOL := Lib.hid hol
        have HBF := Lib.hid hbf
        clear hof hol hbf 
        clear hwf hfar
        go_wp2_with fail
        rw [← HWF.out]
        refine bodyPost_ret (v := .tuple #[.slice none 0 0, .slice none 0 0, .agg #[.int .u8 (0), .bool (false), .string (⟨#[]⟩)], .int .i64 (6)]) (by clear r0 r1 r2 r3 r4 r5; rw [results_ttct rfl]; go_simp; try rfl) rfl ?_
        rw [HD.out, HE.out]
        exact ⟨_, _, rfl, HOF.out, HOL.out, HBF.out⟩
      · have hE : E = 0 := by rw [HEc.out, if_neg h6]
        have hD : D = ((doP m o).1, noteP l ⟨c, i, (doP m o).2⟩, (doP m o).2) := by rw [HDc.out hE, if_neg h0]
        have hde : doE m o = doP m o := by unfold doE; rw [if_neg (fun h => h her0)]
        have cD := pdo_any m o _ w5 (HN.out.grow hb5) hm hk'
        rw [hde, her0] at cD
        obtain ⟨⟨dl, dr⟩, hdp⟩ : ∃ d, d = doP m o := ⟨_, rfl⟩
        rw [← hdp] at cD hD
        obtain ⟨p0, p1, p2, p3, p4⟩ := HPF.out w5 hb5
        have HD := Lib.hid hD
        have HE := Lib.hid hE
        unfold PR.agg PO.agg at cD
        clear hD hE hde hdp her0
        go_wp2_with fail
        refine cD.mono ?_
        rintro e w6 ⟨v6, rfl, ho6, hb6'⟩
        have hb6 := hb5.trans (Joins.below_le hb6' hb5s)
        have hx6 := (hb6'.block w4.heap.size (by have := HS5.out; omega)).trans HX5.out
        obtain ⟨q0, q1, q2, q3, q4, q5⟩ : w6.cell? ⟨w4.heap.size, 0, none⟩ = some (.int .u8 sr.kind) ∧ w6.cell? ⟨w4.heap.size, 1, none⟩ = some (.bool sr.found) ∧ w6.cell? ⟨w4.heap.size, 2, none⟩ = some (.string sr.val) ∧ w6.frozen? ⟨w4.heap.size, 0, none⟩ = false ∧ w6.frozen? ⟨w4.heap.size, 1, none⟩ = false ∧ w6.frozen? ⟨w4.heap.size, 2, none⟩ = false := ⟨(blk_cells hx6).1 0, (blk_cells hx6).1 1, (blk_cells hx6).1 2, (blk_cells hx6).2 0, (blk_cells hx6).2 1, (blk_cells hx6).2 2⟩
        obtain ⟨w7, hw7⟩ : ∃ w7, w7 = ((w6.setCell ⟨w4.heap.size, 0, none⟩ (.int .u8 dr.kind)).setCell ⟨w4.heap.size, 1, none⟩ (.bool dr.found)).setCell ⟨w4.heap.size, 2, none⟩ (.string dr.val) := ⟨_, rfl⟩
        have hx7 : w7.heap[w4.heap.size]? = some (.cells #[.int .u8 dr.kind, .bool dr.found, .string dr.val] 27 (0, 0)) := by rw [hw7]; exact set3_at hx6
        have hb7 : Below w2.heap.size w2 w7 := by rw [hw7]; exact set3_below hb6 HS4.out
        have ho7 : pairR.Own w7 w5.heap.size 24 v6 dl := by rw [hw7]; exact Rec.Own.same ho6 fun b h1 _ => set3_far (by have := HS5.out; omega)
        have hs7 : w5.heap.size ≤ w7.heap.size := by rw [hw7, World.size_setCell, World.size_setCell, World.size_setCell]; exact hb6'.size
        have HW7 := Lib.hid hw7
        have HX7 := Lib.hid hx7
        have HO7 := Lib.hid ho7
        have hst : (fun w' : World => w'.cell? ⟨w4.heap.size, 0, none⟩ = some (.int .u8 dr.kind) ∧ w'.cell? ⟨w4.heap.size, 1, none⟩ = some (.bool dr.found) ∧ w'.cell? ⟨w4.heap.size, 2, none⟩ = some (.string dr.val)) w7 := ⟨(blk_cells hx7).1 0, (blk_cells hx7).1 1, (blk_cells hx7).1 2⟩
        have cN := pnote_any l ⟨c, i, dr⟩ _ w7.drew (HN'.out.grow hb7.drew) hl
        unfold PL.agg at cN
        clear cD p0 p1 p2 p3 p4 hb6 hb6' hx6 ho6 hw7 hx7 ho7
        go_upto_region 11 with fail
        rw [← HW7.out]
        clear q0 q1 q2 q3 q4 q5
        refine wp_region_held_drew (S := (fun w' : World => w'.cell? ⟨w4.heap.size, 0, none⟩ = some (.int .u8 dr.kind) ∧ w'.cell? ⟨w4.heap.size, 1, none⟩ = some (.bool dr.found) ∧ w'.cell? ⟨w4.heap.size, 2, none⟩ = some (.string dr.val))) (by kernel_rfl) hst (fun hHeld => ?_)
        refine takeD (i := 0) (d := 49) (v := v6) rfl rfl (by kernel_rfl) (by kernel_rfl) (by kernel_rfl) (fun _ _ _ h => h) (.inl ⟨by rfl, fun w hSw => by dsimp only at hSw; go_simp; try with_reducible rfl⟩) (by assumption) ?_
        simp only [Act.put, List.setIfInBounds_toArray, List.set_cons_zero, List.set_cons_succ]
        refine takeD (i := 1) (d := 50) (v := .slice A' l.length cp') rfl rfl (by kernel_rfl) (by kernel_rfl) (by kernel_rfl) (fun _ _ _ h => h) (.inl ⟨by rfl, fun w hSw => by dsimp only at hSw; go_simp; try with_reducible rfl⟩) (by assumption) ?_
        simp only [Act.put, List.setIfInBounds_toArray, List.set_cons_zero, List.set_cons_succ]
        refine takeD (i := 2) (d := 51) (v := .int .i64 c) rfl rfl (by kernel_rfl) (by kernel_rfl) (by kernel_rfl) (fun _ _ _ h => h) (.inl ⟨by rfl, fun w hSw => by dsimp only at hSw; go_simp; try with_reducible rfl⟩) (by assumption) ?_
        simp only [Act.put, List.setIfInBounds_toArray, List.set_cons_zero, List.set_cons_succ]
        refine takeD (i := 3) (d := 52) (v := .int .i64 i) rfl rfl (by kernel_rfl) (by kernel_rfl) (by kernel_rfl) (fun _ _ _ h => h) (.inl ⟨by rfl, fun w hSw => by dsimp only at hSw; go_simp; try with_reducible rfl⟩) (by assumption) ?_
        simp only [Act.put, List.setIfInBounds_toArray, List.set_cons_zero, List.set_cons_succ]
        refine takeD (i := 4) (d := 53) (v := .agg #[.int .u8 dr.kind, .bool dr.found, .string dr.val]) rfl rfl (by kernel_rfl) (by kernel_rfl) (by kernel_rfl) (fun _ _ _ h => h) (.inl ⟨by rfl, fun w hSw => by dsimp only at hSw; go_simp; try with_reducible rfl⟩) (by assumption) ?_
        simp only [Act.put, List.setIfInBounds_toArray, List.set_cons_zero, List.set_cons_succ]
        refine takeD (i := 5) (d := 54) (v := .agg #[.int .i64 c, .int .i64 i, .int .u8 dr.kind, .bool dr.found, .string dr.val]) rfl rfl (by kernel_rfl) (by kernel_rfl) (by kernel_rfl) (fun _ _ _ h => h) (.inl ⟨by rfl, fun w hSw => by dsimp only at hSw; go_simp; try with_reducible rfl⟩) (by assumption) ?_
        simp only [Act.put, List.setIfInBounds_toArray, List.set_cons_zero, List.set_cons_succ]
        refine takeD (i := 7) (d := 56) (v := .agg #[.int .u8 dr.kind, .bool dr.found, .string dr.val]) rfl rfl (by kernel_rfl) (by kernel_rfl) (by kernel_rfl) (fun _ _ _ h => h) (.inl ⟨by rfl, fun w hSw => by dsimp only at hSw; go_simp; try with_reducible rfl⟩) (by assumption) ?_
        simp only [Act.put, List.setIfInBounds_toArray, List.set_cons_zero, List.set_cons_succ]
        refine takeD (i := 8) (d := 57) (v := .int .i64 0) rfl rfl (by kernel_rfl) (by kernel_rfl) (by kernel_rfl) (fun _ _ _ h => h) (.inl ⟨by rfl, fun w hSw => by dsimp only at hSw; go_simp; try with_reducible rfl⟩) (by assumption) ?_
        simp only [Act.put, List.setIfInBounds_toArray, List.set_cons_zero, List.set_cons_succ]
        refine wpAnyH_ready (rs := [6]) (by kernel_rfl) (by simp) ?_
        refine AllReadyH.cons rfl (fun K hK => ?_) AllReadyH.nil
        rw [if_pos (by rfl)]
        go_simp
        go_at_call 23
        refine cN.mono ?_
        rintro e w8 ⟨v8, rfl, ho8, hb8⟩
        have hx8 := (hb8.block w4.heap.size (by show _ < w7.heap.size; have := HS5.out; omega)).trans HX7.out
        have hst8 : (fun w' : World => w'.cell? ⟨w4.heap.size, 0, none⟩ = some (.int .u8 dr.kind) ∧ w'.cell? ⟨w4.heap.size, 1, none⟩ = some (.bool dr.found) ∧ w'.cell? ⟨w4.heap.size, 2, none⟩ = some (.string dr.val)) w8 := ⟨(blk_cells hx8).1 0, (blk_cells hx8).1 1, (blk_cells hx8).1 2⟩
        have hb28 : Below w2.heap.size w2 w8 := hb7.drew.trans (Joins.below_le hb8 hb7.size)
        have hon : pairR.Own w8 w5.heap.size 24 v6 dl := (Rec.Own.same HO7.out (w' := w7.drew) fun _ _ _ => rfl).below hb8
        dsimp only
        refine hK.out _ _ hst8 (fun hHeld8 => ?_)
        try simp only [Act.put, List.setIfInBounds_toArray, List.set_cons_zero, List.set_cons_succ]
        refine takeD (i := 9) (d := 10) (v := v6) rfl rfl (by kernel_rfl) (by kernel_rfl) (by kernel_rfl) (fun _ _ _ h => h) (.inl ⟨by rfl, fun w hSw => by dsimp only at hSw; go_simp; try with_reducible rfl⟩) (by assumption) ?_
        simp only [Act.put, List.setIfInBounds_toArray, List.set_cons_zero, List.set_cons_succ]
        refine takeD (i := 10) (d := 11) (v := v8) rfl rfl (by kernel_rfl) (by kernel_rfl) (by kernel_rfl) (fun _ _ _ h => h) (.inl ⟨by rfl, fun w hSw => by dsimp only at hSw; go_simp; try with_reducible rfl⟩) (by assumption) ?_
        simp only [Act.put, List.setIfInBounds_toArray, List.set_cons_zero, List.set_cons_succ]
        refine wpAnyH_ready (rs := [11]) (by kernel_rfl) (by simp) ?_
        refine AllReadyH.cons rfl (fun K3 hK3 => ?_) AllReadyH.nil
        rw [if_pos (by rfl)]
        obtain ⟨⟨r0, r1, r2, r3, r4, r5⟩, wf, hwf, ⟨g0, g1, g2⟩, hbf, hfar⟩ := HFIN.out w8 (dr.kind) (dr.found) (dr.val) hb28
        have hof := (Rec.Own.same (hon.base hb5s) (w' := wf) fun b h1 _ => hfar b (by have := HS2.out; omega)).base (show w.heap.size ≤ w2.heap.size by have := HS2.out; omega)
        have hol := (Rec.Own.same (ho8.base (Nat.le_trans hb5s hs7)) (w' := wf) fun b h1 _ => hfar b (by have := HS2.out; omega)).base (show w.heap.size ≤ w2.heap.size by have := HS2.out; omega)
        have HWF := Lib.hid hwf
        have HOF := Lib.hid hof
        have HOL := Lib.hid hol
        have HBF := Lib.hid hbf
        clear hof hol hbf 
        have hstf : (fun w' : World => w'.cell? ⟨w4.heap.size, 0, none⟩ = some (.int .u8 dr.kind) ∧ w'.cell? ⟨w4.heap.size, 1, none⟩ = some (.bool dr.found) ∧ w'.cell? ⟨w4.heap.size, 2, none⟩ = some (.string dr.val)) wf := by
          have e := (hfar w4.heap.size (by have := HS2.out; have := HS4.out; omega)).trans hx8
          exact ⟨(blk_cells e).1 0, (blk_cells e).1 1, (blk_cells e).1 2⟩
        clear hwf hfar hx8 hst8 hon ho8 hb8 hb28 hst hb7 cN
        go_simp
        rw [← HWF.out]
        refine hK3.out _ _ hstf (fun hHeld9 => ?_)
        try simp only [Act.put, List.setIfInBounds_toArray, List.set_cons_zero, List.set_cons_succ]
        refine takeD (i := 12) (d := 13) (v := .int .i64 0) rfl rfl (by kernel_rfl) (by kernel_rfl) (by kernel_rfl) (fun _ _ _ h => h) (.inl ⟨by rfl, fun w hSw => by dsimp only at hSw; go_simp; try with_reducible rfl⟩) (by assumption) ?_
        simp only [Act.put, List.setIfInBounds_toArray, List.set_cons_zero, List.set_cons_succ]
        refine wpAnyH_done (by kernel_rfl) ?_ _
        clear hstf
        go_wp2_with fail
        refine bodyPost_ret (v := .tuple #[v6, v8, .agg #[.int .u8 (dr.kind), .bool (dr.found), .string (dr.val)], .int .i64 (0)]) (by clear r0 r1 r2 r3 r4 r5; rw [results_ttct rfl]; go_simp; try rfl) rfl ?_
        rw [HD.out, HE.out]
        exact ⟨_, _, rfl, HOF.out, HOL.out, HBF.out⟩
  · have hE : E = er := by rw [HEE.out, HER.out]; exact stepErr_werr l c i (by rw [← HER.out]; exact he)
    have hD : D = ([], [], zR) := by rw [HDD.out]; unfold stepP; rw [if_pos (by rw [← HEE.out, hE]; exact he)]
    have HD := Lib.hid hD
    have HE := Lib.hid hE
    clear hD hE
    obtain ⟨⟨r0, r1, r2, r3, r4, r5⟩, wf, hwf, ⟨g0, g1, g2⟩, hbf, hfar⟩ := HFIN.out w3 (0) (false) (⟨#[]⟩) hb3
    have hof := (Rec.Own.same (Rec.Own.none pairR w3 w2.heap.size 24) (w' := wf) fun b h1 _ => hfar b (by have := HS2.out; omega)).base (show w.heap.size ≤ w2.heap.size by have := HS2.out; omega)
    have hol := (Rec.Own.same (Rec.Own.none lastR w3 w2.heap.size 46) (w' := wf) fun b h1 _ => hfar b (by have := HS2.out; omega)).base (show w.heap.size ≤ w2.heap.size by have := HS2.out; omega)
    have HWF := Lib.hid hwf
    have HOF := Lib.hid hof
    have HOL := Lib.hid hol
    have HBF := Lib.hid hbf
    clear hof hol hbf 
    clear hwf hfar
    go_wp2_with fail
    rw [← HWF.out]
    refine bodyPost_ret (v := .tuple #[.slice none 0 0, .slice none 0 0, .agg #[.int .u8 (0), .bool (false), .string (⟨#[]⟩)], .int .i64 (er)]) (by clear r0 r1 r2 r3 r4 r5; rw [results_ttct rfl]; go_simp; try rfl) rfl ?_
    rw [HD.out, HE.out]
    exact ⟨_, _, rfl, HOF.out, HOL.out, HBF.out⟩
end Go.Proofs.Ytlgjidoehnhnoaa
