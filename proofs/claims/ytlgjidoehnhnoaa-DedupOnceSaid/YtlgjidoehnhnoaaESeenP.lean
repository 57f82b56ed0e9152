/-
  The program's Seen and Note. No statement is proved here. No condition.
-/
import Derived.Test.YtlgjidoehnhnoaaEPutP
import Derived.Test.YtlgjidoehnhnoaaEIdx
import Derived.Test.YtlgjidoehnhnoaaEClone
namespace Go.Proofs.Ytlgjidoehnhnoaa
open Go.RowKit

theorem seenP_none {l : List PL} {c k : Int} (h : l.any (fun y => decide (y.client = c)) = false) : seenP l c k = (zR, 5) := by
  induction l with
  | nil => rfl
  | cons a l ih =>
    rw [List.any_cons, Bool.or_eq_false_iff] at h
    unfold seenP
    rw [if_neg (by simpa using h.1)]
    exact ih h.2
theorem seenP_at {l : List PL} {c k : Int} {i : Nat} {a : PL} (h : l[i]? = some a) (ha : a.client = c) (hp : (l.take i).any (fun y => decide (y.client = c)) = false) : seenP l c k = if a.id = k then (a.res, 0) else if k < a.id then (zR, 6) else (zR, 5) := by
  induction l generalizing i with
  | nil => simp at h
  | cons b l ih =>
    cases i with
    | zero =>
      rw [List.getElem?_cons_zero] at h
      injection h with h
      subst h
      unfold seenP
      rw [if_pos ha]
    | succ i =>
      rw [List.getElem?_cons_succ] at h
      rw [List.take_succ_cons, List.any_cons, Bool.or_eq_false_iff] at hp
      unfold seenP
      rw [if_neg (by simpa using hp.1)]
      exact ih h hp.2
set_option maxHeartbeats 4000000 in
set_option maxRecDepth 100000 in
theorem pseen_any (l : List PL) (c k : Int) (v : Value) (w : World) (h : lastR.N w Any v l) :
    Calls Try.prog 21 #[v, .int .i64 c, .int .i64 k] w fun e w' => e = .returned (.tuple #[(seenP l c k).1.agg, .int .i64 (seenP l c k).2]) ∧ Below w.heap.size w w' := by
  obtain ⟨A, cp, rfl, hlc, hcm⟩ := h.slice
  obtain ⟨w1, hw1⟩ : ∃ w1, w1 = w.alloc (.cells #[.int .i64 c] 3) := ⟨_, rfl⟩
  have hb1 : Below w.heap.size w w1 := by rw [hw1]; exact (Below.refl _ _).alloc (Nat.le_refl _) _
  have hx1 : w1.heap[w.heap.size]? = some (.cells #[.int .i64 c] 3 (0, 0)) := by rw [hw1]; exact heap_alloc_new w _
  have hs1 : w1.heap.size = w.heap.size + 1 := by rw [hw1]; simp
  obtain ⟨w2, hw2⟩ : ∃ w2, w2 = w1.alloc (.cells #[.int .u8 0, .bool false, .string ⟨#[]⟩] 27) := ⟨_, rfl⟩
  have hb2 : Below w1.heap.size w1 w2 := by rw [hw2]; exact (Below.refl _ _).alloc (Nat.le_refl _) _
  have hx2 := (hb2.block _ (by omega)).trans hx1
  have hy2 : w2.heap[w.heap.size + 1]? = some (.cells #[.int .u8 0, .bool false, .string ⟨#[]⟩] 27 (0, 0)) := by rw [hw2, ← hs1]; exact heap_alloc_new w1 _
  have hs2 : w2.heap.size = w.heap.size + 2 := by rw [hw2]; simp [hs1]
  have hbw : Below w.heap.size w w2 := hb1.trans (Joins.below_le hb2 (by omega))
  have hz := zero_res
  have cI := idxLast_any l c w.heap.size _ w2 (h.grow hbw) ((blk_cells hx2).1 0)
  have hfin : ∀ (W : World) (x : PR), Below w2.heap.size w2 W →
      (W.cell? ⟨w.heap.size + 1, 0, none⟩ = some (.int .u8 0) ∧ W.cell? ⟨w.heap.size + 1, 1, none⟩ = some (.bool false) ∧ W.cell? ⟨w.heap.size + 1, 2, none⟩ = some (.string ⟨#[]⟩) ∧ W.frozen? ⟨w.heap.size + 1, 0, none⟩ = false ∧ W.frozen? ⟨w.heap.size + 1, 1, none⟩ = false ∧ W.frozen? ⟨w.heap.size + 1, 2, none⟩ = false) ∧
      ∃ wf, wf = ((W.setCell ⟨w.heap.size + 1, 0, none⟩ (.int .u8 x.kind)).setCell ⟨w.heap.size + 1, 1, none⟩ (.bool x.found)).setCell ⟨w.heap.size + 1, 2, none⟩ (.string x.val) ∧
        (wf.cell? ⟨w.heap.size + 1, 0, none⟩ = some (.int .u8 x.kind) ∧ wf.cell? ⟨w.heap.size + 1, 1, none⟩ = some (.bool x.found) ∧ wf.cell? ⟨w.heap.size + 1, 2, none⟩ = some (.string x.val)) ∧ Below w.heap.size w wf := fun W x hW => by
    have e := (hW.block _ (by omega)).trans hy2
    have e2 := set3_at (x := .int .u8 x.kind) (y := .bool x.found) (z := .string x.val) e
    exact ⟨⟨(blk_cells e).1 0, (blk_cells e).1 1, (blk_cells e).1 2, (blk_cells e).2 0, (blk_cells e).2 1, (blk_cells e).2 2⟩, _, rfl, ⟨(blk_cells e2).1 0, (blk_cells e2).1 1, (blk_cells e2).1 2⟩, set3_below (hbw.trans (Joins.below_le hW (by omega))) (by omega)⟩
  obtain ⟨r, hr⟩ : ∃ r, r = seenP l c k := ⟨_, rfl⟩
  rw [← hr]
  have HR := Lib.hid hr
  have HN := Lib.hid (h.grow hbw)
  have HFIN := Lib.hid hfin
  have HW1 := Lib.hid hw1
  have HW2 := Lib.hid hw2
  unfold maxLen at hcm
  clear hr h hw1 hw2 hb1 hb2 hx1 hx2 hy2 hfin hs1 hs2 hbw
  go_enter Try.func21, Try.ntmps21
  go_upto_region 1 with fail
  rw [← HW1.out, ← HW2.out]
  go_wp2_with fail
  refine cI.mono ?_
  rintro e w3 ⟨x, rfl, hx, hb3⟩
  clear cI
  rcases hx with ⟨i, a, hia, rfl, hac, hp⟩ | ⟨rfl, hp⟩
  · have hres := (HR.out).trans (seenP_at (k := k) hia hac hp)
    have hil := (List.getElem?_eq_some_iff.1 hia).1
    have a1 : (i : Int) < (l.length : Int) := by omega
    have a0 : (0 : Int) ≤ (i : Int) := by omega
    have a2 : ¬ (i : Int) < 0 := by omega
    obtain ⟨b, o, n', k', hv, -, -, f0, f1, f2, f3, f4⟩ := last_cell (HN.out.grow hb3) hia
    injection hv with e1 e2 e3
    subst e1 e2 e3
    by_cases hk : a.id = k
    · rw [if_pos hk] at hres
      have HRES := Lib.hid hres
      obtain ⟨⟨r0, r1, r2, r3, r4, r5⟩, wf, hwf, ⟨g0, g1, g2⟩, hbf⟩ := HFIN.out w3 a.res hb3
      have HWF := Lib.hid hwf
      have HBF := Lib.hid hbf
      clear hres hwf hbf hia hac hp
      go_wp2_with fail
      rw [← HWF.out]
      refine bodyPost_ret (v := .tuple #[a.res.agg, .int .i64 0]) (by clear r0 r1 r2 r3 r4 r5; unfold PR.agg; rw [results_ct rfl]; go_simp; try rfl) rfl ?_
      exact ⟨by rw [HRES.out], HBF.out⟩
    · rw [if_neg hk] at hres
      by_cases hg : k < a.id
      · rw [if_pos hg] at hres
        have HRES := Lib.hid hres
        obtain ⟨⟨r0, r1, r2, r3, r4, r5⟩, wf, hwf, ⟨g0, g1, g2⟩, hbf⟩ := HFIN.out w3 zR hb3
        have g0' : wf.cell? ⟨w.heap.size + 1, 0, none⟩ = some (.int .u8 0) := g0
        have g1' : wf.cell? ⟨w.heap.size + 1, 1, none⟩ = some (.bool false) := g1
        have g2' : wf.cell? ⟨w.heap.size + 1, 2, none⟩ = some (.string ⟨#[]⟩) := g2
        have HWF := Lib.hid hwf
        have HBF := Lib.hid hbf
        have b1 : ¬ a.id < k := by omega
        clear hres hwf hbf hia hac hp g0 g1 g2
        go_wp2_with fail
        rw [show ((w3.setCell ⟨w.heap.size + 1, 0, none⟩ (.int .u8 0)).setCell ⟨w.heap.size + 1, 1, none⟩ (.bool false)).setCell ⟨w.heap.size + 1, 2, none⟩ (.string ⟨#[]⟩) = wf from HWF.out.symm]
        refine bodyPost_ret (v := .tuple #[zR.agg, .int .i64 6]) (by clear r0 r1 r2 r3 r4 r5; unfold PR.agg zR; rw [results_ct rfl]; go_simp; try rfl) rfl ?_
        exact ⟨by rw [HRES.out], HBF.out⟩
      · rw [if_neg hg] at hres
        have HRES := Lib.hid hres
        obtain ⟨⟨r0, r1, r2, r3, r4, r5⟩, wf, hwf, ⟨g0, g1, g2⟩, hbf⟩ := HFIN.out w3 zR hb3
        have g0' : wf.cell? ⟨w.heap.size + 1, 0, none⟩ = some (.int .u8 0) := g0
        have g1' : wf.cell? ⟨w.heap.size + 1, 1, none⟩ = some (.bool false) := g1
        have g2' : wf.cell? ⟨w.heap.size + 1, 2, none⟩ = some (.string ⟨#[]⟩) := g2
        have HWF := Lib.hid hwf
        have HBF := Lib.hid hbf
        have b1 : a.id < k := by omega
        clear hres hwf hbf hia hac hp g0 g1 g2
        go_wp2_with fail
        rw [show ((w3.setCell ⟨w.heap.size + 1, 0, none⟩ (.int .u8 0)).setCell ⟨w.heap.size + 1, 1, none⟩ (.bool false)).setCell ⟨w.heap.size + 1, 2, none⟩ (.string ⟨#[]⟩) = wf from HWF.out.symm]
        refine bodyPost_ret (v := .tuple #[zR.agg, .int .i64 5]) (by clear r0 r1 r2 r3 r4 r5; unfold PR.agg zR; rw [results_ct rfl]; go_simp; try rfl) rfl ?_
        exact ⟨by rw [HRES.out], HBF.out⟩
  · have hres := (HR.out).trans (seenP_none (k := k) hp)
    have HRES := Lib.hid hres
    obtain ⟨⟨r0, r1, r2, r3, r4, r5⟩, wf, hwf, ⟨g0, g1, g2⟩, hbf⟩ := HFIN.out w3 zR hb3
    have g0' : wf.cell? ⟨w.heap.size + 1, 0, none⟩ = some (.int .u8 0) := g0
    have g1' : wf.cell? ⟨w.heap.size + 1, 1, none⟩ = some (.bool false) := g1
    have g2' : wf.cell? ⟨w.heap.size + 1, 2, none⟩ = some (.string ⟨#[]⟩) := g2
    have HWF := Lib.hid hwf
    have HBF := Lib.hid hbf
    clear hres hwf hbf hp g0 g1 g2
    go_wp2_with fail
    rw [show ((w3.setCell ⟨w.heap.size + 1, 0, none⟩ (.int .u8 0)).setCell ⟨w.heap.size + 1, 1, none⟩ (.bool false)).setCell ⟨w.heap.size + 1, 2, none⟩ (.string ⟨#[]⟩) = wf from HWF.out.symm]
    refine bodyPost_ret (v := .tuple #[zR.agg, .int .i64 5]) (by clear r0 r1 r2 r3 r4 r5; unfold PR.agg zR; rw [results_ct rfl]; go_simp; try rfl) rfl ?_
    exact ⟨by rw [HRES.out], HBF.out⟩
set_option maxHeartbeats 4000000 in
set_option maxRecDepth 100000 in
theorem pnote_any (l : List PL) (x : PL) (v : Value) (w : World) (h : lastR.N w Any v l) (hl : l.length ≤ 3518437208880) :
    Calls Try.prog 23 #[v, x.agg] w fun e w' => ∃ v', e = .returned v' ∧ lastR.Own w' w.heap.size 46 v' (noteP l x) ∧ Below w.heap.size w w' := by
  obtain ⟨A, cp, rfl, hlc, hcm⟩ := h.slice
  obtain ⟨w1, hw1⟩ : ∃ w1, w1 = w.alloc (.cells #[.int .i64 x.client, .int .i64 x.id, .int .u8 x.res.kind, .bool x.res.found, .string x.res.val] 46) := ⟨_, rfl⟩
  have hb1 : Below w.heap.size w w1 := by rw [hw1]; exact (Below.refl _ _).alloc (Nat.le_refl _) _
  have hx1 : w1.heap[w.heap.size]? = some (.cells #[.int .i64 x.client, .int .i64 x.id, .int .u8 x.res.kind, .bool x.res.found, .string x.res.val] 46 (0, 0)) := by rw [hw1]; exact heap_alloc_new w _
  have hs1 : w1.heap.size = w.heap.size + 1 := by rw [hw1]; simp
  have cC := cloneLast_any l _ w1.drew (h.grow hb1.drew) hl
  have hst : (fun w' : World => w'.cell? ⟨w.heap.size, 0, none⟩ = some (.int .i64 x.client) ∧ w'.cell? ⟨w.heap.size, 1, none⟩ = some (.int .i64 x.id) ∧ w'.cell? ⟨w.heap.size, 2, none⟩ = some (.int .u8 x.res.kind) ∧ w'.cell? ⟨w.heap.size, 3, none⟩ = some (.bool x.res.found) ∧ w'.cell? ⟨w.heap.size, 4, none⟩ = some (.string x.res.val)) w1 := ⟨(blk_cells hx1).1 0, (blk_cells hx1).1 1, (blk_cells hx1).1 2, (blk_cells hx1).1 3, (blk_cells hx1).1 4⟩
  have HB1 := Lib.hid hb1
  have HX1 := Lib.hid hx1
  have HS1 := Lib.hid hs1
  have HW1 := Lib.hid hw1
  obtain ⟨R, hR⟩ : ∃ R, R = noteP l x := ⟨_, rfl⟩
  rw [← hR]
  have HR := Lib.hid hR
  clear hw1 hb1 hx1 hs1 hR h
  unfold PL.agg
  go_enter Try.func23, Try.ntmps23
  go_upto_region 1 with fail
  rw [← HW1.out]
  refine wp_region_held_drew (S := (fun w' : World => w'.cell? ⟨w.heap.size, 0, none⟩ = some (.int .i64 x.client) ∧ w'.cell? ⟨w.heap.size, 1, none⟩ = some (.int .i64 x.id) ∧ w'.cell? ⟨w.heap.size, 2, none⟩ = some (.int .u8 x.res.kind) ∧ w'.cell? ⟨w.heap.size, 3, none⟩ = some (.bool x.res.found) ∧ w'.cell? ⟨w.heap.size, 4, none⟩ = some (.string x.res.val))) (by kernel_rfl) hst (fun hHeld => ?_)
  refine takeD (i := 0) (d := 5) (v := .slice A l.length cp) rfl rfl (by kernel_rfl) (by kernel_rfl) (by kernel_rfl) (fun _ _ _ h => h) (.inl ⟨by rfl, fun w hSw => by dsimp only at hSw; go_simp; try with_reducible rfl⟩) (by assumption) ?_
  simp only [Act.put, List.setIfInBounds_toArray, List.set_cons_zero, List.set_cons_succ]
  refine takeD (i := 2) (d := 7) (v := .agg #[.int .i64 x.client, .int .i64 x.id, .int .u8 x.res.kind, .bool x.res.found, .string x.res.val]) rfl rfl (by kernel_rfl) (by kernel_rfl) (by kernel_rfl) (fun _ _ _ h => h) (.inl ⟨by rfl, fun w hSw => by dsimp only at hSw; go_simp; try with_reducible rfl⟩) (by assumption) ?_
  simp only [Act.put, List.setIfInBounds_toArray, List.set_cons_zero, List.set_cons_succ]
  refine takeD (i := 3) (d := 8) (v := .func (.func 41) #[] #[.pointer (some ⟨w.heap.size, 0, none⟩)]) rfl rfl (by kernel_rfl) (by kernel_rfl) (by kernel_rfl) (fun _ _ _ h => h) (.inl ⟨by rfl, fun w hSw => by dsimp only at hSw; go_simp; try with_reducible rfl⟩) (by assumption) ?_
  simp only [Act.put, List.setIfInBounds_toArray, List.set_cons_zero, List.set_cons_succ]
  refine wpAnyH_ready (rs := [1]) (by kernel_rfl) (by simp) ?_
  refine AllReadyH.cons rfl (fun K hK => ?_) AllReadyH.nil
  rw [if_pos (by rfl)]
  go_simp
  go_at_call 36
  refine cC.mono ?_
  rintro e w2 ⟨v2, rfl, ho2, hb2⟩
  have hx2 := (hb2.block w.heap.size (by show _ < w1.heap.size; have := HS1.out; omega)).trans HX1.out
  have hst2 : (fun w' : World => w'.cell? ⟨w.heap.size, 0, none⟩ = some (.int .i64 x.client) ∧ w'.cell? ⟨w.heap.size, 1, none⟩ = some (.int .i64 x.id) ∧ w'.cell? ⟨w.heap.size, 2, none⟩ = some (.int .u8 x.res.kind) ∧ w'.cell? ⟨w.heap.size, 3, none⟩ = some (.bool x.res.found) ∧ w'.cell? ⟨w.heap.size, 4, none⟩ = some (.string x.res.val)) w2 := ⟨(blk_cells hx2).1 0, (blk_cells hx2).1 1, (blk_cells hx2).1 2, (blk_cells hx2).1 3, (blk_cells hx2).1 4⟩
  have cP := putLast_any l x w.heap.size v2 w1.drew.heap.size w2 ho2 hb2.size ((blk_cells hx2).1 0) hl
  unfold PL.agg at cP
  dsimp only
  refine hK.out _ _ hst2 (fun hHeld2 => ?_)
  try simp only [Act.put, List.setIfInBounds_toArray, List.set_cons_zero, List.set_cons_succ]
  refine wpAnyH_ready (rs := [4]) (by kernel_rfl) (by simp) ?_
  refine AllReadyH.cons rfl (fun K2 hK2 => ?_) AllReadyH.nil
  rw [if_pos (by rfl)]
  go_simp
  go_at_call 40
  refine cP.mono ?_
  rintro e w3 ⟨v3, rfl, ho3, hb3, -⟩
  have hb3w : Below w.heap.size w w3 := (HB1.out.drew).trans ((Joins.below_le hb2 (by have := HS1.out; show _ ≤ w1.heap.size; omega)).trans (Joins.below_le hb3 (by have := HS1.out; show _ ≤ w1.heap.size; omega)))
  have hx3 := (hb3.block w.heap.size (by show _ < w1.heap.size; have := HS1.out; omega)).trans hx2
  have hst3 : (fun w' : World => w'.cell? ⟨w.heap.size, 0, none⟩ = some (.int .i64 x.client) ∧ w'.cell? ⟨w.heap.size, 1, none⟩ = some (.int .i64 x.id) ∧ w'.cell? ⟨w.heap.size, 2, none⟩ = some (.int .u8 x.res.kind) ∧ w'.cell? ⟨w.heap.size, 3, none⟩ = some (.bool x.res.found) ∧ w'.cell? ⟨w.heap.size, 4, none⟩ = some (.string x.res.val)) w3 := ⟨(blk_cells hx3).1 0, (blk_cells hx3).1 1, (blk_cells hx3).1 2, (blk_cells hx3).1 3, (blk_cells hx3).1 4⟩
  have HO3 := Lib.hid (ho3.base (show w.heap.size ≤ w1.drew.heap.size by have := HS1.out; show _ ≤ w1.heap.size; omega))
  have HB3 := Lib.hid hb3w
  clear hb3 hb3w hx3 ho3 hst2 hx2 ho2 hb2 hst
  dsimp only
  refine hK2.out _ _ hst3 (fun hHeld3 => ?_)
  try simp only [Act.put, List.setIfInBounds_toArray, List.set_cons_zero, List.set_cons_succ]
  refine takeD (i := 5) (d := 4) (v := v3) rfl rfl (by kernel_rfl) (by kernel_rfl) (by kernel_rfl) (fun _ _ _ h => h) (.inl ⟨by rfl, fun w hSw => by dsimp only at hSw; go_simp; try with_reducible rfl⟩) (by assumption) ?_
  simp only [Act.put, List.setIfInBounds_toArray, List.set_cons_zero, List.set_cons_succ]
  refine wpAnyH_done (by kernel_rfl) ?_ _
  clear hst3
  go_wp2_with fail
  go_ret
  exact ⟨_, rfl, by rw [HR.out]; exact HO3.out, HB3.out⟩
end Go.Proofs.Ytlgjidoehnhnoaa
