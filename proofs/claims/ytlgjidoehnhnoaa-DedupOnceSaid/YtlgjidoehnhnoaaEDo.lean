/-
  The document's Do (package butteryref09). No statement is proved here. No condition.
-/
import Derived.Test.YtlgjidoehnhnoaaESeen
namespace Go.Proofs.Ytlgjidoehnhnoaa
open Go.RowKit

theorem results_tct {fn : Func} {r p s : Tmp} {tp : TypeId} (h : fn.results = #[.tmp r, .cell p tp, .tmp s]) (tmps : Array Value) (P : Program) (w : World) :
    (results fn tmps).run P w = ((asAddr (tmps.getD p undef)).run P w).andThen fun a w₁ => ((loadVar tp a).run P w₁).andThen fun v w₂ => .ok (.tuple #[tmps.getD r undef, v, tmps.getD s undef]) w₂ := by
  simp only [results, h]
  simp [Sem.run_bind, Result.andThen]
/-- what Do tells, its refusals too -/
def doE (l : List PP) (o : PO) : List PP × PR := if o.err ≠ 0 then ([], zR) else doP l o
theorem fits_eq (l : List PP) (o : PO) : fits l o = ((o.had && (findP l o.key).isSome && decide ((findP l o.key).getD ⟨#[]⟩ = o.old)) || (!o.had && !(findP l o.key).isSome)) := by
  unfold fits
  cases findP l o.key with
  | none => simp
  | some v => simp
theorem delP_snoc {l : List PP} {i : Nat} {q : PP} (h : l[i]? = some q) (k : ByteArray) : delP (l.take (i + 1)) k = delP (l.take i) k ++ (if q.key = k then [] else [q]) := by
  unfold delP
  rw [List.take_add_one, h, List.filter_append]
  congr 1
  by_cases hk : q.key = k
  · simp [hk]
  · simp [hk]

set_option maxHeartbeats 8000000 in
set_option maxRecDepth 100000 in
theorem rdo_any (l : List PP) (o : PO) (v : Value) (w : World) (h : pairR.N w Any v l) (hl : l.length ≤ 4398046511000) (hk : 0 ≤ o.kind ∧ o.kind ≤ 255) :
    Calls Try.prog 19 #[v, o.agg] w fun e w' => ∃ v', e = .returned (.tuple #[v', (doE l o).2.agg, .int .i64 o.err]) ∧ pairR.Own w' w.heap.size 24 v' (doE l o).1 ∧ Below w.heap.size w w' := by
  obtain ⟨A, c, rfl, hlc, hcm⟩ := h.slice
  obtain ⟨w1, hw1⟩ : ∃ w1, w1 = w.alloc (.cells #[.int .u8 o.kind, .string o.key, .string o.val, .string o.old, .bool o.had] 32) := ⟨_, rfl⟩
  have hb1 : Below w.heap.size w w1 := by rw [hw1]; exact (Below.refl _ _).alloc (Nat.le_refl _) _
  have hx1 : w1.heap[w.heap.size]? = some (.cells #[.int .u8 o.kind, .string o.key, .string o.val, .string o.old, .bool o.had] 32 (0, 0)) := by rw [hw1]; exact heap_alloc_new w _
  have hs1 : w1.heap.size = w.heap.size + 1 := by rw [hw1]; simp
  obtain ⟨w2, hw2⟩ : ∃ w2, w2 = w1.alloc (.cells #[.int .u8 0, .bool false, .string ⟨#[]⟩] 27) := ⟨_, rfl⟩
  have hb2 : Below w1.heap.size w1 w2 := by rw [hw2]; exact (Below.refl _ _).alloc (Nat.le_refl _) _
  have hx2 := (hb2.block _ (by omega)).trans hx1
  have hy2 : w2.heap[w.heap.size + 1]? = some (.cells #[.int .u8 0, .bool false, .string ⟨#[]⟩] 27 (0, 0)) := by rw [hw2, ← hs1]; exact heap_alloc_new w1 _
  have hs2 : w2.heap.size = w.heap.size + 2 := by rw [hw2]; simp [hs1]
  have hbw : Below w.heap.size w w2 := hb1.trans (Joins.below_le hb2 (by omega))
  have hz := zero_res
  have hzp : ∀ W, (zeroValue 24).run Try.prog W = .ok (.agg #[.string ⟨#[]⟩, .string ⟨#[]⟩]) W := fun W => by kernel_rfl
  have hfin : ∀ (W : World) (a : Int) (b : Bool) (s : ByteArray), Below w2.heap.size w2 W →
      (W.cell? ⟨w.heap.size + 1, 0, none⟩ = some (.int .u8 0) ∧ W.cell? ⟨w.heap.size + 1, 1, none⟩ = some (.bool false) ∧ W.cell? ⟨w.heap.size + 1, 2, none⟩ = some (.string ⟨#[]⟩) ∧ W.frozen? ⟨w.heap.size + 1, 0, none⟩ = false ∧ W.frozen? ⟨w.heap.size + 1, 1, none⟩ = false ∧ W.frozen? ⟨w.heap.size + 1, 2, none⟩ = false) ∧
      ∃ wf, wf = ((W.setCell ⟨w.heap.size + 1, 0, none⟩ (.int .u8 a)).setCell ⟨w.heap.size + 1, 1, none⟩ (.bool b)).setCell ⟨w.heap.size + 1, 2, none⟩ (.string s) ∧
        (wf.cell? ⟨w.heap.size + 1, 0, none⟩ = some (.int .u8 a) ∧ wf.cell? ⟨w.heap.size + 1, 1, none⟩ = some (.bool b) ∧ wf.cell? ⟨w.heap.size + 1, 2, none⟩ = some (.string s)) ∧ Below w.heap.size w wf ∧ (∀ b, b ≠ w.heap.size + 1 → wf.heap[b]? = W.heap[b]?) := fun W a b s hW => by
    have e := (hW.block _ (by omega)).trans hy2
    have e2 := set3_at (x := .int .u8 a) (y := .bool b) (z := .string s) e
    exact ⟨⟨(blk_cells e).1 0, (blk_cells e).1 1, (blk_cells e).1 2, (blk_cells e).2 0, (blk_cells e).2 1, (blk_cells e).2 2⟩, _, rfl, ⟨(blk_cells e2).1 0, (blk_cells e2).1 1, (blk_cells e2).1 2⟩, set3_below (hbw.trans (Joins.below_le hW (by omega))) (by omega), fun b hb => set3_far hb⟩
  have cC := rcheck_any o w2 hk
  obtain ⟨er, her⟩ : ∃ er, er = o.err := ⟨_, rfl⟩
  rw [← her] at cC ⊢
  obtain ⟨D, hDD⟩ : ∃ D, D = doE l o := ⟨_, rfl⟩
  rw [← hDD]
  have HDD := Lib.hid hDD
  clear hDD
  have HER := Lib.hid her
  have HN := Lib.hid (h.grow hbw)
  have HFIN := Lib.hid hfin
  have HX2 := Lib.hid hx2
  have HS2 := Lib.hid hs2
  have HW1 := Lib.hid hw1
  have HW2 := Lib.hid hw2
  obtain ⟨p0, p1, p2, p3, p4⟩ : w2.cell? ⟨w.heap.size, 0, none⟩ = some (.int .u8 o.kind) ∧ w2.cell? ⟨w.heap.size, 1, none⟩ = some (.string o.key) ∧ w2.cell? ⟨w.heap.size, 2, none⟩ = some (.string o.val) ∧ w2.cell? ⟨w.heap.size, 3, none⟩ = some (.string o.old) ∧ w2.cell? ⟨w.heap.size, 4, none⟩ = some (.bool o.had) := ⟨(blk_cells hx2).1 0, (blk_cells hx2).1 1, (blk_cells hx2).1 2, (blk_cells hx2).1 3, (blk_cells hx2).1 4⟩
  unfold maxLen at hcm
  obtain ⟨hk0, hk1⟩ := hk
  clear h hw1 hw2 hb1 hb2 hx1 hx2 hy2 hs1 hs2 hbw hfin her
  unfold PO.agg at cC ⊢
  go_enter Try.func19, Try.ntmps19
  go_upto_region 1 with fail
  rw [← HW1.out, ← HW2.out]
  go_wp2_with fail
  refine cC.mono ?_
  rintro e w3 ⟨rfl, hb3⟩
  clear cC p0 p1 p2 p3 p4
  by_cases he : er = 0
  · subst he
    have hdo : D = doP l o := by rw [HDD.out]; unfold doE; rw [if_neg (by rw [← HER.out]; simp)]
    have HDO := Lib.hid hdo
    have hop3 : w3.heap[w.heap.size]? = some (.cells #[.int .u8 o.kind, .string o.key, .string o.val, .string o.old, .bool o.had] 32 (0, 0)) := (hb3.block _ (by have := HS2.out; omega)).trans HX2.out
    obtain ⟨p30, p31, p32, p33, p34⟩ : w3.cell? ⟨w.heap.size, 0, none⟩ = some (.int .u8 o.kind) ∧ w3.cell? ⟨w.heap.size, 1, none⟩ = some (.string o.key) ∧ w3.cell? ⟨w.heap.size, 2, none⟩ = some (.string o.val) ∧ w3.cell? ⟨w.heap.size, 3, none⟩ = some (.string o.old) ∧ w3.cell? ⟨w.heap.size, 4, none⟩ = some (.bool o.had) := ⟨(blk_cells hop3).1 0, (blk_cells hop3).1 1, (blk_cells hop3).1 2, (blk_cells hop3).1 3, (blk_cells hop3).1 4⟩
    clear hop3
    have cF := rfind_any l o.key _ w3 (HN.out.grow hb3)
    obtain ⟨fb, hfb⟩ : ∃ fb, fb = (findP l o.key).isSome := ⟨_, rfl⟩
    obtain ⟨fv, hfv⟩ : ∃ fv, fv = (findP l o.key).getD ⟨#[]⟩ := ⟨_, rfl⟩
    rw [← hfb, ← hfv] at cF
    have HFB := Lib.hid hfb
    have HFV := Lib.hid hfv
    clear hfb hfv hdo
    go_wp2_with fail
    refine cF.mono ?_
    rintro e w4 ⟨rfl, hb4'⟩
    have hb4 := hb3.trans (Joins.below_le hb4' hb3.size)
    clear cF p30 p31 p32 p33 p34 hb4' hb3
    obtain ⟨v5, w5, hr5, ho5, hg5, -⟩ := app_pairs (W := w4) (B := w2.heap.size) (l := []) (Rec.Own.none _ _ _ _) (HN.out.grow hb4) (by simp; omega) hb4.size
    rw [List.nil_append] at ho5
    have hb5 : Below w2.heap.size w2 w5 := hb4.grown hg5 hb4.size (fun k hk => by cases hk)
    have HR5 := Lib.hid hr5
    clear hr5 hg5 hb4
    have hop5 : w5.heap[w.heap.size]? = some (.cells #[.int .u8 o.kind, .string o.key, .string o.val, .string o.old, .bool o.had] 32 (0, 0)) := (hb5.block _ (by have := HS2.out; omega)).trans HX2.out
    obtain ⟨p50, p51, p52, p53, p54⟩ : w5.cell? ⟨w.heap.size, 0, none⟩ = some (.int .u8 o.kind) ∧ w5.cell? ⟨w.heap.size, 1, none⟩ = some (.string o.key) ∧ w5.cell? ⟨w.heap.size, 2, none⟩ = some (.string o.val) ∧ w5.cell? ⟨w.heap.size, 3, none⟩ = some (.string o.old) ∧ w5.cell? ⟨w.heap.size, 4, none⟩ = some (.bool o.had) := ⟨(blk_cells hop5).1 0, (blk_cells hop5).1 1, (blk_cells hop5).1 2, (blk_cells hop5).1 3, (blk_cells hop5).1 4⟩
    clear hop5
    obtain ⟨w6, hw6⟩ : ∃ w6, w6 = w5.alloc (.cells #[.string o.key, .string o.val] 24) := ⟨_, rfl⟩
    have hb56 : Below w5.heap.size w5 w6 := by rw [hw6]; exact (Below.refl _ _).alloc (Nat.le_refl _) _
    have hx6 : w6.heap[w5.heap.size]? = some (.cells #[.string o.key, .string o.val] 24 (0, 0)) := by rw [hw6]; exact heap_alloc_new w5 _
    have hb6 := hb5.trans (Joins.below_le hb56 hb5.size)
    have ho6 := Rec.Own.below ho5 hb56
    have HW6 := Lib.hid hw6
    have c0 : w6.cell? ⟨w5.heap.size, 0, none⟩ = some (.string o.key) := (blk_cells hx6).1 0
    have c1 : w6.cell? ⟨w5.heap.size, 1, none⟩ = some (.string o.val) := (blk_cells hx6).1 1
    clear hw6 hx6 hb56 ho5 hb5
    go_upto_region 8 with (at_builtin; go_must (refine Lib.wpList_append_run _ rfl (.tmp 27) (.tmp 28) 25 25 rfl _ _ rfl rfl _ _ HR5.out ?_))
    rw [← HW6.out]
    clear HR5 p50 p51 p52 p53 p54
    have hop6 : w6.heap[w.heap.size]? = some (.cells #[.int .u8 o.kind, .string o.key, .string o.val, .string o.old, .bool o.had] 32 (0, 0)) := (hb6.block _ (by have := HS2.out; omega)).trans HX2.out
    obtain ⟨p60, p61, p62, p63, p64⟩ : w6.cell? ⟨w.heap.size, 0, none⟩ = some (.int .u8 o.kind) ∧ w6.cell? ⟨w.heap.size, 1, none⟩ = some (.string o.key) ∧ w6.cell? ⟨w.heap.size, 2, none⟩ = some (.string o.val) ∧ w6.cell? ⟨w.heap.size, 3, none⟩ = some (.string o.old) ∧ w6.cell? ⟨w.heap.size, 4, none⟩ = some (.bool o.had) := ⟨(blk_cells hop6).1 0, (blk_cells hop6).1 1, (blk_cells hop6).1 2, (blk_cells hop6).1 3, (blk_cells hop6).1 4⟩
    clear hop6
    by_cases h1 : o.kind = 1
    · have hd : D = (l, ⟨1, fb, fv⟩) := by rw [HDO.out]; unfold doP; rw [if_pos h1, HFB.out, HFV.out]
      have HD := Lib.hid hd
      clear hd
      obtain ⟨⟨r0, r1, r2, r3, r4, r5⟩, wf, hwf, ⟨g0, g1, g2⟩, hbf, hfar⟩ := HFIN.out w6 (1) (fb) (fv) hb6
      have hof := (Rec.Own.same ho6 (w' := wf) fun b h1 _ => hfar b (by have := HS2.out; omega)).base (show w.heap.size ≤ w2.heap.size by have := HS2.out; omega)
      have HWF := Lib.hid hwf
      have HOF := Lib.hid hof
      have HBF := Lib.hid hbf
      clear hwf hof hbf hfar
      go_wp2_with fail
      rw [← HWF.out]
      refine bodyPost_ret (v := .tuple #[v5, .agg #[.int .u8 (1), .bool (fb), .string (fv)], .int .i64 0]) (by clear r0 r1 r2 r3 r4 r5; rw [results_tct rfl]; go_simp; try rfl) rfl ?_
      rw [HD.out]
      exact ⟨_, rfl, HOF.out, HBF.out⟩
    · by_cases h2 : o.kind = 2
      · have hd : D = (putP l ⟨o.key, o.val⟩, ⟨1, false, ⟨#[]⟩⟩) := by rw [HDO.out]; unfold doP; rw [if_neg h1, if_pos h2]
        have HD := Lib.hid hd
        have cP := rput_any l ⟨o.key, o.val⟩ _ w6 (HN.out.grow hb6) hl
        unfold PP.agg at cP
        clear hd
        go_wp2_with fail
        refine cP.mono ?_
        rintro e w7 ⟨v7, rfl, ho7, hb7'⟩
        have hb7 := hb6.trans (Joins.below_le hb7' hb6.size)
        have ho8 := Rec.Own.base ho7 hb6.size
        clear cP p60 p61 p62 p63 p64 c0 c1 hb7' hb6 ho6 ho7
        obtain ⟨⟨r0, r1, r2, r3, r4, r5⟩, wf, hwf, ⟨g0, g1, g2⟩, hbf, hfar⟩ := HFIN.out w7 (1) (false) (⟨#[]⟩) hb7
        have hof := (Rec.Own.same ho8 (w' := wf) fun b h1 _ => hfar b (by have := HS2.out; omega)).base (show w.heap.size ≤ w2.heap.size by have := HS2.out; omega)
        have HWF := Lib.hid hwf
        have HOF := Lib.hid hof
        have HBF := Lib.hid hbf
        clear hwf hof hbf hfar
        go_wp2_with fail
        rw [← HWF.out]
        refine bodyPost_ret (v := .tuple #[v7, .agg #[.int .u8 (1), .bool (false), .string (⟨#[]⟩)], .int .i64 0]) (by clear r0 r1 r2 r3 r4 r5; rw [results_tct rfl]; go_simp; try rfl) rfl ?_
        rw [HD.out]
        exact ⟨_, rfl, HOF.out, HBF.out⟩
      · by_cases h4 : o.kind = 4
        · have hft := fits_eq l o
          rw [← HFB.out, ← HFV.out] at hft
          have hd : D = if fits l o then (putP l ⟨o.key, o.val⟩, ⟨1, true, ⟨#[]⟩⟩) else (l, ⟨1, false, ⟨#[]⟩⟩) := by rw [HDO.out]; unfold doP; rw [if_neg h1, if_neg h2, if_pos h4]
          have cP := rput_any l ⟨o.key, o.val⟩ _ w6 (HN.out.grow hb6) hl
          unfold PP.agg at cP
          have CP := Lib.hid cP
          have HD := Lib.hid hd
          have HFT := Lib.hid hft
          clear cP hd hft
          cases hh : o.had with
          | true =>
            rw [hh] at p64
            cases fb with
            | true =>
              by_cases hv : fv = o.old
              · have hv2 := eqS_yes hv
                have hd : D = (putP l ⟨o.key, o.val⟩, ⟨1, true, ⟨#[]⟩⟩) := by rw [HD.out, HFT.out, hh]; simp [hv]
                have HD2 := Lib.hid hd
                clear hd
                have cP := CP.out
                go_wp2_with fail
                refine cP.mono ?_
                rintro e w7 ⟨v7, rfl, ho7, hb7'⟩
                have hb7 := hb6.trans (Joins.below_le hb7' hb6.size)
                have ho8 := Rec.Own.base ho7 hb6.size
                clear cP CP p60 p61 p62 p63 p64 c0 c1 hb7' hb6 ho6 ho7
                obtain ⟨⟨r0, r1, r2, r3, r4, r5⟩, wf, hwf, ⟨g0, g1, g2⟩, hbf, hfar⟩ := HFIN.out w7 (1) (true) (⟨#[]⟩) hb7
                have hof := (Rec.Own.same ho8 (w' := wf) fun b h1 _ => hfar b (by have := HS2.out; omega)).base (show w.heap.size ≤ w2.heap.size by have := HS2.out; omega)
                have HWF := Lib.hid hwf
                have HOF := Lib.hid hof
                have HBF := Lib.hid hbf
                clear hwf hof hbf hfar
                go_wp2_with fail
                rw [← HWF.out]
                refine bodyPost_ret (v := .tuple #[v7, .agg #[.int .u8 (1), .bool (true), .string (⟨#[]⟩)], .int .i64 0]) (by clear r0 r1 r2 r3 r4 r5; rw [results_tct rfl]; go_simp; try rfl) rfl ?_
                rw [HD2.out]
                exact ⟨_, rfl, HOF.out, HBF.out⟩
              · have hv2 := eqS_no hv
                have hd : D = (l, ⟨1, false, ⟨#[]⟩⟩) := by rw [HD.out, HFT.out, hh]; simp [hv]
                have HD2 := Lib.hid hd
                clear hd
                obtain ⟨⟨r0, r1, r2, r3, r4, r5⟩, wf, hwf, ⟨g0, g1, g2⟩, hbf, hfar⟩ := HFIN.out w6 (1) (false) (⟨#[]⟩) hb6
                have hof := (Rec.Own.same ho6 (w' := wf) fun b h1 _ => hfar b (by have := HS2.out; omega)).base (show w.heap.size ≤ w2.heap.size by have := HS2.out; omega)
                have HWF := Lib.hid hwf
                have HOF := Lib.hid hof
                have HBF := Lib.hid hbf
                clear hwf hof hbf hfar
                go_wp2_with fail
                rw [← HWF.out]
                refine bodyPost_ret (v := .tuple #[v5, .agg #[.int .u8 (1), .bool (false), .string (⟨#[]⟩)], .int .i64 0]) (by clear r0 r1 r2 r3 r4 r5; rw [results_tct rfl]; go_simp; try rfl) rfl ?_
                rw [HD2.out]
                exact ⟨_, rfl, HOF.out, HBF.out⟩
            | false =>
              have hd : D = (l, ⟨1, false, ⟨#[]⟩⟩) := by rw [HD.out, HFT.out, hh]; simp
              have HD2 := Lib.hid hd
              clear hd
              obtain ⟨⟨r0, r1, r2, r3, r4, r5⟩, wf, hwf, ⟨g0, g1, g2⟩, hbf, hfar⟩ := HFIN.out w6 (1) (false) (⟨#[]⟩) hb6
              have hof := (Rec.Own.same ho6 (w' := wf) fun b h1 _ => hfar b (by have := HS2.out; omega)).base (show w.heap.size ≤ w2.heap.size by have := HS2.out; omega)
              have HWF := Lib.hid hwf
              have HOF := Lib.hid hof
              have HBF := Lib.hid hbf
              clear hwf hof hbf hfar
              go_wp2_with fail
              rw [← HWF.out]
              refine bodyPost_ret (v := .tuple #[v5, .agg #[.int .u8 (1), .bool (false), .string (⟨#[]⟩)], .int .i64 0]) (by clear r0 r1 r2 r3 r4 r5; rw [results_tct rfl]; go_simp; try rfl) rfl ?_
              rw [HD2.out]
              exact ⟨_, rfl, HOF.out, HBF.out⟩
          | false =>
            rw [hh] at p64
            cases fb with
            | true =>
              have hd : D = (l, ⟨1, false, ⟨#[]⟩⟩) := by rw [HD.out, HFT.out, hh]; simp
              have HD2 := Lib.hid hd
              clear hd
              obtain ⟨⟨r0, r1, r2, r3, r4, r5⟩, wf, hwf, ⟨g0, g1, g2⟩, hbf, hfar⟩ := HFIN.out w6 (1) (false) (⟨#[]⟩) hb6
              have hof := (Rec.Own.same ho6 (w' := wf) fun b h1 _ => hfar b (by have := HS2.out; omega)).base (show w.heap.size ≤ w2.heap.size by have := HS2.out; omega)
              have HWF := Lib.hid hwf
              have HOF := Lib.hid hof
              have HBF := Lib.hid hbf
              clear hwf hof hbf hfar
              go_wp2_with fail
              rw [← HWF.out]
              refine bodyPost_ret (v := .tuple #[v5, .agg #[.int .u8 (1), .bool (false), .string (⟨#[]⟩)], .int .i64 0]) (by clear r0 r1 r2 r3 r4 r5; rw [results_tct rfl]; go_simp; try rfl) rfl ?_
              rw [HD2.out]
              exact ⟨_, rfl, HOF.out, HBF.out⟩
            | false =>
              have hd : D = (putP l ⟨o.key, o.val⟩, ⟨1, true, ⟨#[]⟩⟩) := by rw [HD.out, HFT.out, hh]; simp
              have HD2 := Lib.hid hd
              clear hd
              have cP := CP.out
              go_wp2_with fail
              refine cP.mono ?_
              rintro e w7 ⟨v7, rfl, ho7, hb7'⟩
              have hb7 := hb6.trans (Joins.below_le hb7' hb6.size)
              have ho8 := Rec.Own.base ho7 hb6.size
              clear cP CP p60 p61 p62 p63 p64 c0 c1 hb7' hb6 ho6 ho7
              obtain ⟨⟨r0, r1, r2, r3, r4, r5⟩, wf, hwf, ⟨g0, g1, g2⟩, hbf, hfar⟩ := HFIN.out w7 (1) (true) (⟨#[]⟩) hb7
              have hof := (Rec.Own.same ho8 (w' := wf) fun b h1 _ => hfar b (by have := HS2.out; omega)).base (show w.heap.size ≤ w2.heap.size by have := HS2.out; omega)
              have HWF := Lib.hid hwf
              have HOF := Lib.hid hof
              have HBF := Lib.hid hbf
              clear hwf hof hbf hfar
              go_wp2_with fail
              rw [← HWF.out]
              refine bodyPost_ret (v := .tuple #[v7, .agg #[.int .u8 (1), .bool (true), .string (⟨#[]⟩)], .int .i64 0]) (by clear r0 r1 r2 r3 r4 r5; rw [results_tct rfl]; go_simp; try rfl) rfl ?_
              rw [HD2.out]
              exact ⟨_, rfl, HOF.out, HBF.out⟩
        · have hd : D = (delP l o.key, ⟨1, fb, ⟨#[]⟩⟩) := by rw [HDO.out]; unfold doP; rw [if_neg h1, if_neg h2, if_neg h4, HFB.out]
          have HD := Lib.hid hd
          have HB6 := Lib.hid hb6
          clear hd c0 c1
          go_wp2_with fail
          go_loopw [12, 13] (fun s12 s13 wr => ∃ i : Nat, s13 = .int .i64 (i : Int) ∧ i ≤ l.length ∧ Hid (pairR.Own wr w2.heap.size 24 s12 (delP (l.take i) o.key)) ∧ Hid (Below w2.heap.size w2 wr)) (fun _ s13 _ => l.length - (intOf s13).toNat)
          case atStart => exact ⟨0, rfl, Nat.zero_le _, Lib.hid (Rec.Own.none _ _ _ _), HB6⟩
          case round =>
            clear p60 p61 p62 p63 p64 HB6 hb6 ho6
            obtain ⟨i, rfl, hi, hO, hB⟩ := hrel
            by_cases hil : i < l.length
            · have a1 : (i : Int) < (l.length : Int) := by omega
              have a0 : (0 : Int) ≤ (i : Int) := by omega
              obtain ⟨q, hqi⟩ : ∃ q, l[i]? = some q := ⟨_, List.getElem?_eq_getElem hil⟩
              obtain ⟨b, ob, n', k', hv, -, -, f0, f1⟩ := pair_cell (HN.out.grow hB.out) hqi
              injection hv with e1 e2 e3
              subst e1 e2 e3
              have hopr : wr.heap[w.heap.size]? = some (.cells #[.int .u8 o.kind, .string o.key, .string o.val, .string o.old, .bool o.had] 32 (0, 0)) := (hB.out.block _ (by have := HS2.out; omega)).trans HX2.out
              obtain ⟨pr0, pr1, pr2, pr3, pr4⟩ : wr.cell? ⟨w.heap.size, 0, none⟩ = some (.int .u8 o.kind) ∧ wr.cell? ⟨w.heap.size, 1, none⟩ = some (.string o.key) ∧ wr.cell? ⟨w.heap.size, 2, none⟩ = some (.string o.val) ∧ wr.cell? ⟨w.heap.size, 3, none⟩ = some (.string o.old) ∧ wr.cell? ⟨w.heap.size, 4, none⟩ = some (.bool o.had) := ⟨(blk_cells hopr).1 0, (blk_cells hopr).1 1, (blk_cells hopr).1 2, (blk_cells hopr).1 3, (blk_cells hopr).1 4⟩
              clear hopr
              have hsn := delP_snoc hqi o.key
              have hdl := delP_length (l.take i) o.key
              have htl : (l.take i).length ≤ i := List.length_take_le _ _
              by_cases hq : q.key = o.key
              · have hq2 := eqS_yes hq
                rw [if_pos hq, List.append_nil] at hsn
                have HSN := Lib.hid hsn
                clear hsn
                go_upto_region 20 with fail
                go_quiet (fail)
                go_wp2_with fail
                exact ⟨⟨i + 1, by go_num, hil, Lib.hid (by rw [HSN.out]; exact Rec.Own.same hO.out fun _ _ _ => rfl), Lib.hid (below_drewN hB.out _)⟩, by simp [intOf]; omega⟩
              · have hq2 := eqS_no hq
                rw [if_neg hq] at hsn
                have HSN := Lib.hid hsn
                clear hsn
                go_upto_region 20 with fail
                go_quiet (fail)
                go_upto_region 21 with fail
                clear f0 f1 pr0 pr1 pr2 pr3 pr4
                generalize hwa : World.drewN _ _ = wa
                have hha : wa.heap = wr.heap := by rw [← hwa]; rfl
                have owna := Rec.Own.same hO.out (w' := wa) fun b _ _ => by rw [hha]
                have bela : Below w2.heap.size w2 wa := by rw [← hwa]; exact below_drewN hB.out _
                clear hwa hha
                obtain ⟨ba, oa, na, ka, hva, -, -, fa0, fa1⟩ := pair_cell (HN.out.grow bela) hqi
                injection hva with e1 e2 e3
                injection e1 with e1
                injection e1 with e0 e1
                subst e0 e1 e2 e3
                obtain ⟨vz, wz, hrz, hoz, hbz⟩ := app_pair (W := wa) q owna (by omega) bela.size
                have hbbz := bela.trans hbz
                have HRz := Lib.hid hrz
                have HOz := Lib.hid hoz
                have HBz := Lib.hid hbbz
                clear hrz hoz hbz hbbz
                go_upto_region 19 with (at_builtin; go_must (refine Lib.wpList_append_run _ rfl (.tmp 92) (.tmp 97) 25 25 rfl _ _ rfl rfl _ _ HRz.out ?_))
                go_wp2_with fail
                have hzz : Hid (pairR.Own wz w2.heap.size 24 vz (delP (l.take (i + 1)) o.key)) := Lib.hid (by rw [HSN.out]; exact HOz.out)
                refine ⟨⟨i + 1, by go_num, hil, ?_⟩, by simp [intOf]; omega⟩
                first
                  | exact ⟨hzz, HBz⟩
                  | exact hzz
            · have a1 : ¬ (i : Int) < (l.length : Int) := by omega
              have hall : l.take i = l := List.take_of_length_le (by omega)
              rw [hall] at hO
              obtain ⟨w7, hw7⟩ : ∃ w7 : World, w7 = wr := ⟨_, rfl⟩
              subst hw7
              have ho7 := hO.out
              have hb7 := hB.out
              clear hO hB hall
              obtain ⟨⟨r0, r1, r2, r3, r4, r5⟩, wf, hwf, ⟨g0, g1, g2⟩, hbf, hfar⟩ := HFIN.out w7 (1) (fb) (⟨#[]⟩) hb7
              have hof := (Rec.Own.same ho7 (w' := wf) fun b h1 _ => hfar b (by have := HS2.out; omega)).base (show w.heap.size ≤ w2.heap.size by have := HS2.out; omega)
              have HWF := Lib.hid hwf
              have HOF := Lib.hid hof
              have HBF := Lib.hid hbf
              clear hwf hof hbf hfar
              go_wp2_with fail
              rw [← HWF.out]
              refine bodyPost_ret (v := .tuple #[u12, .agg #[.int .u8 (1), .bool (fb), .string (⟨#[]⟩)], .int .i64 0]) (by clear r0 r1 r2 r3 r4 r5; rw [results_tct rfl]; go_simp; try rfl) rfl ?_
              rw [HD.out]
              exact ⟨_, rfl, HOF.out, HBF.out⟩
  · have hdo : D = ([], zR) := by rw [HDD.out]; unfold doE; rw [if_pos (by rw [← HER.out]; exact he)]
    have HD := Lib.hid hdo
    have ho3 := Rec.Own.none pairR w3 w2.heap.size 24
    clear hdo
    obtain ⟨⟨r0, r1, r2, r3, r4, r5⟩, wf, hwf, ⟨g0, g1, g2⟩, hbf, hfar⟩ := HFIN.out w3 (0) (false) (⟨#[]⟩) hb3
    have hof := (Rec.Own.same ho3 (w' := wf) fun b h1 _ => hfar b (by have := HS2.out; omega)).base (show w.heap.size ≤ w2.heap.size by have := HS2.out; omega)
    have HWF := Lib.hid hwf
    have HOF := Lib.hid hof
    have HBF := Lib.hid hbf
    clear hwf hof hbf hfar
    go_wp2_with fail
    rw [← HWF.out]
    refine bodyPost_ret (v := .tuple #[.slice none 0 0, .agg #[.int .u8 (0), .bool (false), .string (⟨#[]⟩)], .int .i64 er]) (by clear r0 r1 r2 r3 r4 r5; rw [results_tct rfl]; go_simp; try rfl) rfl ?_
    rw [HD.out]
    exact ⟨_, rfl, HOF.out, HBF.out⟩
end Go.Proofs.Ytlgjidoehnhnoaa
