/-
  The document's Put (package butteryref09). No statement is proved here. No condition.
-/
import Derived.Test.YtlgjidoehnhnoaaERef
namespace Go.Proofs.Ytlgjidoehnhnoaa
open Go.RowKit

theorem info_PP : (Try.prog.info? 24).map (fun i => (i.zero, i.size, i.bytes)) = some (some (.agg #[.string ⟨#[]⟩, .string ⟨#[]⟩]), 2, 32) := by kernel_rfl
theorem info_PL : (Try.prog.info? 46).map (fun i => (i.zero, i.size, i.bytes)) = some (some (.agg #[.int .i64 0, .int .i64 0, .int .u8 0, .bool false, .string ⟨#[]⟩]), 5, 40) := by kernel_rfl
/-- append of any row of pairs -/
theorem app_pairs {W : World} {B : Nat} {v x : Value} {l m : List PP} {N : Nat → Prop} (h : pairR.Own W B 24 v l) (hx : pairR.N W N x m) (hl : l.length + m.length ≤ 4398046511104) (hB : B ≤ W.heap.size) :
    ∃ v' w', (Builtin.append_ #[25, 25] 25 #[v, x]).run Try.prog W = .ok v' w' ∧ pairR.Own w' B 24 v' (l ++ m) ∧ W.grownBy w' v.ownBlock ∧ (v'.ownBlock = v.ownBlock ∨ v'.ownBlock = some W.heap.size) := by
  obtain ⟨iu, hiu, z0, z1, z2⟩ := info_parts info_PP
  exact Rec.app (P := Try.prog) Try.underlying25 hiu z0 z1 z2 rfl (by decide) h hx (by unfold maxLen; omega) (by omega) hB
theorem Own.grow_below {α : Type} {R : Rec α} {W w' : World} {B : Nat} {T : TypeId} {v : Value} {l : List α} (h : R.Own W B T v l) (hg : W.grownBy w' v.ownBlock) (hB : B ≤ W.heap.size) : Below B W w' :=
  (Below.refl B W).grown hg hB fun k hk => (h.lt k hk).1
/-- append of one pair that a literal has made -/
theorem app_pair {W : World} {B : Nat} {v : Value} {l : List PP} (q : PP) (h : pairR.Own W B 24 v l) (hl : l.length + 1 ≤ 4398046511104) (hB : B ≤ W.heap.size) :
    ∃ v' w', (Builtin.append_ #[25, 25] 25 #[v, .slice (some ⟨W.heap.size, 0, none⟩) 1 1]).run Try.prog (W.alloc (.cells #[.string q.key, .string q.val] 24)) = .ok v' w' ∧ pairR.Own w' B 24 v' (l ++ [q]) ∧ Below B W w' := by
  have hb : Below W.heap.size W (W.alloc (.cells #[.string q.key, .string q.val] 24)) := (Below.refl _ _).alloc (Nat.le_refl _) _
  have h1 := h.below hb
  have hB1 := Nat.le_trans hB hb.size
  obtain ⟨v', w', hr, h2, h3, -⟩ := app_pairs (N := Any) h1 (Rec.one_row (R := pairR) (a := q) (heap_alloc_new W _) trivial) hl hB1
  exact ⟨v', w', hr, h2, (Joins.below_le hb hB).trans (Own.grow_below h1 h3 hB1)⟩

/-- what is left to do, where it is not done -/
def putG (had : Bool) (p : PP) (l : List PP) : List PP := if had then repl (fun q => decide (q.key = p.key)) p l else ins (fun q => bLt p.key q.key) p l
def putS (done had : Bool) (p : PP) (l : List PP) : List PP := if done then l else putG had p l
theorem putP_G (l : List PP) (p : PP) : putP l p = putG (findP l p.key).isSome p l := by
  unfold putP putBy putG
  rw [findP_any]
theorem drop_step {α : Type} {l : List α} {i : Nat} {a : α} (h : l[i]? = some a) : l.drop i = a :: l.drop (i + 1) := by
  rw [List.drop_eq_getElem_cons (List.getElem?_eq_some_iff.1 h).1, (List.getElem?_eq_some_iff.1 h).2]
/-- one step of what is left -/
theorem putS_step {done had : Bool} {p q : PP} {l : List PP} : putS done had p (q :: l) =
    if done then q :: l else if had then (if q.key = p.key then p :: l else q :: putS false had p l) else (if bLt p.key q.key then p :: q :: l else q :: putS false had p l) := by
  cases done with
  | true => rfl
  | false =>
    cases had with
    | true =>
      rw [show putS false true p (q :: l) = repl (fun q => decide (q.key = p.key)) p (q :: l) from rfl, repl]
      by_cases h : q.key = p.key
      · simp [h]
      · simp [h, putS, putG]
    | false =>
      rw [show putS false false p (q :: l) = ins (fun q => bLt p.key q.key) p (q :: l) from rfl, ins]
      cases h : bLt p.key q.key <;> simp [h, putS, putG]

set_option maxHeartbeats 4000000 in
set_option maxRecDepth 100000 in
theorem rput_any (l : List PP) (p : PP) (v : Value) (w : World) (h : pairR.N w Any v l) (hl : l.length ≤ 4398046511000) :
    Calls Try.prog 37 #[v, p.agg] w fun e w' => ∃ v', e = .returned v' ∧ pairR.Own w' w.heap.size 24 v' (putP l p) ∧ Below w.heap.size w w' := by
  obtain ⟨A, c, rfl, hlc, hcm⟩ := h.slice
  obtain ⟨w1, hw1⟩ : ∃ w1, w1 = w.alloc (.cells #[.string p.key, .string p.val] 24) := ⟨_, rfl⟩
  have hb1 : Below w.heap.size w w1 := by rw [hw1]; exact (Below.refl _ _).alloc (Nat.le_refl _) _
  have hx1 : w1.heap[w.heap.size]? = some (.cells #[.string p.key, .string p.val] 24 (0, 0)) := by rw [hw1]; exact heap_alloc_new w _
  have hs1 : w1.heap.size = w.heap.size + 1 := by rw [hw1]; simp
  have x0 : w1.cell? ⟨w.heap.size, 0, none⟩ = some (.string p.key) := (blk_cells hx1).1 0
  have cF := rfind_any l p.key _ w1 (h.grow hb1)
  obtain ⟨had, hhad⟩ : ∃ had, had = (findP l p.key).isSome := ⟨_, rfl⟩
  obtain ⟨fv, hfv⟩ : ∃ fv, fv = (findP l p.key).getD ⟨#[]⟩ := ⟨_, rfl⟩
  rw [← hhad, ← hfv] at cF
  obtain ⟨T, hT⟩ : ∃ T, T = putP l p := ⟨_, rfl⟩
  rw [← hT]
  have HN := Lib.hid (h.grow hb1)
  have hTG : T = putS false had p (l.drop 0) := by rw [hT, putP_G, ← hhad, List.drop_zero]; rfl
  have HT := Lib.hid hTG
  have HB1 := Lib.hid hb1
  have HX1 := Lib.hid hx1
  have HW1 := Lib.hid hw1
  have HS1 := Lib.hid hs1
  unfold maxLen at hcm
  clear h hb1 hx1 hw1 hhad hfv hT hTG hs1
  unfold PP.agg
  go_enter Try.func37, Try.ntmps37
  go_upto_region 2 with fail
  rw [← HW1.out]
  go_wp2_with fail
  refine cF.mono ?_
  rintro e w2 ⟨rfl, hb2⟩
  have HB2 := Lib.hid hb2
  clear cF x0 hb2
  go_wp2_with fail
  go_loopw [5, 8, 9] (fun s5 s8 s9 wr => ∃ (i : Nat) (d : Bool) (L : List PP), s8 = .bool d ∧ s9 = .int .i64 (i : Int) ∧ i ≤ l.length ∧ L.length ≤ i + 1 ∧ (d = false → L.length ≤ i) ∧ Hid (T = L ++ putS d had p (l.drop i)) ∧ Hid (pairR.Own wr w1.heap.size 24 s5 L) ∧ Hid (Below w1.heap.size w1 wr)) (fun _ _ s9 _ => l.length - (intOf s9).toNat)
  case atStart => exact ⟨0, false, [], rfl, rfl, Nat.zero_le _, Nat.zero_le _, fun _ => Nat.zero_le _, HT, Lib.hid (Rec.Own.none _ _ _ _), HB2⟩
  case round =>
    clear HT HB2
    obtain ⟨i, d, L, rfl, rfl, hi, hLi, hLd, hT, hO, hB⟩ := hrel
    by_cases hil : i < l.length
    · have a1 : (i : Int) < (l.length : Int) := by omega
      have a0 : (0 : Int) ≤ (i : Int) := by omega
      obtain ⟨q, hqi⟩ : ∃ q, l[i]? = some q := ⟨_, List.getElem?_eq_getElem hil⟩
      obtain ⟨b, o, n', k', hv, -, hbs, c0, c1⟩ := pair_cell (HN.out.grow hB.out) hqi
      injection hv with e1 e2 e3
      subst e1 e2 e3
      have y : wr.heap[w.heap.size]? = some (.cells #[.string p.key, .string p.val] 24 (0, 0)) := (hB.out.block _ (by have := HS1.out; omega)).trans HX1.out
      have y0 : wr.cell? ⟨w.heap.size, 0, none⟩ = some (.string p.key) := (blk_cells y).1 0
      have y1 : wr.cell? ⟨w.heap.size, 1, none⟩ = some (.string p.val) := (blk_cells y).1 1
      have hT' := hT.out
      rw [drop_step hqi, putS_step] at hT'
      clear y
      cases d with
      | true =>
        have hT2 : T = (L ++ [q]) ++ putS true had p (l.drop (i + 1)) := by rw [hT']; simp [putS]
        go_upto_region 7 with fail
        go_quiet (fail)
        go_upto_region 10 with fail
        go_quiet (fail)
        go_upto_region 13 with fail
        clear c0 c1 y0 y1 hT'
        generalize hwa : World.drewN _ _ = wa
        have hha : wa.heap = wr.heap := by rw [← hwa]; rfl
        have owna := Rec.Own.same hO.out (w' := wa) fun b _ _ => by rw [hha]
        have bela : Below w1.heap.size w1 wa := by rw [← hwa]; exact below_drewN (below_drewN (hB.out) _) _
        clear hwa hha
        obtain ⟨ba, oa, na, ka, hva, -, -, fa0, fa1⟩ := pair_cell (HN.out.grow bela) hqi
        injection hva with e1 e2 e3
        injection e1 with e1
        injection e1 with e0 e1
        subst e0 e1 e2 e3
        obtain ⟨vz, wz, hrz, hoz, hbz⟩ := app_pair (W := wa) q owna (by omega) bela.size
        have hbbz := bela.trans hbz
        have HRz := Lib.hid hrz
        have HOz := Lib.hid hoz
        have HBz := Lib.hid hbbz
        clear hrz hoz hbz hbbz
        go_upto_region 6 with (at_builtin; go_must (refine Lib.wpList_append_run _ rfl (.tmp 62) (.tmp 67) 25 25 rfl _ _ rfl rfl _ _ HRz.out ?_))
        have HT' := Lib.hid (hT2)
        go_wp2_with fail
        exact ⟨⟨i + 1, true, L ++ [q], rfl, by go_num, hil, by simp; omega, (fun h => by cases h), HT', HOz, HBz⟩, by simp [intOf]; omega⟩
      | false =>
        have hLe := hLd rfl
        cases had with
        | true =>
          by_cases hk : q.key = p.key
          · have hk2 := eqS_yes hk
            have hT2 : T = (L ++ [p]) ++ putS true true p (l.drop (i + 1)) := by rw [hT']; simp [hk, putS]
            go_upto_region 7 with fail
            go_quiet (fail)
            go_upto_region 8 with fail
            clear c0 c1 y0 y1 hT'
            generalize hwa : World.drewN _ _ = wa
            have hha : wa.heap = wr.heap := by rw [← hwa]; rfl
            have owna := Rec.Own.same hO.out (w' := wa) fun b _ _ => by rw [hha]
            have bela : Below w1.heap.size w1 wa := by rw [← hwa]; exact below_drewN (hB.out) _
            clear hwa hha
            have ga : wa.heap[w.heap.size]? = some (.cells #[.string p.key, .string p.val] 24 (0, 0)) := (bela.block _ (by have := HS1.out; omega)).trans HX1.out
            have ga0 : wa.cell? ⟨w.heap.size, 0, none⟩ = some (.string p.key) := (blk_cells ga).1 0
            have ga1 : wa.cell? ⟨w.heap.size, 1, none⟩ = some (.string p.val) := (blk_cells ga).1 1
            clear ga
            obtain ⟨vz, wz, hrz, hoz, hbz⟩ := app_pair (W := wa) p owna (by omega) bela.size
            have hbbz := bela.trans hbz
            have HRz := Lib.hid hrz
            have HOz := Lib.hid hoz
            have HBz := Lib.hid hbbz
            clear hrz hoz hbz hbbz
            go_upto_region 9 with (at_builtin; go_must (refine Lib.wpList_append_run _ rfl (.tmp 38) (.tmp 40) 25 25 rfl _ _ rfl rfl _ _ HRz.out ?_))
            have HT' := Lib.hid (hT2)
            go_wp2_with fail
            exact ⟨⟨i + 1, true, L ++ [p], rfl, by go_num, hil, by simp; omega, (fun h => by cases h), HT', HOz, HBz⟩, by simp [intOf]; omega⟩
          · have hk2 := eqS_no hk
            have hT2 : T = (L ++ [q]) ++ putS false true p (l.drop (i + 1)) := by rw [hT']; simp [hk]
            go_upto_region 7 with fail
            go_quiet (fail)
            go_upto_region 10 with fail
            go_quiet (fail)
            go_upto_region 13 with fail
            clear c0 c1 y0 y1 hT'
            generalize hwa : World.drewN _ _ = wa
            have hha : wa.heap = wr.heap := by rw [← hwa]; rfl
            have owna := Rec.Own.same hO.out (w' := wa) fun b _ _ => by rw [hha]
            have bela : Below w1.heap.size w1 wa := by rw [← hwa]; exact below_drewN (below_drewN (hB.out) _) _
            clear hwa hha
            obtain ⟨ba, oa, na, ka, hva, -, -, fa0, fa1⟩ := pair_cell (HN.out.grow bela) hqi
            injection hva with e1 e2 e3
            injection e1 with e1
            injection e1 with e0 e1
            subst e0 e1 e2 e3
            obtain ⟨vz, wz, hrz, hoz, hbz⟩ := app_pair (W := wa) q owna (by omega) bela.size
            have hbbz := bela.trans hbz
            have HRz := Lib.hid hrz
            have HOz := Lib.hid hoz
            have HBz := Lib.hid hbbz
            clear hrz hoz hbz hbbz
            go_upto_region 6 with (at_builtin; go_must (refine Lib.wpList_append_run _ rfl (.tmp 62) (.tmp 67) 25 25 rfl _ _ rfl rfl _ _ HRz.out ?_))
            have HT' := Lib.hid (hT2)
            go_wp2_with fail
            exact ⟨⟨i + 1, false, L ++ [q], rfl, by go_num, hil, by simp; omega, (fun _ => by simp; omega), HT', HOz, HBz⟩, by simp [intOf]; omega⟩
        | false =>
          cases hk : bLt p.key q.key with
          | true =>
            have hk2 := (gtr_bLt q.key p.key).trans hk
            have hT2 : T = (L ++ [p] ++ [q]) ++ putS true false p (l.drop (i + 1)) := by rw [hT']; simp [hk, putS]
            go_upto_region 7 with fail
            go_quiet (fail)
            go_upto_region 10 with fail
            go_quiet (fail)
            go_upto_region 11 with fail
            clear c0 c1 y0 y1 hT'
            generalize hwa : World.drewN _ _ = wa
            have hha : wa.heap = wr.heap := by rw [← hwa]; rfl
            have owna := Rec.Own.same hO.out (w' := wa) fun b _ _ => by rw [hha]
            have bela : Below w1.heap.size w1 wa := by rw [← hwa]; exact below_drewN (below_drewN (hB.out) _) _
            clear hwa hha
            have ga : wa.heap[w.heap.size]? = some (.cells #[.string p.key, .string p.val] 24 (0, 0)) := (bela.block _ (by have := HS1.out; omega)).trans HX1.out
            have ga0 : wa.cell? ⟨w.heap.size, 0, none⟩ = some (.string p.key) := (blk_cells ga).1 0
            have ga1 : wa.cell? ⟨w.heap.size, 1, none⟩ = some (.string p.val) := (blk_cells ga).1 1
            clear ga
            obtain ⟨vx, wx, hrx, hox, hbx⟩ := app_pair (W := wa) p owna (by omega) bela.size
            have hbbx := bela.trans hbx
            have HRx := Lib.hid hrx
            have HOx := Lib.hid hox
            have HBx := Lib.hid hbbx
            clear hrx hox hbx hbbx
            go_upto_region 13 with (at_builtin; go_must (refine Lib.wpList_append_run _ rfl (.tmp 58) (.tmp 60) 25 25 rfl _ _ rfl rfl _ _ HRx.out ?_))
            obtain ⟨bx, ox, nx, kx, hvx, -, -, fx0, fx1⟩ := pair_cell (HN.out.grow HBx.out) hqi
            injection hvx with e1 e2 e3
            injection e1 with e1
            injection e1 with e0 e1
            subst e0 e1 e2 e3
            obtain ⟨vz, wz, hrz, hoz, hbz⟩ := app_pair (W := wx) q HOx.out (by simp; omega) HBx.out.size
            have hbbz := HBx.out.trans hbz
            have HRz := Lib.hid hrz
            have HOz := Lib.hid hoz
            have HBz := Lib.hid hbbz
            clear hrz hoz hbz hbbz
            go_upto_region 6 with (at_builtin; go_must (refine Lib.wpList_append_run _ rfl (.tmp 62) (.tmp 67) 25 25 rfl _ _ rfl rfl _ _ HRz.out ?_))
            have HT' := Lib.hid (hT2)
            go_wp2_with fail
            exact ⟨⟨i + 1, true, L ++ [p] ++ [q], rfl, by go_num, hil, by simp; omega, (fun h => by cases h), HT', HOz, HBz⟩, by simp [intOf]; omega⟩
          | false =>
            have hk2 := (gtr_bLt q.key p.key).trans hk
            have hT2 : T = (L ++ [q]) ++ putS false false p (l.drop (i + 1)) := by rw [hT']; simp [hk]
            go_upto_region 7 with fail
            go_quiet (fail)
            go_upto_region 10 with fail
            go_quiet (fail)
            go_upto_region 13 with fail
            clear c0 c1 y0 y1 hT'
            generalize hwa : World.drewN _ _ = wa
            have hha : wa.heap = wr.heap := by rw [← hwa]; rfl
            have owna := Rec.Own.same hO.out (w' := wa) fun b _ _ => by rw [hha]
            have bela : Below w1.heap.size w1 wa := by rw [← hwa]; exact below_drewN (below_drewN (hB.out) _) _
            clear hwa hha
            obtain ⟨ba, oa, na, ka, hva, -, -, fa0, fa1⟩ := pair_cell (HN.out.grow bela) hqi
            injection hva with e1 e2 e3
            injection e1 with e1
            injection e1 with e0 e1
            subst e0 e1 e2 e3
            obtain ⟨vz, wz, hrz, hoz, hbz⟩ := app_pair (W := wa) q owna (by omega) bela.size
            have hbbz := bela.trans hbz
            have HRz := Lib.hid hrz
            have HOz := Lib.hid hoz
            have HBz := Lib.hid hbbz
            clear hrz hoz hbz hbbz
            go_upto_region 6 with (at_builtin; go_must (refine Lib.wpList_append_run _ rfl (.tmp 62) (.tmp 67) 25 25 rfl _ _ rfl rfl _ _ HRz.out ?_))
            have HT' := Lib.hid (hT2)
            go_wp2_with fail
            exact ⟨⟨i + 1, false, L ++ [q], rfl, by go_num, hil, by simp; omega, (fun _ => by simp; omega), HT', HOz, HBz⟩, by simp [intOf]; omega⟩
    · have a1 : ¬ (i : Int) < (l.length : Int) := by omega
      have y : wr.heap[w.heap.size]? = some (.cells #[.string p.key, .string p.val] 24 (0, 0)) := (hB.out.block _ (by have := HS1.out; omega)).trans HX1.out
      have y0 : wr.cell? ⟨w.heap.size, 0, none⟩ = some (.string p.key) := (blk_cells y).1 0
      have y1 : wr.cell? ⟨w.heap.size, 1, none⟩ = some (.string p.val) := (blk_cells y).1 1
      have hT' := hT.out
      rw [List.drop_of_length_le (by omega)] at hT'
      clear y
      cases d with
      | true =>
        have HT' : Hid (T = L) := Lib.hid (by rw [hT']; simp [putS])
        clear hT' hT
        go_wp2_with fail
        go_ret
        exact ⟨_, rfl, by rw [HT'.out]; exact hO.out.base HB1.out.size, HB1.out.trans (Joins.below_le hB.out HB1.out.size)⟩
      | false =>
        have HT' : Hid (T = L ++ [p]) := Lib.hid (by rw [hT']; cases had <;> rfl)
        clear hT' hT
        obtain ⟨v', w', hr, ho, hb⟩ := app_pair (W := wr) p hO.out (by omega) hB.out.size
        have hbb := hB.out.trans hb
        have HR := Lib.hid hr
        have HO := Lib.hid ho
        have HB := Lib.hid hbb
        clear hr ho hb hbb
        go_upto_region 16 with (at_builtin; go_must (refine Lib.wpList_append_run _ rfl (.tmp 71) (.tmp 73) 25 25 rfl _ _ rfl rfl _ _ HR.out ?_))
        go_wp2_with fail
        go_ret
        exact ⟨_, rfl, by rw [HT'.out]; exact HO.out.base HB1.out.size, HB1.out.trans (Joins.below_le HB.out HB1.out.size)⟩
end Go.Proofs.Ytlgjidoehnhnoaa
