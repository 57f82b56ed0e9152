/-
  The document's Note (package butteryref09). No statement is proved here. No condition.
-/
import Derived.Test.YtlgjidoehnhnoaaEPut
namespace Go.Proofs.Ytlgjidoehnhnoaa
open Go.RowKit

/-- append of any row of last writes -/
theorem app_lasts {W : World} {B : Nat} {v x : Value} {l m : List PL} {N : Nat → Prop} (h : lastR.Own W B 46 v l) (hx : lastR.N W N x m) (hl : l.length + m.length ≤ 3518437208883) (hB : B ≤ W.heap.size) :
    ∃ v' w', (Builtin.append_ #[33, 33] 33 #[v, x]).run Try.prog W = .ok v' w' ∧ lastR.Own w' B 46 v' (l ++ m) ∧ W.grownBy w' v.ownBlock ∧ (v'.ownBlock = v.ownBlock ∨ v'.ownBlock = some W.heap.size) := by
  obtain ⟨iu, hiu, z0, z1, z2⟩ := info_parts info_PL
  exact Rec.app (P := Try.prog) Try.underlying33 hiu z0 z1 z2 rfl (by decide) h hx (by unfold maxLen; omega) (by omega) hB
/-- append of one that a literal has made -/
theorem app_last {W : World} {B : Nat} {v : Value} {l : List PL} (q : PL) (h : lastR.Own W B 46 v l) (hl : l.length + 1 ≤ 3518437208883) (hB : B ≤ W.heap.size) :
    ∃ v' w', (Builtin.append_ #[33, 33] 33 #[v, .slice (some ⟨W.heap.size, 0, none⟩) 1 1]).run Try.prog (W.alloc (.cells #[.int .i64 q.client, .int .i64 q.id, .int .u8 q.res.kind, .bool q.res.found, .string q.res.val] 46)) = .ok v' w' ∧ lastR.Own w' B 46 v' (l ++ [q]) ∧ Below B W w' := by
  have hb : Below W.heap.size W (W.alloc (.cells #[.int .i64 q.client, .int .i64 q.id, .int .u8 q.res.kind, .bool q.res.found, .string q.res.val] 46)) := (Below.refl _ _).alloc (Nat.le_refl _) _
  have h1 := h.below hb
  have hB1 := Nat.le_trans hB hb.size
  obtain ⟨v', w', hr, h2, h3, -⟩ := app_lasts (N := Any) h1 (Rec.one_row (R := lastR) (a := q) (heap_alloc_new W _) trivial) hl hB1
  exact ⟨v', w', hr, h2, (Joins.below_le hb hB).trans (Own.grow_below h1 h3 hB1)⟩
def noteG (had : Bool) (x : PL) (l : List PL) : List PL := if had then repl (fun q => decide (q.client = x.client)) x l else ins (fun q => decide (x.client < q.client)) x l
def noteS (done had : Bool) (x : PL) (l : List PL) : List PL := if done then l else noteG had x l
theorem noteS_step {done had : Bool} {p q : PL} {l : List PL} : noteS done had p (q :: l) =
    if done then q :: l else if had then (if q.client = p.client then p :: l else q :: noteS false had p l) else (if p.client < q.client then p :: q :: l else q :: noteS false had p l) := by
  cases done with
  | true => rfl
  | false =>
    cases had with
    | true =>
      rw [show noteS false true p (q :: l) = repl (fun q => decide (q.client = p.client)) p (q :: l) from rfl, repl]
      by_cases h : q.client = p.client
      · simp [h]
      · simp [h, noteS, noteG]
    | false =>
      rw [show noteS false false p (q :: l) = ins (fun q => decide (p.client < q.client)) p (q :: l) from rfl, ins]
      by_cases h : p.client < q.client
      · simp [h]
      · simp [h, noteS, noteG]
theorem any_snoc {α : Type} {l : List α} {i : Nat} {a : α} (h : l[i]? = some a) (f : α → Bool) : (l.take (i + 1)).any f = ((l.take i).any f || f a) := by
  rw [List.take_add_one, h, List.any_append]
  simp

set_option maxHeartbeats 8000000 in
set_option maxRecDepth 100000 in
theorem rnote_any (l : List PL) (x : PL) (v : Value) (w : World) (h : lastR.N w Any v l) (hl : l.length ≤ 3518437208880) :
    Calls Try.prog 25 #[v, x.agg] w fun e w' => ∃ v', e = .returned v' ∧ lastR.Own w' w.heap.size 46 v' (noteP l x) ∧ Below w.heap.size w w' := by
  obtain ⟨A, c, rfl, hlc, hcm⟩ := h.slice
  obtain ⟨w1, hw1⟩ : ∃ w1, w1 = w.alloc (.cells #[.int .i64 x.client, .int .i64 x.id, .int .u8 x.res.kind, .bool x.res.found, .string x.res.val] 46) := ⟨_, rfl⟩
  have hb1 : Below w.heap.size w w1 := by rw [hw1]; exact (Below.refl _ _).alloc (Nat.le_refl _) _
  have hx1 : w1.heap[w.heap.size]? = some (.cells #[.int .i64 x.client, .int .i64 x.id, .int .u8 x.res.kind, .bool x.res.found, .string x.res.val] 46 (0, 0)) := by rw [hw1]; exact heap_alloc_new w _
  have hs1 : w1.heap.size = w.heap.size + 1 := by rw [hw1]; simp
  obtain ⟨T, hT⟩ : ∃ T, T = noteP l x := ⟨_, rfl⟩
  rw [← hT]
  have HN := Lib.hid (h.grow hb1)
  obtain ⟨hd, hhd⟩ : ∃ hd, hd = l.any fun q => decide (q.client = x.client) := ⟨_, rfl⟩
  have hTG : T = noteS false hd x (l.drop 0) := by rw [hT, hhd, List.drop_zero]; rfl
  have HT := Lib.hid hTG
  have HHD := Lib.hid hhd
  have HB1 := Lib.hid hb1
  have HX1 := Lib.hid hx1
  have HW1 := Lib.hid hw1
  have HS1 := Lib.hid hs1
  unfold maxLen at hcm
  clear h hb1 hx1 hw1 hhd hT hTG hs1
  unfold PL.agg
  go_enter Try.func25, Try.ntmps25
  go_upto_region 1 with fail
  rw [← HW1.out]
  go_wp2_with fail
  go_loopw [6, 7] (fun s6 s7 wr => ∃ i : Nat, s6 = .bool ((l.take i).any fun q => decide (q.client = x.client)) ∧ s7 = .int .i64 (i : Int) ∧ i ≤ l.length ∧ Hid (Below w1.heap.size w1 wr)) (fun _ s7 _ => l.length - (intOf s7).toNat)
  case atStart => exact ⟨0, rfl, rfl, Nat.zero_le _, Lib.hid (Below.refl _ _)⟩
  case round =>
    obtain ⟨i, rfl, rfl, hi, hB⟩ := hrel
    by_cases hil : i < l.length
    · have a1 : (i : Int) < (l.length : Int) := by omega
      have a0 : (0 : Int) ≤ (i : Int) := by omega
      obtain ⟨q, hqi⟩ : ∃ q, l[i]? = some q := ⟨_, List.getElem?_eq_getElem hil⟩
      obtain ⟨b, o, n', k', hv, -, hbs, c0, -⟩ := last_cell (HN.out.grow hB.out) hqi
      injection hv with e1 e2 e3
      subst e1 e2 e3
      have y : wr.heap[w.heap.size]? = some (.cells #[.int .i64 x.client, .int .i64 x.id, .int .u8 x.res.kind, .bool x.res.found, .string x.res.val] 46 (0, 0)) := (hB.out.block _ (by have := HS1.out; omega)).trans HX1.out
      have y0 : wr.cell? ⟨w.heap.size, 0, none⟩ = some (.int .i64 x.client) := (blk_cells y).1 0
      have hsn := any_snoc hqi fun q => decide (q.client = x.client)
      clear y
      cases hb : (l.take i).any fun q => decide (q.client = x.client) with
      | true =>
        rw [hb] at hsn
        have HSN := Lib.hid hsn
        clear hsn hb
        go_upto_region 6 with fail
        go_quiet (fail)
        go_wp2_with fail
        exact ⟨⟨i + 1, by rw [HSN.out]; rfl, by go_num, hil, Lib.hid (below_drewN hB.out _)⟩, by simp [intOf]; omega⟩
      | false =>
        rw [hb] at hsn
        by_cases hk : q.client = x.client
        · have HSN : Hid ((l.take (i + 1)).any (fun q => decide (q.client = x.client)) = true) := Lib.hid (by rw [hsn]; simp [hk])
          clear hsn hb
          go_upto_region 6 with fail
          go_quiet (fail)
          go_wp2_with fail
          exact ⟨⟨i + 1, by rw [HSN.out], by go_num, hil, Lib.hid (below_drewN hB.out _)⟩, by simp [intOf]; omega⟩
        · have HSN : Hid ((l.take (i + 1)).any (fun q => decide (q.client = x.client)) = false) := Lib.hid (by rw [hsn]; simp [hk])
          clear hsn hb
          go_upto_region 6 with fail
          go_quiet (fail)
          go_wp2_with fail
          exact ⟨⟨i + 1, by rw [HSN.out]; simp [hk], by go_num, hil, Lib.hid (below_drewN hB.out _)⟩, by simp [intOf]; omega⟩
    · have a1 : ¬ (i : Int) < (l.length : Int) := by omega
      have hall : l.take i = l := List.take_of_length_le (by omega)
      rw [hall, ← HHD.out]
      obtain ⟨had, hhad⟩ : ∃ had, had = hd := ⟨_, rfl⟩
      rw [← hhad] at HT ⊢
      have HB2 := hB
      obtain ⟨w2, hw2⟩ : ∃ w2 : World, w2 = wr := ⟨_, rfl⟩
      subst hw2
      clear hall hhad hB
      go_wp2_with fail
      clear hi hil a1
      go_loopw [5, 8, 9] (fun s5 s8 s9 wr => ∃ (i : Nat) (d : Bool) (L : List PL), s8 = .bool d ∧ s9 = .int .i64 (i : Int) ∧ i ≤ l.length ∧ L.length ≤ i + 1 ∧ (d = false → L.length ≤ i) ∧ Hid (T = L ++ noteS d had x (l.drop i)) ∧ Hid (lastR.Own wr w1.heap.size 46 s5 L) ∧ Hid (Below w1.heap.size w1 wr)) (fun _ _ s9 _ => l.length - (intOf s9).toNat)
      case atStart => exact ⟨0, false, [], rfl, rfl, Nat.zero_le _, Nat.zero_le _, fun _ => Nat.zero_le _, HT, Lib.hid (Rec.Own.none _ _ _ _), HB2⟩
      case round =>
        clear HT HB2
        obtain ⟨i, d, L, rfl, rfl, hi, hLi, hLd, hT, hO, hB⟩ := hrel
        by_cases hil : i < l.length
        · have a1 : (i : Int) < (l.length : Int) := by omega
          have a0 : (0 : Int) ≤ (i : Int) := by omega
          obtain ⟨q, hqi⟩ : ∃ q, l[i]? = some q := ⟨_, List.getElem?_eq_getElem hil⟩
          obtain ⟨b, o, n', k', hv, -, hbs, c0, c1⟩ := last_cell (HN.out.grow hB.out) hqi
          injection hv with e1 e2 e3
          subst e1 e2 e3
          have y : wr.heap[w.heap.size]? = some (.cells #[.int .i64 x.client, .int .i64 x.id, .int .u8 x.res.kind, .bool x.res.found, .string x.res.val] 46 (0, 0)) := (hB.out.block _ (by have := HS1.out; omega)).trans HX1.out
          have y0 : wr.cell? ⟨w.heap.size, 0, none⟩ = some (.int .i64 x.client) := (blk_cells y).1 0
          have y1 : wr.cell? ⟨w.heap.size, 1, none⟩ = some (.int .i64 x.id) := (blk_cells y).1 1
          have hT' := hT.out
          rw [drop_step hqi, noteS_step] at hT'
          clear y
          cases d with
          | true =>
            have hT2 : T = (L ++ [q]) ++ noteS true had x (l.drop (i + 1)) := by rw [hT']; simp [noteS]
            go_upto_region 11 with fail
            go_quiet (fail)
            go_upto_region 14 with fail
            go_quiet (fail)
            go_upto_region 17 with fail
            clear c0 c1 y0 y1 hT'
            generalize hwa : World.drewN _ _ = wa
            have hha : wa.heap = wr.heap := by rw [← hwa]; rfl
            have owna := Rec.Own.same hO.out (w' := wa) fun b _ _ => by rw [hha]
            have bela : Below w1.heap.size w1 wa := by rw [← hwa]; exact below_drewN (below_drewN (hB.out) _) _
            clear hwa hha
            obtain ⟨ba, oa, na, ka, hva, -, -, fa0, fa1, fa2, fa3, fa4⟩ := last_cell (HN.out.grow bela) hqi
            injection hva with e1 e2 e3
            injection e1 with e1
            injection e1 with e0 e1
            subst e0 e1 e2 e3
            obtain ⟨vz, wz, hrz, hoz, hbz⟩ := app_last (W := wa) q owna (by omega) bela.size
            have hbbz := bela.trans hbz
            have HRz := Lib.hid hrz
            have HOz := Lib.hid hoz
            have HBz := Lib.hid hbbz
            clear hrz hoz hbz hbbz
            go_upto_region 10 with (at_builtin; go_must (refine Lib.wpList_append_run _ rfl (.tmp 72) (.tmp 77) 33 33 rfl _ _ rfl rfl _ _ HRz.out ?_))
            have HT' := Lib.hid (hT2)
            go_wp2_with fail
            exact ⟨⟨i + 1, true, L ++ [q], rfl, by go_num, hil, by simp; omega, (fun h => by cases h), HT', HOz, HBz⟩, by simp [intOf]; omega⟩
          | false =>
            have hLe := hLd rfl
            cases had with
            | true =>
              by_cases hk : q.client = x.client
              · skip
                have hT2 : T = (L ++ [x]) ++ noteS true true x (l.drop (i + 1)) := by rw [hT']; simp [hk, noteS]
                go_upto_region 11 with fail
                go_quiet (fail)
                go_upto_region 12 with fail
                clear c0 c1 y0 y1 hT'
                generalize hwa : World.drewN _ _ = wa
                have hha : wa.heap = wr.heap := by rw [← hwa]; rfl
                have owna := Rec.Own.same hO.out (w' := wa) fun b _ _ => by rw [hha]
                have bela : Below w1.heap.size w1 wa := by rw [← hwa]; exact below_drewN (hB.out) _
                clear hwa hha
                have ga : wa.heap[w.heap.size]? = some (.cells #[.int .i64 x.client, .int .i64 x.id, .int .u8 x.res.kind, .bool x.res.found, .string x.res.val] 46 (0, 0)) := (bela.block _ (by have := HS1.out; omega)).trans HX1.out
                have ga0 : wa.cell? ⟨w.heap.size, 0, none⟩ = some (.int .i64 x.client) := (blk_cells ga).1 0
                have ga1 : wa.cell? ⟨w.heap.size, 1, none⟩ = some (.int .i64 x.id) := (blk_cells ga).1 1
                have ga2 : wa.cell? ⟨w.heap.size, 2, none⟩ = some (.int .u8 x.res.kind) := (blk_cells ga).1 2
                have ga3 : wa.cell? ⟨w.heap.size, 3, none⟩ = some (.bool x.res.found) := (blk_cells ga).1 3
                have ga4 : wa.cell? ⟨w.heap.size, 4, none⟩ = some (.string x.res.val) := (blk_cells ga).1 4
                clear ga
                obtain ⟨vz, wz, hrz, hoz, hbz⟩ := app_last (W := wa) x owna (by omega) bela.size
                have hbbz := bela.trans hbz
                have HRz := Lib.hid hrz
                have HOz := Lib.hid hoz
                have HBz := Lib.hid hbbz
                clear hrz hoz hbz hbbz
                go_upto_region 13 with (at_builtin; go_must (refine Lib.wpList_append_run _ rfl (.tmp 48) (.tmp 50) 33 33 rfl _ _ rfl rfl _ _ HRz.out ?_))
                have HT' := Lib.hid (hT2)
                go_wp2_with fail
                exact ⟨⟨i + 1, true, L ++ [x], rfl, by go_num, hil, by simp; omega, (fun h => by cases h), HT', HOz, HBz⟩, by simp [intOf]; omega⟩
              · skip
                have hT2 : T = (L ++ [q]) ++ noteS false true x (l.drop (i + 1)) := by rw [hT']; simp [hk]
                go_upto_region 11 with fail
                go_quiet (fail)
                go_upto_region 14 with fail
                go_quiet (fail)
                go_upto_region 17 with fail
                clear c0 c1 y0 y1 hT'
                generalize hwa : World.drewN _ _ = wa
                have hha : wa.heap = wr.heap := by rw [← hwa]; rfl
                have owna := Rec.Own.same hO.out (w' := wa) fun b _ _ => by rw [hha]
                have bela : Below w1.heap.size w1 wa := by rw [← hwa]; exact below_drewN (below_drewN (hB.out) _) _
                clear hwa hha
                obtain ⟨ba, oa, na, ka, hva, -, -, fa0, fa1, fa2, fa3, fa4⟩ := last_cell (HN.out.grow bela) hqi
                injection hva with e1 e2 e3
                injection e1 with e1
                injection e1 with e0 e1
                subst e0 e1 e2 e3
                obtain ⟨vz, wz, hrz, hoz, hbz⟩ := app_last (W := wa) q owna (by omega) bela.size
                have hbbz := bela.trans hbz
                have HRz := Lib.hid hrz
                have HOz := Lib.hid hoz
                have HBz := Lib.hid hbbz
                clear hrz hoz hbz hbbz
                go_upto_region 10 with (at_builtin; go_must (refine Lib.wpList_append_run _ rfl (.tmp 72) (.tmp 77) 33 33 rfl _ _ rfl rfl _ _ HRz.out ?_))
                have HT' := Lib.hid (hT2)
                go_wp2_with fail
                exact ⟨⟨i + 1, false, L ++ [q], rfl, by go_num, hil, by simp; omega, (fun _ => by simp; omega), HT', HOz, HBz⟩, by simp [intOf]; omega⟩
            | false =>
              cases hk : decide (x.client < q.client) with
              | true =>
                have hk2 : x.client < q.client := of_decide_eq_true hk
                have hT2 : T = (L ++ [x] ++ [q]) ++ noteS true false x (l.drop (i + 1)) := by rw [hT']; simp [hk2, noteS]
                go_upto_region 11 with fail
                go_quiet (fail)
                go_upto_region 14 with fail
                go_quiet (fail)
                go_upto_region 15 with fail
                clear c0 c1 y0 y1 hT'
                generalize hwa : World.drewN _ _ = wa
                have hha : wa.heap = wr.heap := by rw [← hwa]; rfl
                have owna := Rec.Own.same hO.out (w' := wa) fun b _ _ => by rw [hha]
                have bela : Below w1.heap.size w1 wa := by rw [← hwa]; exact below_drewN (below_drewN (hB.out) _) _
                clear hwa hha
                have ga : wa.heap[w.heap.size]? = some (.cells #[.int .i64 x.client, .int .i64 x.id, .int .u8 x.res.kind, .bool x.res.found, .string x.res.val] 46 (0, 0)) := (bela.block _ (by have := HS1.out; omega)).trans HX1.out
                have ga0 : wa.cell? ⟨w.heap.size, 0, none⟩ = some (.int .i64 x.client) := (blk_cells ga).1 0
                have ga1 : wa.cell? ⟨w.heap.size, 1, none⟩ = some (.int .i64 x.id) := (blk_cells ga).1 1
                have ga2 : wa.cell? ⟨w.heap.size, 2, none⟩ = some (.int .u8 x.res.kind) := (blk_cells ga).1 2
                have ga3 : wa.cell? ⟨w.heap.size, 3, none⟩ = some (.bool x.res.found) := (blk_cells ga).1 3
                have ga4 : wa.cell? ⟨w.heap.size, 4, none⟩ = some (.string x.res.val) := (blk_cells ga).1 4
                clear ga
                obtain ⟨vx, wx, hrx, hox, hbx⟩ := app_last (W := wa) x owna (by omega) bela.size
                have hbbx := bela.trans hbx
                have HRx := Lib.hid hrx
                have HOx := Lib.hid hox
                have HBx := Lib.hid hbbx
                clear hrx hox hbx hbbx
                go_upto_region 17 with (at_builtin; go_must (refine Lib.wpList_append_run _ rfl (.tmp 68) (.tmp 70) 33 33 rfl _ _ rfl rfl _ _ HRx.out ?_))
                obtain ⟨bx, ox, nx, kx, hvx, -, -, fx0, fx1, fx2, fx3, fx4⟩ := last_cell (HN.out.grow HBx.out) hqi
                injection hvx with e1 e2 e3
                injection e1 with e1
                injection e1 with e0 e1
                subst e0 e1 e2 e3
                obtain ⟨vz, wz, hrz, hoz, hbz⟩ := app_last (W := wx) q HOx.out (by simp; omega) HBx.out.size
                have hbbz := HBx.out.trans hbz
                have HRz := Lib.hid hrz
                have HOz := Lib.hid hoz
                have HBz := Lib.hid hbbz
                clear hrz hoz hbz hbbz
                go_upto_region 10 with (at_builtin; go_must (refine Lib.wpList_append_run _ rfl (.tmp 72) (.tmp 77) 33 33 rfl _ _ rfl rfl _ _ HRz.out ?_))
                have HT' := Lib.hid (hT2)
                go_wp2_with fail
                exact ⟨⟨i + 1, true, L ++ [x] ++ [q], rfl, by go_num, hil, by simp; omega, (fun h => by cases h), HT', HOz, HBz⟩, by simp [intOf]; omega⟩
              | false =>
                have hk2 : ¬ x.client < q.client := of_decide_eq_false hk
                have hT2 : T = (L ++ [q]) ++ noteS false false x (l.drop (i + 1)) := by rw [hT']; simp [hk2]
                go_upto_region 11 with fail
                go_quiet (fail)
                go_upto_region 14 with fail
                go_quiet (fail)
                go_upto_region 17 with fail
                clear c0 c1 y0 y1 hT'
                generalize hwa : World.drewN _ _ = wa
                have hha : wa.heap = wr.heap := by rw [← hwa]; rfl
                have owna := Rec.Own.same hO.out (w' := wa) fun b _ _ => by rw [hha]
                have bela : Below w1.heap.size w1 wa := by rw [← hwa]; exact below_drewN (below_drewN (hB.out) _) _
                clear hwa hha
                obtain ⟨ba, oa, na, ka, hva, -, -, fa0, fa1, fa2, fa3, fa4⟩ := last_cell (HN.out.grow bela) hqi
                injection hva with e1 e2 e3
                injection e1 with e1
                injection e1 with e0 e1
                subst e0 e1 e2 e3
                obtain ⟨vz, wz, hrz, hoz, hbz⟩ := app_last (W := wa) q owna (by omega) bela.size
                have hbbz := bela.trans hbz
                have HRz := Lib.hid hrz
                have HOz := Lib.hid hoz
                have HBz := Lib.hid hbbz
                clear hrz hoz hbz hbbz
                go_upto_region 10 with (at_builtin; go_must (refine Lib.wpList_append_run _ rfl (.tmp 72) (.tmp 77) 33 33 rfl _ _ rfl rfl _ _ HRz.out ?_))
                have HT' := Lib.hid (hT2)
                go_wp2_with fail
                exact ⟨⟨i + 1, false, L ++ [q], rfl, by go_num, hil, by simp; omega, (fun _ => by simp; omega), HT', HOz, HBz⟩, by simp [intOf]; omega⟩
        · have a1 : ¬ (i : Int) < (l.length : Int) := by omega
          have y : wr.heap[w.heap.size]? = some (.cells #[.int .i64 x.client, .int .i64 x.id, .int .u8 x.res.kind, .bool x.res.found, .string x.res.val] 46 (0, 0)) := (hB.out.block _ (by have := HS1.out; omega)).trans HX1.out
          have y0 : wr.cell? ⟨w.heap.size, 0, none⟩ = some (.int .i64 x.client) := (blk_cells y).1 0
          have y1 : wr.cell? ⟨w.heap.size, 1, none⟩ = some (.int .i64 x.id) := (blk_cells y).1 1
          have y2 : wr.cell? ⟨w.heap.size, 2, none⟩ = some (.int .u8 x.res.kind) := (blk_cells y).1 2
          have y3 : wr.cell? ⟨w.heap.size, 3, none⟩ = some (.bool x.res.found) := (blk_cells y).1 3
          have y4 : wr.cell? ⟨w.heap.size, 4, none⟩ = some (.string x.res.val) := (blk_cells y).1 4
          have hT' := hT.out
          rw [List.drop_of_length_le (by omega)] at hT'
          clear y
          cases d with
          | true =>
            have HT' : Hid (T = L) := Lib.hid (by rw [hT']; simp [noteS])
            clear hT' hT
            go_wp2_with fail
            go_ret
            exact ⟨_, rfl, by rw [HT'.out]; exact hO.out.base HB1.out.size, HB1.out.trans (Joins.below_le hB.out HB1.out.size)⟩
          | false =>
            have HT' : Hid (T = L ++ [x]) := Lib.hid (by rw [hT']; cases had <;> rfl)
            clear hT' hT
            obtain ⟨v', w', hr, ho, hb⟩ := app_last (W := wr) x hO.out (by omega) hB.out.size
            have hbb := hB.out.trans hb
            have HR := Lib.hid hr
            have HO := Lib.hid ho
            have HB := Lib.hid hbb
            clear hr ho hb hbb
            go_upto_region 20 with (at_builtin; go_must (refine Lib.wpList_append_run _ rfl (.tmp 81) (.tmp 83) 33 33 rfl _ _ rfl rfl _ _ HR.out ?_))
            go_wp2_with fail
            go_ret
            exact ⟨_, rfl, by rw [HT'.out]; exact HO.out.base HB1.out.size, HB1.out.trans (Joins.below_le HB.out HB1.out.size)⟩
end Go.Proofs.Ytlgjidoehnhnoaa
