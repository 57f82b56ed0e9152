/-
  Entries merged behind an index: the program's Merge. No statement is proved here. No condition.
-/
import Derived.Test.YtackfigkhjdidaaLMergeP
import Derived.StillTailTactics
namespace Go.Proofs.Ytackfigkhjdidaa
open Go.RowKit

/-- what a merge leaves -/
def MergePost (w : World) (B p : Nat) (v : Value) (M : (Int × Int) × LG) (e : Ending) (w' : World) : Prop :=
  e = .returned (.tuple #[.int .i64 M.1.1, .int .i64 M.1.2]) ∧ (∃ u, LogAt w' B p u M.2 ∧ u.ownBlock.isSome = true ∧ (u.ownBlock = v.ownBlock ∨ ∀ b, u.ownBlock = some b → w.heap.size ≤ b)) ∧ Turned p v w w'
theorem MergePost.none {w w' : World} {B p : Nat} {v : Value} {g : LG} {M : (Int × Int) × LG} {a b : Int} {e : Ending} (hM : M = ((a, b), g)) (h : LogAt w B p v g) (hs : v.ownBlock.isSome = true) (hb : Below w.heap.size w w') (he : e = .returned (.tuple #[.int .i64 a, .int .i64 b])) : MergePost w B p v M e w' := by
  subst hM
  exact ⟨he, ⟨v, h.below hb, hs, .inl rfl⟩, Turned.of_below hb⟩
set_option maxHeartbeats 4000000 in
set_option maxRecDepth 100000 in
theorem merge_any (g : LG) (B p : Nat) (v vl : Value) (prev term : Int) (l : List EN) (N : Nat → Prop) (w : World) (h : LogAt w B p v g) (hs : v.ownBlock.isSome = true) (hl : EntN w N vl l) (hN : OffLog w p v N) (hBw : B ≤ w.heap.size) :
    Calls Try.prog 36 #[.pointer (some ⟨p, 0, none⟩), .int .i64 prev, .int .i64 term, vl] w (MergePost w B p v (g.merge prev term l)) := by
  obtain ⟨Al, cl, hvl, hlc, hcm⟩ := hl.slice
  subst hvl
  obtain ⟨w1, hw1⟩ : ∃ w1, w1 = w.alloc (.cells #[.pointer (some ⟨p, 0, none⟩)] 60) := ⟨_, rfl⟩
  have hb1 : Below w.heap.size w w1 := by rw [hw1]; exact (Below.refl _ _).alloc (Nat.le_refl _) _
  have hx1 : w1.heap[w.heap.size]? = some (.cells #[.pointer (some ⟨p, 0, none⟩)] 60 (0, 0)) := by rw [hw1]; exact heap_alloc_new w _
  have hs1 : w1.heap.size = w.heap.size + 1 := by rw [hw1]; simp
  obtain ⟨w2, hw2⟩ : ∃ w2, w2 = w1.alloc (.cells #[.slice Al l.length cl] 31) := ⟨_, rfl⟩
  have hb2 : Below w1.heap.size w1 w2 := by rw [hw2]; exact (Below.refl _ _).alloc (Nat.le_refl _) _
  have hy2 : w2.heap[w1.heap.size]? = some (.cells #[.slice Al l.length cl] 31 (0, 0)) := by rw [hw2]; exact heap_alloc_new w1 _
  have hx2 := (hb2.block _ (lt_of_heap hx1)).trans hx1
  have hB2 : Below w.heap.size w w2 := hb1.trans (Joins.below_le hb2 (by omega))
  obtain ⟨b4, hb4⟩ : ∃ b4, b4 = w.heap.size := ⟨_, rfl⟩
  obtain ⟨b7, hb7⟩ : ∃ b7, b7 = w1.heap.size := ⟨_, rfl⟩
  rw [← hb4] at hx2
  rw [← hb7] at hy2
  have hww : w2 = (w.alloc (.cells #[.pointer (some ⟨p, 0, none⟩)] 60)).alloc (.cells #[.slice Al l.length cl] 31) := by rw [hw2, hw1]
  have hb77 : b7 = w.heap.size + 1 := hb7.trans hs1
  have cR := refusal_any prev term l _ w2 (hl.any.grow hB2)
  obtain ⟨N', hNd⟩ : ∃ N' : Nat → Prop, N' = fun b => N b ∧ b < w.heap.size := ⟨_, rfl⟩
  have hlN : EntN w N' (.slice Al l.length cl) l := by rw [hNd]; exact hl.olds
  have hoff : ∀ W, OffLog W p v N' := fun W => by rw [hNd]; exact hN.olds
  have hNb : ∀ b, N' b → b < w.heap.size := fun b hb => by rw [hNd] at hb; exact hb.2
  have HH := Lib.hid (And.intro h hs)
  have HL := Lib.hid hlN
  have HOFF := Lib.hid (And.intro hoff hNb)
  have HBW := Lib.hid hBw
  have HW := Lib.hid hww
  have H4 := Lib.hid hb4
  have H7 := Lib.hid hb77
  have HX := Lib.hid (And.intro hx2 hy2)
  have HB2 := Lib.hid hB2
  obtain ⟨x0, y0⟩ : w2.cell? ⟨b4, 0, none⟩ = some (.pointer (some ⟨p, 0, none⟩)) ∧ w2.cell? ⟨b7, 0, none⟩ = some (.slice Al l.length cl) := ⟨(blk_cells hx2).1 0, (blk_cells hy2).1 0⟩
  clear h hs hl hN hBw hw1 hb1 hx1 hs1 hw2 hb2 hy2 hx2 hB2 hb4 hb7 hb77 hww hNd hlN hoff hNb
  go_enter Try.func36, Try.ntmps36
  go_upto_region 1 with fail
  rw [← HW.out, show w.heap.size + 1 = b7 from H7.out.symm, ← H4.out]
  clear HW
  go_wp2_with fail
  refine cR.mono ?_
  rintro e w3 ⟨rfl, hb3⟩
  clear cR x0 y0
  obtain ⟨r, hr⟩ : ∃ r, r = refuse prev term l := ⟨_, rfl⟩
  rw [← hr]
  have hB3 := HB2.out.trans (Joins.below_le hb3 HB2.out.size)
  have hx3 := (hb3.block b4 (lt_of_heap HX.out.1)).trans HX.out.1
  have hy3 := (hb3.block b7 (lt_of_heap HX.out.2)).trans HX.out.2
  by_cases hr0 : r = 0
  case neg =>
    have hr0' : (r == 0) = false := by simpa using hr0
    have hF : MergePost w B p v (g.merge prev term l) (.returned (.tuple #[.int .i64 0, .int .i64 r])) w3 := .none (merge_refused (by rw [← hr]; exact hr0)) HH.out.1 HH.out.2 hB3 (by rw [hr])
    have HF := Lib.hid hF
    clear hr hr0 hF hB3 hx3 hy3 hb3
    go_wp2_with fail
    go_ret2
    exact HF.out
  subst hr0
  replace hr := hr.symm
  obtain ⟨q1, q2, q3, q4⟩ := refuse_ok hr
  have hlog3 := HH.out.1.below hB3
  obtain ⟨c0, c1, c2⟩ := hlog3.cells
  have hfit := HH.out.1.fit
  have x0 : w3.cell? ⟨b4, 0, none⟩ = some (.pointer (some ⟨p, 0, none⟩)) := (blk_cells hx3).1 0
  have y0 : w3.cell? ⟨b7, 0, none⟩ = some (.slice Al l.length cl) := (blk_cells hy3).1 0
  have y9 : w3.frozen? ⟨b7, 0, none⟩ = false := (blk_cells hy3).2 0
  have HR := Lib.hid hr
  have HB3 := Lib.hid hB3
  have HX3 := Lib.hid (And.intro hx3 hy3)
  clear hr hlog3 hB3 hx3 hy3 hb3 HX HB2
  by_cases hpb : prev < (g.base : Int)
  · -- prev below the base
    obtain ⟨d, hd⟩ : ∃ d, d = min (g.base - prev).toNat l.length := ⟨_, rfl⟩
    have hdl : d ≤ l.length := by omega
    have hsub0 : wrap64 ((g.base : Int) - prev) = (g.base : Int) - prev := wrap_fit (by omega)
    have hdrop : l.drop (g.base - prev).toNat = l.drop d := by
      rcases Nat.le_total (g.base - prev).toNat l.length with hh | hh
      · rw [hd, Nat.min_eq_left hh]
      · rw [hd, Nat.min_eq_right hh, List.drop_of_length_le hh, List.drop_of_length_le (Nat.le_refl _)]
    have hM0 := merge_below HR.out hpb
    rw [hdrop] at hM0
    have hfr0 := fun W => fromE W Al l.length cl d hdl
    have hll : (l.drop d).length = l.length - d := List.length_drop
    obtain ⟨L, hL⟩ : ∃ L, L = l.drop d := ⟨_, rfl⟩
    rw [← hL] at hM0 hll
    rw [← hll] at hfr0
    obtain ⟨A2, hA2⟩ : ∃ A2, A2 = atFrom Al cl d 4 := ⟨_, rfl⟩
    obtain ⟨c9, hc9⟩ : ∃ c9, c9 = cl - d := ⟨_, rfl⟩
    rw [← hA2, ← hc9] at hfr0
    have hLN := EntN.drop (HL.out.grow HB3.out) (k := d) hdl
    rw [← hA2, ← hc9, ← hL, ← hll] at hLN
    obtain ⟨w4, hw4⟩ : ∃ w4, w4 = (w3.setCell ⟨b7, 0, none⟩ (.slice A2 L.length c9)).drew := ⟨_, rfl⟩
    have hf4 : ∀ b, b ≠ b7 → w4.heap[b]? = w3.heap[b]? := fun b hb => by rw [hw4]; exact Below.heap_setCell w3 ⟨b7, 0, none⟩ _ b hb
    have h77 := H7.out
    have h44 := H4.out
    have hB4 : Below w.heap.size w w4 := by rw [hw4]; exact (HB3.out.setCell (p := ⟨b7, 0, none⟩) (by dsimp only; omega) _).trans (Below.refl _ _).drew
    have hs4 : w3.heap.size ≤ w4.heap.size := by rw [hw4]; simp [World.setCell]
    have hx4 := (hf4 b4 (by omega)).trans HX3.out.1
    have hy4 : w4.heap[b7]? = some (.cells #[.slice A2 L.length c9] 31 (0, 0)) := by
      rw [hw4]
      show (w3.setCell ⟨b7, 0, none⟩ (.slice A2 L.length c9)).heap[b7]? = _
      rw [Joins.block_setCell HX3.out.2 _]
      rfl
    have hL4 : EntN w4 N' (.slice A2 L.length c9) L := by
      have hkeep : ∀ b, N' b → b < w3.heap.size → w4.heap[b]? = w3.heap[b]? := fun b hb _ => hf4 b (by have := HOFF.out.2 b hb; omega)
      obtain ⟨rl, k1, k2, k3⟩ := hLN
      exact ⟨rl, k1.kept (fun _ h _ => h) hs4 hkeep, k2, fun i r e hr he => { k3 i r e hr he with list := (k3 i r e hr he).list.kept (fun _ h _ => h) hs4 hkeep }⟩
    have HBt := Lib.hid hB4
    have HXt := Lib.hid (And.intro hx4 hy4)
    have HLt := Lib.hid hL4
    have HW4 := Lib.hid hw4
    have hfolL : follows (lastTerm term (l.take d)) L = true := by rw [hL]; exact (follows_split d q3).2
    have HFL := Lib.hid hfolL
    have HM0 := Lib.hid hM0
    have hlog4 := HH.out.1.below hB4
    obtain ⟨e0, e1, e2⟩ := hlog4.cells
    have x4 : w4.cell? ⟨b4, 0, none⟩ = some (.pointer (some ⟨p, 0, none⟩)) := (blk_cells hx4).1 0
    have y4 : w4.cell? ⟨b7, 0, none⟩ = some (.slice A2 L.length c9) := (blk_cells hy4).1 0
    have g0 : (0 : Int) ≤ (g.base : Int) := Int.natCast_nonneg _
    have hlenL : L.length = 0 ∨ (g.base : Int) + (L.length : Int) ≤ 2147483647 := by omega
    have hlen9 : L.length ≤ 2147483647 := by omega
    have hmin : (if (l.length : Int) < (g.base : Int) - prev then (l.length : Int) else (g.base : Int) - prev) = (d : Int) := by split <;> omega
    have hcase : ((l.length : Int) < (g.base : Int) - prev ∧ (d : Int) = (l.length : Int)) ∨ (¬ (l.length : Int) < (g.base : Int) - prev ∧ (d : Int) = (g.base : Int) - prev) := by omega
    obtain ⟨ah, hah0⟩ : ∃ ah : Nat, ah = 0 := ⟨_, rfl⟩
    have HPA : Hid ((g.base : Int) = (g.base : Int) + (ah : Int)) := Lib.hid (by omega)
    have h2 : ah ≤ g.l.length := by omega
    have HAH := Lib.hid hah0
    clear hah0 hdl hd hL hA2 hc9 hLN hw4 hf4 hB4 hs4 hx4 hy4 hL4 hlog4 hdrop h77 h44 hlc hcm hM0 hfolL hll q4
    go_upto_region 7 with fail
    rcases hcase with ⟨hc1, hc2⟩ | ⟨hc1, hc2⟩
    · rw [hc2] at hfr0
      clear hmin hc2
      go_region
      rw [← HW4.out]
      clear HW4 hfr0 x0 y0 y9 c0 c1 c2 hsub0 hc1
      cases L with
      | nil =>
        have HFOL : Hid (follows (lastTerm g.term (g.l.take ah)) ([] : List EN) = true) := Lib.hid rfl
        have HM : Hid (g.merge prev term l = g.turnAt ah []) := Lib.hid (HM0.out.trans (turnAt_same (by cases g.l.drop ah <;> rfl)).symm)
        go_upto_region 8 with fail
        go_quiet (fail)
        obtain ⟨wq, hwq⟩ : ∃ wq, wq = w4.drewN nq := ⟨_, rfl⟩
        have hbq : Below w4.heap.size w4 wq := by rw [hwq]; exact drewN_below _ _ _ _ (Below.refl _ _)
        replace HBt := Lib.hid (HBt.out.trans (Joins.below_le hbq HBt.out.size))
        replace HXt := Lib.hid (And.intro ((hbq.block b4 (lt_of_heap HXt.out.1)).trans HXt.out.1) ((hbq.block b7 (lt_of_heap HXt.out.2)).trans HXt.out.2))
        replace HLt := Lib.hid (HLt.out.grow hbq)
        rw [← hwq]
        obtain ⟨c0, c1, c2⟩ := (HH.out.1.below HBt.out).cells
        have x0 : wq.cell? ⟨b4, 0, none⟩ = some (.pointer (some ⟨p, 0, none⟩)) := (blk_cells HXt.out.1).1 0
        obtain ⟨LL, hLL⟩ : ∃ LL : List EN, LL = [] := ⟨_, rfl⟩
        rw [← hLL] at HLt HXt HM HFOL hlenL hlen9
        clear hwq hbq e0 e1 e2 x4 y4 hLL HM0 HFL
        go_upto_region 14 with fail
        clear c0 c1 c2 x0
        obtain ⟨c0, c1, c2⟩ := (HH.out.1.below HBt.out).cells
        have x0 : wq.cell? ⟨b4, 0, none⟩ = some (.pointer (some ⟨p, 0, none⟩)) := (blk_cells HXt.out.1).1 0
        have y0 : wq.cell? ⟨b7, 0, none⟩ = some (.slice A2 LL.length c9) := (blk_cells HXt.out.2).1 0
        have hsub : wrap64 ((g.base : Int) - (g.base : Int)) = (ah : Int) := by have h1 := HPA.out; rw [wrap_fit (by omega)]; omega
        have hsub2 : (g.base : Int) - (g.base : Int) = (ah : Int) := by have h1 := HPA.out; omega
        obtain ⟨w5, hw5⟩ : ∃ w5, w5 = wq.alloc (.cells #[.int .i64 (ah : Int)] 3) := ⟨_, rfl⟩
        have hb5 : Below wq.heap.size wq w5 := by rw [hw5]; exact (Below.refl _ _).alloc (Nat.le_refl _) _
        have hz5 : w5.heap[wq.heap.size]? = some (.cells #[.int .i64 (ah : Int)] 3 (0, 0)) := by rw [hw5]; exact heap_alloc_new wq _
        obtain ⟨b13, hb13⟩ : ∃ b13, b13 = wq.heap.size := ⟨_, rfl⟩
        rw [← hb13] at hz5
        have hB5 := HBt.out.trans (Joins.below_le hb5 HBt.out.size)
        have hbox : Boxes w5 B p v g b13 b4 b7 ah A2 c9 LL := ⟨HH.out.1.below hB5, hz5, (hb5.block b4 (lt_of_heap HXt.out.1)).trans HXt.out.1, (hb5.block b7 (lt_of_heap HXt.out.2)).trans HXt.out.2, HLt.out.any.grow hb5⟩
        have cP := parting_any B p v g b13 b4 b7 ah A2 c9 LL w5 hbox (by omega) (by omega)
        have HBOX := Lib.hid hbox
        have HB5 := Lib.hid hB5
        have HL5 := Lib.hid (HLt.out.grow hb5)
        have HW5 := Lib.hid hw5
        have H13 := Lib.hid hb13
        have y1 : w5.cell? ⟨b7, 0, none⟩ = some (.slice A2 LL.length c9) := (blk_cells hbox.lb).1 0
        clear hbox hB5 hw5 hb13 hz5 hb5 y0
        go_upto_region 15 with fail
        rw [← HW5.out, ← H13.out]
        clear HW5 c0 c1 c2 x0 hsub hsub2
        go_wp2_with fail
        refine cP.mono ?_
        rintro e w6 ⟨rfl, hb6⟩
        clear cP y1
        have hbox6 := HBOX.out.below hb6
        have hB6 := HB5.out.trans (Joins.below_le hb6 HB5.out.size)
        obtain ⟨s, hsd⟩ : ∃ s, s = parts (g.l.drop ah) LL := ⟨_, rfl⟩
        rw [← hsd]
        have hsl : s ≤ LL.length := by rw [hsd]; exact (parts_le _ _).1
        have hsg : s ≤ g.l.length - ah := by rw [hsd]; have := (parts_le (g.l.drop ah) LL).2; rwa [List.length_drop] at this
        obtain ⟨x0, y0, z0⟩ : w6.cell? ⟨b4, 0, none⟩ = some (.pointer (some ⟨p, 0, none⟩)) ∧ w6.cell? ⟨b7, 0, none⟩ = some (.slice A2 LL.length c9) ∧ w6.cell? ⟨b13, 0, none⟩ = some (.int .i64 (ah : Int)) := ⟨(blk_cells hbox6.gb).1 0, (blk_cells hbox6.lb).1 0, (blk_cells hbox6.ah).1 0⟩
        have HL6 := Lib.hid (HL5.out.grow hb6)
        by_cases hse : s = LL.length
        · have hse' : ((s : Int) == (LL.length : Int)) = true := by simp; omega
          have hF : MergePost w B p v (g.merge prev term l) (.returned (.tuple #[.int .i64 0, .int .i64 0])) w6 := .none (HM.out.trans (turnAt_same (by rw [← hsd]; exact hse))) HH.out.1 HH.out.2 hB6 rfl
          have HF := Lib.hid hF
          clear hse hsd hsl hsg hF hB6 hbox6 hb6
          go_wp2_with fail
          go_ret2
          exact HF.out
        · have hse' : ((s : Int) == (LL.length : Int)) = false := by simp; omega
          have hm := HM.out.trans (turnAt_other (by rw [← hsd]; exact hse))
          rw [← hsd] at hm
          have hmay := merge_may HH.out.1.may HFOL.out
          rw [← hsd] at hmay
          have hs6 : B ≤ w6.heap.size := Nat.le_trans HBW.out hB6.size
          have hLd := EntN.drop (HL6.out.grow (w' := w6.drew) (Below.refl _ _).drew) (k := s) hsl
          have cT := turn_any g B p (ah + s) v _ (LL.drop s) N' w6.drew (hbox6.log.below (Below.refl _ _).drew) HH.out.2 (by omega) hLd (HOFF.out.1 _) (by have h1 := HPA.out; rw [List.length_drop]; omega) hmay hs6
          rw [show ((ah + s : Nat) : Int) = (ah : Int) + (s : Int) by omega] at cT
          have hfr := fun W => fromE W A2 LL.length c9 s hsl
          have hsum := merge_sum (s := s) HPA.out (show g.base ≤ 2147483647 by omega) (show ah ≤ 2147483647 by omega) (show s ≤ 2147483647 by omega)
          have hadd := hsum.2
          have hres := hsum.1
          rw [← hadd] at cT
          clear hsum
          have HRES := Lib.hid hres
          have HMM := Lib.hid hm
          have HB6 := Lib.hid hB6
          have s0 : (0 : Int) ≤ (s : Int) := Int.natCast_nonneg _
          have a0 : (0 : Int) ≤ (ah : Int) := Int.natCast_nonneg _
          obtain ⟨x1, y1, z1⟩ : w6.drew.cell? ⟨b4, 0, none⟩ = some (.pointer (some ⟨p, 0, none⟩)) ∧ w6.drew.cell? ⟨b7, 0, none⟩ = some (.slice A2 LL.length c9) ∧ w6.drew.cell? ⟨b13, 0, none⟩ = some (.int .i64 (ah : Int)) := ⟨x0, y0, z0⟩
          clear hsd hsl hsg hbox6 hb6 hm hmay hs6 hLd hres hB6 hse
          go_upto_region 18 with fail
          go_still_tail 7, (by kernel_rfl)
          change wpList _ _ _ _ _ w6.drew
          go_wp2_with fail
          refine cT.mono ?_
          rintro e w7 ⟨rfl, hu, ht⟩
          have hF : MergePost w B p v (g.merge prev term l) (.returned (.tuple #[.int .i64 ((g.base + ah + s + 1 : Nat) : Int), .int .i64 0])) w7 := by
            obtain ⟨u, h1, h2, h3⟩ := hu
            rw [HMM.out]
            exact ⟨rfl, ⟨u, h1, h2, h3.imp id fun h b hb => Nat.le_trans HB6.out.size (h b hb)⟩, Turned.pre (HB6.out.trans (Below.refl _ _).drew) ht⟩
          have HF := Lib.hid hF
          clear hu ht hF x0 y0 z0 x1 y1 z1 cT
          rw [← HRES.out] at HF
          go_wp2_with fail
          go_ret2
          exact HF.out

      | cons e0' m =>
        obtain ⟨bb, oo, n', k', A3, c3, hv, -, -, -, f0, -, -, -⟩ := HLt.out.cell (i := 0) (e := e0') rfl
        injection hv with v1 v2 v3
        subst v1 v3
        rw [Nat.zero_mul, Nat.add_zero] at f0
        obtain ⟨nl, hnl⟩ : ∃ nl, nl = (e0' :: m).length := ⟨_, rfl⟩
        have hpos : (nl : Int) > 0 := by rw [hnl]; simp
        have hpos2 : (0 : Int) < (nl : Int) := hpos
        have hposN : 0 < nl := by omega
        rw [← hnl] at y4
        clear v2
        by_cases hbad : e0'.term < g.term
        · have hF : ∀ W, Below w.heap.size w W → MergePost w B p v (g.merge prev term l) (.returned (.tuple #[.int .i64 0, .int .i64 1])) W := fun W hW => .none (HM0.out.trans (if_pos hbad)) HH.out.1 HH.out.2 hW rfl
          have HF := Lib.hid hF
          clear hF
          go_upto_region 8 with fail
          go_quiet (fail)
          have HBQ := Lib.hid (HF.out _ (drewN_below _ w4 nq _ HBt.out))
          clear e0 e1 e2 x4 y4 f0 hpos hpos2 hposN
          go_wp2_with fail
          go_ret2
          exact HBQ.out
        · have hfolx : follows g.term (e0' :: m) = true := follows_low HFL.out fun e he => by
            have he := Option.some.inj he
            subst he
            omega
          have HFOL : Hid (follows (lastTerm g.term (g.l.take ah)) (e0' :: m) = true) := Lib.hid (by rw [HAH.out]; exact hfolx)
          clear hfolx
          have HM : Hid (g.merge prev term l = g.turnAt ah (e0' :: m)) := Lib.hid (by rw [HAH.out]; exact HM0.out.trans (if_neg hbad))
          go_upto_region 8 with fail
          go_quiet (fail)
          obtain ⟨wq, hwq⟩ : ∃ wq, wq = w4.drewN nq := ⟨_, rfl⟩
          have hbq : Below w4.heap.size w4 wq := by rw [hwq]; exact drewN_below _ _ _ _ (Below.refl _ _)
          replace HBt := Lib.hid (HBt.out.trans (Joins.below_le hbq HBt.out.size))
          replace HXt := Lib.hid (And.intro ((hbq.block b4 (lt_of_heap HXt.out.1)).trans HXt.out.1) ((hbq.block b7 (lt_of_heap HXt.out.2)).trans HXt.out.2))
          replace HLt := Lib.hid (HLt.out.grow hbq)
          rw [← hwq]
          obtain ⟨c0, c1, c2⟩ := (HH.out.1.below HBt.out).cells
          have x0 : wq.cell? ⟨b4, 0, none⟩ = some (.pointer (some ⟨p, 0, none⟩)) := (blk_cells HXt.out.1).1 0
          obtain ⟨LL, hLL⟩ : ∃ LL, LL = e0' :: m := ⟨_, rfl⟩
          rw [← hLL] at HLt HXt HM HFOL hlenL hlen9
          rw [← hLL] at hnl
          clear hwq hbq e0 e1 e2 x4 y4 f0 hpos hpos2 hposN hLL hbad HM0 HFL
          go_upto_region 14 with fail
          clear c0 c1 c2 x0
          obtain ⟨c0, c1, c2⟩ := (HH.out.1.below HBt.out).cells
          have x0 : wq.cell? ⟨b4, 0, none⟩ = some (.pointer (some ⟨p, 0, none⟩)) := (blk_cells HXt.out.1).1 0
          have y0 : wq.cell? ⟨b7, 0, none⟩ = some (.slice (some ⟨bb, oo, none⟩) LL.length c9) := (blk_cells HXt.out.2).1 0
          have hsub : wrap64 ((g.base : Int) - (g.base : Int)) = (ah : Int) := by have h1 := HPA.out; rw [wrap_fit (by omega)]; omega
          have hsub2 : (g.base : Int) - (g.base : Int) = (ah : Int) := by have h1 := HPA.out; omega
          obtain ⟨w5, hw5⟩ : ∃ w5, w5 = wq.alloc (.cells #[.int .i64 (ah : Int)] 3) := ⟨_, rfl⟩
          have hb5 : Below wq.heap.size wq w5 := by rw [hw5]; exact (Below.refl _ _).alloc (Nat.le_refl _) _
          have hz5 : w5.heap[wq.heap.size]? = some (.cells #[.int .i64 (ah : Int)] 3 (0, 0)) := by rw [hw5]; exact heap_alloc_new wq _
          obtain ⟨b13, hb13⟩ : ∃ b13, b13 = wq.heap.size := ⟨_, rfl⟩
          rw [← hb13] at hz5
          have hB5 := HBt.out.trans (Joins.below_le hb5 HBt.out.size)
          have hbox : Boxes w5 B p v g b13 b4 b7 ah (some ⟨bb, oo, none⟩) c9 LL := ⟨HH.out.1.below hB5, hz5, (hb5.block b4 (lt_of_heap HXt.out.1)).trans HXt.out.1, (hb5.block b7 (lt_of_heap HXt.out.2)).trans HXt.out.2, HLt.out.any.grow hb5⟩
          have cP := parting_any B p v g b13 b4 b7 ah (some ⟨bb, oo, none⟩) c9 LL w5 hbox (by omega) (by omega)
          have HBOX := Lib.hid hbox
          have HB5 := Lib.hid hB5
          have HL5 := Lib.hid (HLt.out.grow hb5)
          have HW5 := Lib.hid hw5
          have H13 := Lib.hid hb13
          have y1 : w5.cell? ⟨b7, 0, none⟩ = some (.slice (some ⟨bb, oo, none⟩) LL.length c9) := (blk_cells hbox.lb).1 0
          clear hbox hB5 hw5 hb13 hz5 hb5 y0
          go_upto_region 15 with fail
          rw [← HW5.out, ← H13.out]
          clear HW5 c0 c1 c2 x0 hsub hsub2
          go_wp2_with fail
          refine cP.mono ?_
          rintro e w6 ⟨rfl, hb6⟩
          clear cP y1
          have hbox6 := HBOX.out.below hb6
          have hB6 := HB5.out.trans (Joins.below_le hb6 HB5.out.size)
          obtain ⟨s, hsd⟩ : ∃ s, s = parts (g.l.drop ah) LL := ⟨_, rfl⟩
          rw [← hsd]
          have hsl : s ≤ LL.length := by rw [hsd]; exact (parts_le _ _).1
          have hsg : s ≤ g.l.length - ah := by rw [hsd]; have := (parts_le (g.l.drop ah) LL).2; rwa [List.length_drop] at this
          obtain ⟨x0, y0, z0⟩ : w6.cell? ⟨b4, 0, none⟩ = some (.pointer (some ⟨p, 0, none⟩)) ∧ w6.cell? ⟨b7, 0, none⟩ = some (.slice (some ⟨bb, oo, none⟩) LL.length c9) ∧ w6.cell? ⟨b13, 0, none⟩ = some (.int .i64 (ah : Int)) := ⟨(blk_cells hbox6.gb).1 0, (blk_cells hbox6.lb).1 0, (blk_cells hbox6.ah).1 0⟩
          have HL6 := Lib.hid (HL5.out.grow hb6)
          by_cases hse : s = LL.length
          · have hse' : ((s : Int) == (LL.length : Int)) = true := by simp; omega
            have hF : MergePost w B p v (g.merge prev term l) (.returned (.tuple #[.int .i64 0, .int .i64 0])) w6 := .none (HM.out.trans (turnAt_same (by rw [← hsd]; exact hse))) HH.out.1 HH.out.2 hB6 rfl
            have HF := Lib.hid hF
            clear hse hsd hsl hsg hF hB6 hbox6 hb6
            go_wp2_with fail
            go_ret2
            exact HF.out
          · have hse' : ((s : Int) == (LL.length : Int)) = false := by simp; omega
            have hm := HM.out.trans (turnAt_other (by rw [← hsd]; exact hse))
            rw [← hsd] at hm
            have hmay := merge_may HH.out.1.may HFOL.out
            rw [← hsd] at hmay
            have hs6 : B ≤ w6.heap.size := Nat.le_trans HBW.out hB6.size
            have hLd := EntN.drop (HL6.out.grow (w' := w6.drew) (Below.refl _ _).drew) (k := s) hsl
            have cT := turn_any g B p (ah + s) v _ (LL.drop s) N' w6.drew (hbox6.log.below (Below.refl _ _).drew) HH.out.2 (by omega) hLd (HOFF.out.1 _) (by have h1 := HPA.out; rw [List.length_drop]; omega) hmay hs6
            rw [show ((ah + s : Nat) : Int) = (ah : Int) + (s : Int) by omega] at cT
            have hfr := fun W => fromE W (some ⟨bb, oo, none⟩) LL.length c9 s hsl
            have hsum := merge_sum (s := s) HPA.out (show g.base ≤ 2147483647 by omega) (show ah ≤ 2147483647 by omega) (show s ≤ 2147483647 by omega)
            have hadd := hsum.2
            have hres := hsum.1
            rw [← hadd] at cT
            clear hsum
            have HRES := Lib.hid hres
            have HMM := Lib.hid hm
            have HB6 := Lib.hid hB6
            have s0 : (0 : Int) ≤ (s : Int) := Int.natCast_nonneg _
            have a0 : (0 : Int) ≤ (ah : Int) := Int.natCast_nonneg _
            obtain ⟨x1, y1, z1⟩ : w6.drew.cell? ⟨b4, 0, none⟩ = some (.pointer (some ⟨p, 0, none⟩)) ∧ w6.drew.cell? ⟨b7, 0, none⟩ = some (.slice (some ⟨bb, oo, none⟩) LL.length c9) ∧ w6.drew.cell? ⟨b13, 0, none⟩ = some (.int .i64 (ah : Int)) := ⟨x0, y0, z0⟩
            clear hsd hsl hsg hbox6 hb6 hm hmay hs6 hLd hres hB6 hse
            go_upto_region 18 with fail
            go_still_tail 7, (by kernel_rfl)
            change wpList _ _ _ _ _ w6.drew
            go_wp2_with fail
            refine cT.mono ?_
            rintro e w7 ⟨rfl, hu, ht⟩
            have hF : MergePost w B p v (g.merge prev term l) (.returned (.tuple #[.int .i64 ((g.base + ah + s + 1 : Nat) : Int), .int .i64 0])) w7 := by
              obtain ⟨u, h1, h2, h3⟩ := hu
              rw [HMM.out]
              exact ⟨rfl, ⟨u, h1, h2, h3.imp id fun h b hb => Nat.le_trans HB6.out.size (h b hb)⟩, Turned.pre (HB6.out.trans (Below.refl _ _).drew) ht⟩
            have HF := Lib.hid hF
            clear hu ht hF x0 y0 z0 x1 y1 z1 cT
            rw [← HRES.out] at HF
            go_wp2_with fail
            go_ret2
            exact HF.out
    · rw [hc2] at hfr0
      clear hmin hc2
      go_region
      rw [← HW4.out]
      clear HW4 hfr0 x0 y0 y9 c0 c1 c2 hsub0 hc1
      cases L with
      | nil =>
        have HFOL : Hid (follows (lastTerm g.term (g.l.take ah)) ([] : List EN) = true) := Lib.hid rfl
        have HM : Hid (g.merge prev term l = g.turnAt ah []) := Lib.hid (HM0.out.trans (turnAt_same (by cases g.l.drop ah <;> rfl)).symm)
        go_upto_region 8 with fail
        go_quiet (fail)
        obtain ⟨wq, hwq⟩ : ∃ wq, wq = w4.drewN nq := ⟨_, rfl⟩
        have hbq : Below w4.heap.size w4 wq := by rw [hwq]; exact drewN_below _ _ _ _ (Below.refl _ _)
        replace HBt := Lib.hid (HBt.out.trans (Joins.below_le hbq HBt.out.size))
        replace HXt := Lib.hid (And.intro ((hbq.block b4 (lt_of_heap HXt.out.1)).trans HXt.out.1) ((hbq.block b7 (lt_of_heap HXt.out.2)).trans HXt.out.2))
        replace HLt := Lib.hid (HLt.out.grow hbq)
        rw [← hwq]
        obtain ⟨c0, c1, c2⟩ := (HH.out.1.below HBt.out).cells
        have x0 : wq.cell? ⟨b4, 0, none⟩ = some (.pointer (some ⟨p, 0, none⟩)) := (blk_cells HXt.out.1).1 0
        obtain ⟨LL, hLL⟩ : ∃ LL : List EN, LL = [] := ⟨_, rfl⟩
        rw [← hLL] at HLt HXt HM HFOL hlenL hlen9
        clear hwq hbq e0 e1 e2 x4 y4 hLL HM0 HFL
        go_upto_region 14 with fail
        clear c0 c1 c2 x0
        obtain ⟨c0, c1, c2⟩ := (HH.out.1.below HBt.out).cells
        have x0 : wq.cell? ⟨b4, 0, none⟩ = some (.pointer (some ⟨p, 0, none⟩)) := (blk_cells HXt.out.1).1 0
        have y0 : wq.cell? ⟨b7, 0, none⟩ = some (.slice A2 LL.length c9) := (blk_cells HXt.out.2).1 0
        have hsub : wrap64 ((g.base : Int) - (g.base : Int)) = (ah : Int) := by have h1 := HPA.out; rw [wrap_fit (by omega)]; omega
        have hsub2 : (g.base : Int) - (g.base : Int) = (ah : Int) := by have h1 := HPA.out; omega
        obtain ⟨w5, hw5⟩ : ∃ w5, w5 = wq.alloc (.cells #[.int .i64 (ah : Int)] 3) := ⟨_, rfl⟩
        have hb5 : Below wq.heap.size wq w5 := by rw [hw5]; exact (Below.refl _ _).alloc (Nat.le_refl _) _
        have hz5 : w5.heap[wq.heap.size]? = some (.cells #[.int .i64 (ah : Int)] 3 (0, 0)) := by rw [hw5]; exact heap_alloc_new wq _
        obtain ⟨b13, hb13⟩ : ∃ b13, b13 = wq.heap.size := ⟨_, rfl⟩
        rw [← hb13] at hz5
        have hB5 := HBt.out.trans (Joins.below_le hb5 HBt.out.size)
        have hbox : Boxes w5 B p v g b13 b4 b7 ah A2 c9 LL := ⟨HH.out.1.below hB5, hz5, (hb5.block b4 (lt_of_heap HXt.out.1)).trans HXt.out.1, (hb5.block b7 (lt_of_heap HXt.out.2)).trans HXt.out.2, HLt.out.any.grow hb5⟩
        have cP := parting_any B p v g b13 b4 b7 ah A2 c9 LL w5 hbox (by omega) (by omega)
        have HBOX := Lib.hid hbox
        have HB5 := Lib.hid hB5
        have HL5 := Lib.hid (HLt.out.grow hb5)
        have HW5 := Lib.hid hw5
        have H13 := Lib.hid hb13
        have y1 : w5.cell? ⟨b7, 0, none⟩ = some (.slice A2 LL.length c9) := (blk_cells hbox.lb).1 0
        clear hbox hB5 hw5 hb13 hz5 hb5 y0
        go_upto_region 15 with fail
        rw [← HW5.out, ← H13.out]
        clear HW5 c0 c1 c2 x0 hsub hsub2
        go_wp2_with fail
        refine cP.mono ?_
        rintro e w6 ⟨rfl, hb6⟩
        clear cP y1
        have hbox6 := HBOX.out.below hb6
        have hB6 := HB5.out.trans (Joins.below_le hb6 HB5.out.size)
        obtain ⟨s, hsd⟩ : ∃ s, s = parts (g.l.drop ah) LL := ⟨_, rfl⟩
        rw [← hsd]
        have hsl : s ≤ LL.length := by rw [hsd]; exact (parts_le _ _).1
        have hsg : s ≤ g.l.length - ah := by rw [hsd]; have := (parts_le (g.l.drop ah) LL).2; rwa [List.length_drop] at this
        obtain ⟨x0, y0, z0⟩ : w6.cell? ⟨b4, 0, none⟩ = some (.pointer (some ⟨p, 0, none⟩)) ∧ w6.cell? ⟨b7, 0, none⟩ = some (.slice A2 LL.length c9) ∧ w6.cell? ⟨b13, 0, none⟩ = some (.int .i64 (ah : Int)) := ⟨(blk_cells hbox6.gb).1 0, (blk_cells hbox6.lb).1 0, (blk_cells hbox6.ah).1 0⟩
        have HL6 := Lib.hid (HL5.out.grow hb6)
        by_cases hse : s = LL.length
        · have hse' : ((s : Int) == (LL.length : Int)) = true := by simp; omega
          have hF : MergePost w B p v (g.merge prev term l) (.returned (.tuple #[.int .i64 0, .int .i64 0])) w6 := .none (HM.out.trans (turnAt_same (by rw [← hsd]; exact hse))) HH.out.1 HH.out.2 hB6 rfl
          have HF := Lib.hid hF
          clear hse hsd hsl hsg hF hB6 hbox6 hb6
          go_wp2_with fail
          go_ret2
          exact HF.out
        · have hse' : ((s : Int) == (LL.length : Int)) = false := by simp; omega
          have hm := HM.out.trans (turnAt_other (by rw [← hsd]; exact hse))
          rw [← hsd] at hm
          have hmay := merge_may HH.out.1.may HFOL.out
          rw [← hsd] at hmay
          have hs6 : B ≤ w6.heap.size := Nat.le_trans HBW.out hB6.size
          have hLd := EntN.drop (HL6.out.grow (w' := w6.drew) (Below.refl _ _).drew) (k := s) hsl
          have cT := turn_any g B p (ah + s) v _ (LL.drop s) N' w6.drew (hbox6.log.below (Below.refl _ _).drew) HH.out.2 (by omega) hLd (HOFF.out.1 _) (by have h1 := HPA.out; rw [List.length_drop]; omega) hmay hs6
          rw [show ((ah + s : Nat) : Int) = (ah : Int) + (s : Int) by omega] at cT
          have hfr := fun W => fromE W A2 LL.length c9 s hsl
          have hsum := merge_sum (s := s) HPA.out (show g.base ≤ 2147483647 by omega) (show ah ≤ 2147483647 by omega) (show s ≤ 2147483647 by omega)
          have hadd := hsum.2
          have hres := hsum.1
          rw [← hadd] at cT
          clear hsum
          have HRES := Lib.hid hres
          have HMM := Lib.hid hm
          have HB6 := Lib.hid hB6
          have s0 : (0 : Int) ≤ (s : Int) := Int.natCast_nonneg _
          have a0 : (0 : Int) ≤ (ah : Int) := Int.natCast_nonneg _
          obtain ⟨x1, y1, z1⟩ : w6.drew.cell? ⟨b4, 0, none⟩ = some (.pointer (some ⟨p, 0, none⟩)) ∧ w6.drew.cell? ⟨b7, 0, none⟩ = some (.slice A2 LL.length c9) ∧ w6.drew.cell? ⟨b13, 0, none⟩ = some (.int .i64 (ah : Int)) := ⟨x0, y0, z0⟩
          clear hsd hsl hsg hbox6 hb6 hm hmay hs6 hLd hres hB6 hse
          go_upto_region 18 with fail
          go_still_tail 7, (by kernel_rfl)
          change wpList _ _ _ _ _ w6.drew
          go_wp2_with fail
          refine cT.mono ?_
          rintro e w7 ⟨rfl, hu, ht⟩
          have hF : MergePost w B p v (g.merge prev term l) (.returned (.tuple #[.int .i64 ((g.base + ah + s + 1 : Nat) : Int), .int .i64 0])) w7 := by
            obtain ⟨u, h1, h2, h3⟩ := hu
            rw [HMM.out]
            exact ⟨rfl, ⟨u, h1, h2, h3.imp id fun h b hb => Nat.le_trans HB6.out.size (h b hb)⟩, Turned.pre (HB6.out.trans (Below.refl _ _).drew) ht⟩
          have HF := Lib.hid hF
          clear hu ht hF x0 y0 z0 x1 y1 z1 cT
          rw [← HRES.out] at HF
          go_wp2_with fail
          go_ret2
          exact HF.out

      | cons e0' m =>
        obtain ⟨bb, oo, n', k', A3, c3, hv, -, -, -, f0, -, -, -⟩ := HLt.out.cell (i := 0) (e := e0') rfl
        injection hv with v1 v2 v3
        subst v1 v3
        rw [Nat.zero_mul, Nat.add_zero] at f0
        obtain ⟨nl, hnl⟩ : ∃ nl, nl = (e0' :: m).length := ⟨_, rfl⟩
        have hpos : (nl : Int) > 0 := by rw [hnl]; simp
        have hpos2 : (0 : Int) < (nl : Int) := hpos
        have hposN : 0 < nl := by omega
        rw [← hnl] at y4
        clear v2
        by_cases hbad : e0'.term < g.term
        · have hF : ∀ W, Below w.heap.size w W → MergePost w B p v (g.merge prev term l) (.returned (.tuple #[.int .i64 0, .int .i64 1])) W := fun W hW => .none (HM0.out.trans (if_pos hbad)) HH.out.1 HH.out.2 hW rfl
          have HF := Lib.hid hF
          clear hF
          go_upto_region 8 with fail
          go_quiet (fail)
          have HBQ := Lib.hid (HF.out _ (drewN_below _ w4 nq _ HBt.out))
          clear e0 e1 e2 x4 y4 f0 hpos hpos2 hposN
          go_wp2_with fail
          go_ret2
          exact HBQ.out
        · have hfolx : follows g.term (e0' :: m) = true := follows_low HFL.out fun e he => by
            have he := Option.some.inj he
            subst he
            omega
          have HFOL : Hid (follows (lastTerm g.term (g.l.take ah)) (e0' :: m) = true) := Lib.hid (by rw [HAH.out]; exact hfolx)
          clear hfolx
          have HM : Hid (g.merge prev term l = g.turnAt ah (e0' :: m)) := Lib.hid (by rw [HAH.out]; exact HM0.out.trans (if_neg hbad))
          go_upto_region 8 with fail
          go_quiet (fail)
          obtain ⟨wq, hwq⟩ : ∃ wq, wq = w4.drewN nq := ⟨_, rfl⟩
          have hbq : Below w4.heap.size w4 wq := by rw [hwq]; exact drewN_below _ _ _ _ (Below.refl _ _)
          replace HBt := Lib.hid (HBt.out.trans (Joins.below_le hbq HBt.out.size))
          replace HXt := Lib.hid (And.intro ((hbq.block b4 (lt_of_heap HXt.out.1)).trans HXt.out.1) ((hbq.block b7 (lt_of_heap HXt.out.2)).trans HXt.out.2))
          replace HLt := Lib.hid (HLt.out.grow hbq)
          rw [← hwq]
          obtain ⟨c0, c1, c2⟩ := (HH.out.1.below HBt.out).cells
          have x0 : wq.cell? ⟨b4, 0, none⟩ = some (.pointer (some ⟨p, 0, none⟩)) := (blk_cells HXt.out.1).1 0
          obtain ⟨LL, hLL⟩ : ∃ LL, LL = e0' :: m := ⟨_, rfl⟩
          rw [← hLL] at HLt HXt HM HFOL hlenL hlen9
          rw [← hLL] at hnl
          clear hwq hbq e0 e1 e2 x4 y4 f0 hpos hpos2 hposN hLL hbad HM0 HFL
          go_upto_region 14 with fail
          clear c0 c1 c2 x0
          obtain ⟨c0, c1, c2⟩ := (HH.out.1.below HBt.out).cells
          have x0 : wq.cell? ⟨b4, 0, none⟩ = some (.pointer (some ⟨p, 0, none⟩)) := (blk_cells HXt.out.1).1 0
          have y0 : wq.cell? ⟨b7, 0, none⟩ = some (.slice (some ⟨bb, oo, none⟩) LL.length c9) := (blk_cells HXt.out.2).1 0
          have hsub : wrap64 ((g.base : Int) - (g.base : Int)) = (ah : Int) := by have h1 := HPA.out; rw [wrap_fit (by omega)]; omega
          have hsub2 : (g.base : Int) - (g.base : Int) = (ah : Int) := by have h1 := HPA.out; omega
          obtain ⟨w5, hw5⟩ : ∃ w5, w5 = wq.alloc (.cells #[.int .i64 (ah : Int)] 3) := ⟨_, rfl⟩
          have hb5 : Below wq.heap.size wq w5 := by rw [hw5]; exact (Below.refl _ _).alloc (Nat.le_refl _) _
          have hz5 : w5.heap[wq.heap.size]? = some (.cells #[.int .i64 (ah : Int)] 3 (0, 0)) := by rw [hw5]; exact heap_alloc_new wq _
          obtain ⟨b13, hb13⟩ : ∃ b13, b13 = wq.heap.size := ⟨_, rfl⟩
          rw [← hb13] at hz5
          have hB5 := HBt.out.trans (Joins.below_le hb5 HBt.out.size)
          have hbox : Boxes w5 B p v g b13 b4 b7 ah (some ⟨bb, oo, none⟩) c9 LL := ⟨HH.out.1.below hB5, hz5, (hb5.block b4 (lt_of_heap HXt.out.1)).trans HXt.out.1, (hb5.block b7 (lt_of_heap HXt.out.2)).trans HXt.out.2, HLt.out.any.grow hb5⟩
          have cP := parting_any B p v g b13 b4 b7 ah (some ⟨bb, oo, none⟩) c9 LL w5 hbox (by omega) (by omega)
          have HBOX := Lib.hid hbox
          have HB5 := Lib.hid hB5
          have HL5 := Lib.hid (HLt.out.grow hb5)
          have HW5 := Lib.hid hw5
          have H13 := Lib.hid hb13
          have y1 : w5.cell? ⟨b7, 0, none⟩ = some (.slice (some ⟨bb, oo, none⟩) LL.length c9) := (blk_cells hbox.lb).1 0
          clear hbox hB5 hw5 hb13 hz5 hb5 y0
          go_upto_region 15 with fail
          rw [← HW5.out, ← H13.out]
          clear HW5 c0 c1 c2 x0 hsub hsub2
          go_wp2_with fail
          refine cP.mono ?_
          rintro e w6 ⟨rfl, hb6⟩
          clear cP y1
          have hbox6 := HBOX.out.below hb6
          have hB6 := HB5.out.trans (Joins.below_le hb6 HB5.out.size)
          obtain ⟨s, hsd⟩ : ∃ s, s = parts (g.l.drop ah) LL := ⟨_, rfl⟩
          rw [← hsd]
          have hsl : s ≤ LL.length := by rw [hsd]; exact (parts_le _ _).1
          have hsg : s ≤ g.l.length - ah := by rw [hsd]; have := (parts_le (g.l.drop ah) LL).2; rwa [List.length_drop] at this
          obtain ⟨x0, y0, z0⟩ : w6.cell? ⟨b4, 0, none⟩ = some (.pointer (some ⟨p, 0, none⟩)) ∧ w6.cell? ⟨b7, 0, none⟩ = some (.slice (some ⟨bb, oo, none⟩) LL.length c9) ∧ w6.cell? ⟨b13, 0, none⟩ = some (.int .i64 (ah : Int)) := ⟨(blk_cells hbox6.gb).1 0, (blk_cells hbox6.lb).1 0, (blk_cells hbox6.ah).1 0⟩
          have HL6 := Lib.hid (HL5.out.grow hb6)
          by_cases hse : s = LL.length
          · have hse' : ((s : Int) == (LL.length : Int)) = true := by simp; omega
            have hF : MergePost w B p v (g.merge prev term l) (.returned (.tuple #[.int .i64 0, .int .i64 0])) w6 := .none (HM.out.trans (turnAt_same (by rw [← hsd]; exact hse))) HH.out.1 HH.out.2 hB6 rfl
            have HF := Lib.hid hF
            clear hse hsd hsl hsg hF hB6 hbox6 hb6
            go_wp2_with fail
            go_ret2
            exact HF.out
          · have hse' : ((s : Int) == (LL.length : Int)) = false := by simp; omega
            have hm := HM.out.trans (turnAt_other (by rw [← hsd]; exact hse))
            rw [← hsd] at hm
            have hmay := merge_may HH.out.1.may HFOL.out
            rw [← hsd] at hmay
            have hs6 : B ≤ w6.heap.size := Nat.le_trans HBW.out hB6.size
            have hLd := EntN.drop (HL6.out.grow (w' := w6.drew) (Below.refl _ _).drew) (k := s) hsl
            have cT := turn_any g B p (ah + s) v _ (LL.drop s) N' w6.drew (hbox6.log.below (Below.refl _ _).drew) HH.out.2 (by omega) hLd (HOFF.out.1 _) (by have h1 := HPA.out; rw [List.length_drop]; omega) hmay hs6
            rw [show ((ah + s : Nat) : Int) = (ah : Int) + (s : Int) by omega] at cT
            have hfr := fun W => fromE W (some ⟨bb, oo, none⟩) LL.length c9 s hsl
            have hsum := merge_sum (s := s) HPA.out (show g.base ≤ 2147483647 by omega) (show ah ≤ 2147483647 by omega) (show s ≤ 2147483647 by omega)
            have hadd := hsum.2
            have hres := hsum.1
            rw [← hadd] at cT
            clear hsum
            have HRES := Lib.hid hres
            have HMM := Lib.hid hm
            have HB6 := Lib.hid hB6
            have s0 : (0 : Int) ≤ (s : Int) := Int.natCast_nonneg _
            have a0 : (0 : Int) ≤ (ah : Int) := Int.natCast_nonneg _
            obtain ⟨x1, y1, z1⟩ : w6.drew.cell? ⟨b4, 0, none⟩ = some (.pointer (some ⟨p, 0, none⟩)) ∧ w6.drew.cell? ⟨b7, 0, none⟩ = some (.slice (some ⟨bb, oo, none⟩) LL.length c9) ∧ w6.drew.cell? ⟨b13, 0, none⟩ = some (.int .i64 (ah : Int)) := ⟨x0, y0, z0⟩
            clear hsd hsl hsg hbox6 hb6 hm hmay hs6 hLd hres hB6 hse
            go_upto_region 18 with fail
            go_still_tail 7, (by kernel_rfl)
            change wpList _ _ _ _ _ w6.drew
            go_wp2_with fail
            refine cT.mono ?_
            rintro e w7 ⟨rfl, hu, ht⟩
            have hF : MergePost w B p v (g.merge prev term l) (.returned (.tuple #[.int .i64 ((g.base + ah + s + 1 : Nat) : Int), .int .i64 0])) w7 := by
              obtain ⟨u, h1, h2, h3⟩ := hu
              rw [HMM.out]
              exact ⟨rfl, ⟨u, h1, h2, h3.imp id fun h b hb => Nat.le_trans HB6.out.size (h b hb)⟩, Turned.pre (HB6.out.trans (Below.refl _ _).drew) ht⟩
            have HF := Lib.hid hF
            clear hu ht hF x0 y0 z0 x1 y1 z1 cT
            rw [← HRES.out] at HF
            go_wp2_with fail
            go_ret2
            exact HF.out
  · -- prev at the base, or above
    have HPB := Lib.hid hpb
    have hp0 : -9223372036854775808 ≤ prev ∧ prev ≤ 9223372036854775807 := by omega
    have cT := term_any g B p v prev w3 (HH.out.1.below HB3.out) hp0.2
    clear y0 y9
    go_upto_region 11 with fail
    clear hpb
    go_wp2_with fail
    refine cT.mono ?_
    rintro e w4 ⟨rfl, hb4'⟩
    clear cT c0 c1 c2 x0
    have hB4 := HB3.out.trans (Joins.below_le hb4' HB3.out.size)
    have HBt := Lib.hid hB4
    have HXt := Lib.hid (And.intro ((hb4'.block b4 (lt_of_heap HX3.out.1)).trans HX3.out.1) ((hb4'.block b7 (lt_of_heap HX3.out.2)).trans HX3.out.2))
    have HLt := Lib.hid ((HL.out.grow HB3.out).grow hb4')
    clear hB4 hb4'
    cases ht : g.termAt prev with
    | none =>
      have hF : MergePost w B p v (g.merge prev term l) (.returned (.tuple #[.int .i64 0, .int .i64 50])) w4 := .none (merge_state HR.out (Int.not_lt.2 HPB.out) (by rw [ht]; exact fun h => by cases h)) HH.out.1 HH.out.2 HBt.out rfl
      have HF := Lib.hid hF
      clear hF ht
      dsimp only [Option.getD_none, Option.isSome_none]
      go_wp2_with fail
      go_ret2
      exact HF.out
    | some t =>
      by_cases htt : t = term
      · have htt := htt.symm
        subst htt
        obtain ⟨ah, h1, h2, h3⟩ := LG.termAt_take ht
        have hah : (prev - (g.base : Int)).toNat = ah := by omega
        have HFOL : Hid (follows (lastTerm g.term (g.l.take ah)) l = true) := Lib.hid (by rw [← h3]; exact q3)
        have hm0 := merge_behind HR.out (Int.not_lt.2 HPB.out) ht
        rw [hah] at hm0
        have HM := Lib.hid hm0
        have hlenL : l.length = 0 ∨ prev + (l.length : Int) ≤ 2147483647 := by omega
        have hlen9 : l.length ≤ 2147483647 := by omega
        have HPA := Lib.hid h1
        clear ht h3 hah hm0 q3 hlc hcm h1
        dsimp only [Option.getD_some, Option.isSome_some]
        go_upto_region 14 with fail
        obtain ⟨c0, c1, c2⟩ := (HH.out.1.below HBt.out).cells
        have x0 : w4.cell? ⟨b4, 0, none⟩ = some (.pointer (some ⟨p, 0, none⟩)) := (blk_cells HXt.out.1).1 0
        have y0 : w4.cell? ⟨b7, 0, none⟩ = some (.slice Al l.length cl) := (blk_cells HXt.out.2).1 0
        have hsub : wrap64 (prev - (g.base : Int)) = (ah : Int) := by have h1 := HPA.out; rw [wrap_fit (by omega)]; omega
        have hsub2 : prev - (g.base : Int) = (ah : Int) := by have h1 := HPA.out; omega
        obtain ⟨w5, hw5⟩ : ∃ w5, w5 = w4.alloc (.cells #[.int .i64 (ah : Int)] 3) := ⟨_, rfl⟩
        have hb5 : Below w4.heap.size w4 w5 := by rw [hw5]; exact (Below.refl _ _).alloc (Nat.le_refl _) _
        have hz5 : w5.heap[w4.heap.size]? = some (.cells #[.int .i64 (ah : Int)] 3 (0, 0)) := by rw [hw5]; exact heap_alloc_new w4 _
        obtain ⟨b13, hb13⟩ : ∃ b13, b13 = w4.heap.size := ⟨_, rfl⟩
        rw [← hb13] at hz5
        have hB5 := HBt.out.trans (Joins.below_le hb5 HBt.out.size)
        have hbox : Boxes w5 B p v g b13 b4 b7 ah Al cl l := ⟨HH.out.1.below hB5, hz5, (hb5.block b4 (lt_of_heap HXt.out.1)).trans HXt.out.1, (hb5.block b7 (lt_of_heap HXt.out.2)).trans HXt.out.2, HLt.out.any.grow hb5⟩
        have cP := parting_any B p v g b13 b4 b7 ah Al cl l w5 hbox (by omega) (by omega)
        have HBOX := Lib.hid hbox
        have HB5 := Lib.hid hB5
        have HL5 := Lib.hid (HLt.out.grow hb5)
        have HW5 := Lib.hid hw5
        have H13 := Lib.hid hb13
        have y1 : w5.cell? ⟨b7, 0, none⟩ = some (.slice Al l.length cl) := (blk_cells hbox.lb).1 0
        clear hbox hB5 hw5 hb13 hz5 hb5 y0
        go_upto_region 15 with fail
        rw [← HW5.out, ← H13.out]
        clear HW5 c0 c1 c2 x0 hsub hsub2
        go_wp2_with fail
        refine cP.mono ?_
        rintro e w6 ⟨rfl, hb6⟩
        clear cP y1
        have hbox6 := HBOX.out.below hb6
        have hB6 := HB5.out.trans (Joins.below_le hb6 HB5.out.size)
        obtain ⟨s, hsd⟩ : ∃ s, s = parts (g.l.drop ah) l := ⟨_, rfl⟩
        rw [← hsd]
        have hsl : s ≤ l.length := by rw [hsd]; exact (parts_le _ _).1
        have hsg : s ≤ g.l.length - ah := by rw [hsd]; have := (parts_le (g.l.drop ah) l).2; rwa [List.length_drop] at this
        obtain ⟨x0, y0, z0⟩ : w6.cell? ⟨b4, 0, none⟩ = some (.pointer (some ⟨p, 0, none⟩)) ∧ w6.cell? ⟨b7, 0, none⟩ = some (.slice Al l.length cl) ∧ w6.cell? ⟨b13, 0, none⟩ = some (.int .i64 (ah : Int)) := ⟨(blk_cells hbox6.gb).1 0, (blk_cells hbox6.lb).1 0, (blk_cells hbox6.ah).1 0⟩
        have HL6 := Lib.hid (HL5.out.grow hb6)
        by_cases hse : s = l.length
        · have hse' : ((s : Int) == (l.length : Int)) = true := by simp; omega
          have hF : MergePost w B p v (g.merge prev term l) (.returned (.tuple #[.int .i64 0, .int .i64 0])) w6 := .none (HM.out.trans (turnAt_same (by rw [← hsd]; exact hse))) HH.out.1 HH.out.2 hB6 rfl
          have HF := Lib.hid hF
          clear hse hsd hsl hsg hF hB6 hbox6 hb6
          go_wp2_with fail
          go_ret2
          exact HF.out
        · have hse' : ((s : Int) == (l.length : Int)) = false := by simp; omega
          have hm := HM.out.trans (turnAt_other (by rw [← hsd]; exact hse))
          rw [← hsd] at hm
          have hmay := merge_may HH.out.1.may HFOL.out
          rw [← hsd] at hmay
          have hs6 : B ≤ w6.heap.size := Nat.le_trans HBW.out hB6.size
          have hLd := EntN.drop (HL6.out.grow (w' := w6.drew) (Below.refl _ _).drew) (k := s) hsl
          have cT := turn_any g B p (ah + s) v _ (l.drop s) N' w6.drew (hbox6.log.below (Below.refl _ _).drew) HH.out.2 (by omega) hLd (HOFF.out.1 _) (by have h1 := HPA.out; rw [List.length_drop]; omega) hmay hs6
          rw [show ((ah + s : Nat) : Int) = (ah : Int) + (s : Int) by omega] at cT
          have hfr := fun W => fromE W Al l.length cl s hsl
          have hsum := merge_sum (s := s) HPA.out (show g.base ≤ 2147483647 by omega) (show ah ≤ 2147483647 by omega) (show s ≤ 2147483647 by omega)
          have hadd := hsum.2
          have hres := hsum.1
          rw [← hadd] at cT
          clear hsum
          have HRES := Lib.hid hres
          have HMM := Lib.hid hm
          have HB6 := Lib.hid hB6
          have s0 : (0 : Int) ≤ (s : Int) := Int.natCast_nonneg _
          have a0 : (0 : Int) ≤ (ah : Int) := Int.natCast_nonneg _
          obtain ⟨x1, y1, z1⟩ : w6.drew.cell? ⟨b4, 0, none⟩ = some (.pointer (some ⟨p, 0, none⟩)) ∧ w6.drew.cell? ⟨b7, 0, none⟩ = some (.slice Al l.length cl) ∧ w6.drew.cell? ⟨b13, 0, none⟩ = some (.int .i64 (ah : Int)) := ⟨x0, y0, z0⟩
          clear hsd hsl hsg hbox6 hb6 hm hmay hs6 hLd hres hB6 hse
          go_upto_region 18 with fail
          go_still_tail 7, (by kernel_rfl)
          change wpList _ _ _ _ _ w6.drew
          go_wp2_with fail
          refine cT.mono ?_
          rintro e w7 ⟨rfl, hu, ht⟩
          have hF : MergePost w B p v (g.merge prev term l) (.returned (.tuple #[.int .i64 ((g.base + ah + s + 1 : Nat) : Int), .int .i64 0])) w7 := by
            obtain ⟨u, h1, h2, h3⟩ := hu
            rw [HMM.out]
            exact ⟨rfl, ⟨u, h1, h2, h3.imp id fun h b hb => Nat.le_trans HB6.out.size (h b hb)⟩, Turned.pre (HB6.out.trans (Below.refl _ _).drew) ht⟩
          have HF := Lib.hid hF
          clear hu ht hF x0 y0 z0 x1 y1 z1 cT
          rw [← HRES.out] at HF
          go_wp2_with fail
          go_ret2
          exact HF.out
      · have htt' : (t == term) = false := by simpa using htt
        have hF : MergePost w B p v (g.merge prev term l) (.returned (.tuple #[.int .i64 0, .int .i64 50])) w4 := .none (merge_state HR.out (Int.not_lt.2 HPB.out) (by rw [ht]; exact fun h => htt (Option.some.inj h))) HH.out.1 HH.out.2 HBt.out rfl
        have HF := Lib.hid hF
        clear hF ht
        dsimp only [Option.getD_some, Option.isSome_some]
        go_wp2_with fail
        go_ret2
        exact HF.out
end Go.Proofs.Ytackfigkhjdidaa
