/-
  The document's Old, Look, Tell. No statement is proved here. No condition.
-/
import Derived.Test.YtclfhidapkoiiabURefC
namespace Go.Proofs.Ytclfhidapkoiiab
open Go.RowKit Go.Maps

section
variable {w w' : World} {B p : Nat} {life given : Int} {v : Value} {L : List WT}
/-- one put behind the one of two rows that lie apart -/
theorem two_app {w : World} {C : Nat} {v u : Value} {L M : List WT} {x : WT} (h : wtR.Own w C 40 v L) (k : wtR.Own w C 40 u M) (hvu : ∀ q, v.ownBlock = some q → u.ownBlock ≠ some q) (hC : C ≤ w.heap.size) (hn : L.length ≤ 100000) :
    ∃ A c w3, (Builtin.append_ #[45, 45] 45 #[v, .slice (some ⟨w.heap.size, 0, none⟩) 1 1]).run Try.prog (w.alloc (.cells x.cells 40)) = .ok (.slice A (L.length + 1) c) w3 ∧ wtR.Own w3 C 40 (.slice A (L.length + 1) c) (L ++ [x]) ∧ wtR.Own w3 C 40 u M ∧ (∀ q, (Value.slice A (L.length + 1) c).ownBlock = some q → u.ownBlock ≠ some q) ∧ Below C w w3 := by
  obtain ⟨A, c, w3, hap, hown, hb3, hn3, hat⟩ := rwt_app (x := x) h hC hn
  refine ⟨A, c, w3, hap, hown, row_same k fun n hn' => hn3 n (k.lt n hn').2 fun e => hvu n e hn', fun q hq e => ?_, hb3⟩
  rcases hat with e2 | ⟨n, hn', e2⟩
  · exact hvu q (by rw [← e2]; exact hq) e
  · rw [e2] at hq
    have h1 := Option.some.inj hq
    have h2 := (k.lt q e).2
    omega
set_option maxHeartbeats 4000000 in
set_option maxRecDepth 100000 in
theorem rold_any (h : RC w B p life given v L) (hB : B ≤ w.heap.size) (hl : L.length ≤ 64) (now most : Int) :
    Calls Try.prog 19 #[.pointer (some ⟨p, 0, none⟩), .int .i64 now, .int .i64 most] w fun e w' => ∃ A c, e = .returned (.slice A (L.filterMap (oldA now most)).length c) ∧ wtR.Own w' w.heap.size 40 (.slice A (L.filterMap (oldA now most)).length c) (L.filterMap (oldA now most)) ∧ ∃ v', RC w' B p life given v' (L.filterMap (leftW true (oldA now most))) ∧ Kept w w' (TR p v) ∧ (∀ q, v'.ownBlock = some q → w.heap.size ≤ q ∧ (Value.slice A (L.filterMap (oldA now most)).length c).ownBlock ≠ some q) := by
  obtain ⟨A, c, rfl⟩ := h.slice
  obtain ⟨Y, hY⟩ : ∃ Y, Y = L.filterMap (oldA now most) := ⟨_, rfl⟩
  rw [← hY]
  obtain ⟨X, hX⟩ : ∃ X, X = L.filterMap (leftW true (oldA now most)) := ⟨_, rfl⟩
  rw [← hX]
  have HY := Lib.hid hY
  have HX := Lib.hid hX
  have H := Lib.hid h
  have HB0 : Hid (Below w.heap.size w w) := Lib.hid (Below.refl _ _)
  have HO0 : Hid (wtR.Own w w.heap.size 40 (.slice none 0 0) (toldL (oldA now most) L 0)) := Lib.hid (by rw [toldL_zero]; exact Rec.Own.none _ _ _ _)
  have HL0 : Hid (wtR.Own w w.heap.size 40 (.slice none 0 0) (toldL (leftW true (oldA now most)) L 0)) := Lib.hid (by rw [toldL_zero]; exact Rec.Own.none _ _ _ _)
  have HA0 : Hid (∀ q, (Value.slice none 0 0).ownBlock = some q → (Value.slice none 0 0).ownBlock ≠ some q) := Lib.hid fun q hq => by cases hq
  clear hY hX h
  go_enter Try.func19, Try.ntmps19
  go_wp2_with fail
  go_loopw [7, 8, 9] (fun s7 s8 s9 wr => ∃ (i : Nat) (A7 A8 : Option Addr) (c7 c8 : Nat), s9 = .int .i64 (i : Int) ∧ i ≤ L.length ∧ s7 = .slice A7 (toldL (oldA now most) L i).length c7 ∧ s8 = .slice A8 (toldL (leftW true (oldA now most)) L i).length c8 ∧ Hid (wtR.Own wr w.heap.size 40 s7 (toldL (oldA now most) L i)) ∧ Hid (wtR.Own wr w.heap.size 40 s8 (toldL (leftW true (oldA now most)) L i)) ∧ Hid (∀ q, s7.ownBlock = some q → s8.ownBlock ≠ some q) ∧ Hid (Below w.heap.size w wr)) (fun _ _ s9 _ => L.length - (intOf s9).toNat)
  case atStart => exact ⟨0, none, none, 0, 0, rfl, Nat.zero_le _, by rw [toldL_zero]; rfl, by rw [toldL_zero]; rfl, HO0, HL0, HA0, HB0⟩
  case round =>
    clear HB0 HO0 HL0 HA0
    obtain ⟨i, A7, A8, c7, c8, rfl, hi, rfl, rfl, hO, hLf, hAp, hBl⟩ := hrel
    obtain ⟨wz, hwz⟩ : ∃ wz : World, wz = wr := ⟨_, rfl⟩
    subst hwz
    have hR := H.out.below hBl.out
    have c2 : wz.cell? ⟨p, 2, none⟩ = some (.slice A L.length c) := (blk_cells hR.obj).1 2
    have htl := toldL_length (oldA now most) L i
    have htl2 := toldL_length (leftW true (oldA now most)) L i
    by_cases hil : i < L.length
    · have a1 : (i : Int) < (L.length : Int) := by omega
      have a0 : (0 : Int) ≤ (i : Int) := by omega
      obtain ⟨x, hx⟩ : ∃ x, L[i]? = some x := ⟨_, List.getElem?_eq_getElem hil⟩
      obtain ⟨g, go, gn, gk, hv, -, -, hcell⟩ := (Rec.Own.n hR.row).cell hx
      injection hv with v1 _ v3
      subst v1 v3
      obtain ⟨z0, z1, z2, z3, z4, z5, z6⟩ : wz.cell? ⟨g, go + i * 7, none⟩ = some (.int .i64 x.req) ∧ wz.cell? ⟨g, go + i * 7 + 1, none⟩ = some (.string x.key) ∧ wz.cell? ⟨g, go + i * 7 + 2, none⟩ = some (.int .i64 x.client) ∧ wz.cell? ⟨g, go + i * 7 + 3, none⟩ = some (.int .i64 x.id) ∧ wz.cell? ⟨g, go + i * 7 + 4, none⟩ = some (.int .i64 x.first) ∧ wz.cell? ⟨g, go + i * 7 + 5, none⟩ = some (.int .i64 x.last) ∧ wz.cell? ⟨g, go + i * 7 + 6, none⟩ = some (.bool x.marked) := ⟨hcell 0 _ rfl, hcell 1 _ rfl, hcell 2 _ rfl, hcell 3 _ rfl, hcell 4 _ rfl, hcell 5 _ rfl, hcell 6 _ rfl⟩
      have cG := rago_any x.first now most wz
      by_cases hk : agoB x.first most now = true
      · have hm : oldA now most x = some x := by unfold oldA; rw [if_pos hk]
        rw [hk] at cG
        obtain ⟨A3, c3, w3, hap, hown, hown2, hap2, hb3⟩ := two_app (x := x) hO.out hLf.out hAp.out hBl.out.size (by omega)
        have ht : toldL (oldA now most) L (i + 1) = toldL (oldA now most) L i ++ [x] := by rw [toldL_succ hx, hm]; rfl
        have ht2 : toldL (leftW true (oldA now most)) L (i + 1) = toldL (leftW true (oldA now most)) L i := by rw [toldL_succ hx]; unfold leftW; rw [hm]; simp
        rw [← ht] at hown
        have hTl : (toldL (oldA now most) L (i + 1)).length = (toldL (oldA now most) L i).length + 1 := by rw [ht]; simp
        have HF := Lib.hid (And.intro hown (And.intro hown2 (And.intro hap2 (hBl.out.trans hb3))))
        have HT := Lib.hid hTl
        have HT2 := Lib.hid ht2
        unfold WT.cells at hap
        have HAP := Lib.hid hap
        clear hap hown hown2 hap2 hb3 ht ht2 hTl hm hcell hO hLf hAp hBl hx hR
        go_wp2_with fail
        refine cG.mono ?_
        rintro e wq ⟨rfl, rfl⟩
        clear cG
        go_upto_region 4 with (at_builtin; go_must (refine Lib.wpList_append_run _ rfl (.tmp 30) (.tmp 38) 45 45 rfl _ _ rfl rfl _ _ HAP.out ?_))
        clear HAP z0 z1 z2 z3 z4 z5 z6 c2
        go_wp2_with fail
        exact ⟨⟨i + 1, A3, A8, c3, c8, by go_num, by omega, by rw [HT.out], by rw [HT2.out], Lib.hid HF.out.1, Lib.hid (by rw [HT2.out]; exact HF.out.2.1), Lib.hid HF.out.2.2.1, Lib.hid HF.out.2.2.2⟩, by simp [intOf]; omega⟩
      · have hm : oldA now most x = none := by unfold oldA; rw [if_neg hk]
        have hk : agoB x.first most now = false := by simpa using hk
        rw [hk] at cG
        obtain ⟨A3, c3, w3, hap, hown, hown2, hap2, hb3⟩ := two_app (x := x) hLf.out hO.out (fun q hq e => hAp.out q e hq) hBl.out.size (by omega)
        have ht2 : toldL (oldA now most) L (i + 1) = toldL (oldA now most) L i := by rw [toldL_succ hx, hm]; simp
        have ht : toldL (leftW true (oldA now most)) L (i + 1) = toldL (leftW true (oldA now most)) L i ++ [x] := by rw [toldL_succ hx]; unfold leftW; rw [hm]; rfl
        rw [← ht] at hown
        have hTl : (toldL (leftW true (oldA now most)) L (i + 1)).length = (toldL (leftW true (oldA now most)) L i).length + 1 := by rw [ht]; simp
        have HF := Lib.hid (And.intro hown2 (And.intro hown (And.intro (fun q hq e => hap2 q e hq : ∀ q, (Value.slice A7 (toldL (oldA now most) L i).length c7).ownBlock = some q → (Value.slice A3 ((toldL (leftW true (oldA now most)) L i).length + 1) c3).ownBlock ≠ some q) (hBl.out.trans hb3))))
        have HT := Lib.hid hTl
        have HT2 := Lib.hid ht2
        unfold WT.cells at hap
        have HAP := Lib.hid hap
        clear hap hown hown2 hap2 hb3 ht ht2 hTl hm hcell hO hLf hAp hBl hx hR
        go_wp2_with fail
        refine cG.mono ?_
        rintro e wq ⟨rfl, rfl⟩
        clear cG
        go_upto_region 4 with (at_builtin; go_must (refine Lib.wpList_append_run _ rfl (.tmp 40) (.tmp 48) 45 45 rfl _ _ rfl rfl _ _ HAP.out ?_))
        clear HAP z0 z1 z2 z3 z4 z5 z6 c2
        go_wp2_with fail
        exact ⟨⟨i + 1, A7, A3, c7, c3, by go_num, by omega, by rw [HT2.out], by rw [HT.out], Lib.hid (by rw [HT2.out]; exact HF.out.1), Lib.hid HF.out.2.1, Lib.hid HF.out.2.2.1, Lib.hid HF.out.2.2.2⟩, by simp [intOf]; omega⟩
    · have hie : i = L.length := by omega
      subst hie
      have a1 : ¬ (L.length : Int) < (L.length : Int) := by omega
      have ht : toldL (oldA now most) L L.length = Y := (toldL_end _ _).trans HY.out.symm
      have ht2 : toldL (leftW true (oldA now most)) L L.length = X := (toldL_end _ _).trans HX.out.symm
      rw [ht] at hO
      rw [ht2] at hLf
      rw [ht, ht2] at hAp ⊢
      have f2 : wz.frozen? ⟨p, 2, none⟩ = false := (blk_cells hR.obj).2 2
      have hlp := hR.ltp
      have hpw := H.out.ltp
      have hfin : RC (wz.setCell ⟨p, 2, none⟩ (.slice A8 X.length c8)) B p life given (.slice A8 X.length c8) X := hR.set hR.obj (own_base hLf.out hB)
      have hO2 : wtR.Own (wz.setCell ⟨p, 2, none⟩ (.slice A8 X.length c8)) w.heap.size 40 (.slice A7 Y.length c7) Y := row_same hO.out fun n hn => set_far fun e => by have := (hO.out.lt n hn).1; omega
      have hK : Kept w (wz.setCell ⟨p, 2, none⟩ (.slice A8 X.length c8)) (TR p (.slice A L.length c)) := ((Kept.of_below hBl.out).mono fun n hn hb => absurd hb (Nat.not_le.2 hn) : Kept w wz (TR p (.slice A L.length c))).trans (Kept.setCell _ _ _ _ (.inl rfl)) fun n hn => .inl hn
      have hat : ∀ q, (Value.slice A8 X.length c8).ownBlock = some q → w.heap.size ≤ q ∧ (Value.slice A7 Y.length c7).ownBlock ≠ some q := fun q hq => ⟨(hLf.out.lt q hq).1, fun e => hAp.out q e hq⟩
      have HF := Lib.hid (And.intro hO2 (And.intro hfin (And.intro hK hat)))
      clear hO2 hfin hK hat ht ht2 htl htl2 hO hLf hAp hBl hR
      go_wp2_with fail
      go_ret
      exact ⟨A7, c7, rfl, HF.out.1, _, HF.out.2.1, HF.out.2.2.1, HF.out.2.2.2⟩
/-- what of a number is asked -/
def notA (r : Int) (x : WT) : Option WT := if x.req = r then none else some x
theorem find_stop {L : List WT} {r : Int} {i : Nat} {x : WT} (h : L[i]? = some x) (hn : ∀ y ∈ L.take i, y.req ≠ r) (hx : x.req = r) : L.find? (fun y => decide (y.req = r)) = some x := by
  have e : L = L.take i ++ (x :: L.drop (i + 1)) := by rw [← drop_at h, List.take_append_drop]
  rw [e, List.find?_append]
  have h1 : (L.take i).find? (fun y => decide (y.req = r)) = none := by
    rw [List.find?_eq_none]
    intro y hy
    simpa using hn y hy
  rw [h1, List.find?_cons_of_pos (by simpa using hx)]
  rfl
theorem find_over {L : List WT} {r : Int} (hn : ∀ y ∈ L, y.req ≠ r) : L.find? (fun y => decide (y.req = r)) = none := by
  rw [List.find?_eq_none]
  intro y hy
  simpa using hn y hy
set_option maxHeartbeats 4000000 in
set_option maxRecDepth 100000 in
theorem rlook_any (h : RC w B p life given v L) (hl : L.length ≤ 64) (r : Int) :
    Calls Try.prog 11 #[.pointer (some ⟨p, 0, none⟩), .int .i64 r] w fun e w' => e = .returned (.tuple #[((L.find? (fun y => decide (y.req = r))).getD zW).agg, .bool (L.find? (fun y => decide (y.req = r))).isSome]) ∧ Below w.heap.size w w' := by
  have hz := zero_rwt
  obtain ⟨A, c, rfl⟩ := h.slice
  obtain ⟨S, hS⟩ : ∃ S, S = L.find? (fun y => decide (y.req = r)) := ⟨_, rfl⟩
  rw [← hS]
  obtain ⟨z, hzz⟩ : ∃ z, z = w.heap.size := ⟨_, rfl⟩
  obtain ⟨w1, hw1⟩ : ∃ w1, w1 = w.alloc (.cells #[.int .i64 0, .string ⟨#[]⟩, .int .i64 0, .int .i64 0, .int .i64 0, .int .i64 0, .bool false] 40) := ⟨_, rfl⟩
  have hb1 : Below z w w1 := by rw [hw1, hzz]; exact (Below.refl _ _).alloc (Nat.le_refl _) _
  have hx1 : w1.heap[z]? = some (.cells #[.int .i64 0, .string ⟨#[]⟩, .int .i64 0, .int .i64 0, .int .i64 0, .int .i64 0, .bool false] 40 (0, 0)) := by rw [hw1, hzz]; exact heap_alloc_new w _
  have h1 := h.below (by rw [← hzz]; exact hb1)
  obtain ⟨r0, r1, r2, r3, r4, r5, r6⟩ : w1.cell? ⟨z, 0, none⟩ = some (.int .i64 0) ∧ w1.cell? ⟨z, 1, none⟩ = some (.string ⟨#[]⟩) ∧ w1.cell? ⟨z, 2, none⟩ = some (.int .i64 0) ∧ w1.cell? ⟨z, 3, none⟩ = some (.int .i64 0) ∧ w1.cell? ⟨z, 4, none⟩ = some (.int .i64 0) ∧ w1.cell? ⟨z, 5, none⟩ = some (.int .i64 0) ∧ w1.cell? ⟨z, 6, none⟩ = some (.bool false) := ⟨(blk_cells hx1).1 0, (blk_cells hx1).1 1, (blk_cells hx1).1 2, (blk_cells hx1).1 3, (blk_cells hx1).1 4, (blk_cells hx1).1 5, (blk_cells hx1).1 6⟩
  obtain ⟨g0, g1, g2, g3, g4, g5, g6⟩ : w1.frozen? ⟨z, 0, none⟩ = false ∧ w1.frozen? ⟨z, 1, none⟩ = false ∧ w1.frozen? ⟨z, 2, none⟩ = false ∧ w1.frozen? ⟨z, 3, none⟩ = false ∧ w1.frozen? ⟨z, 4, none⟩ = false ∧ w1.frozen? ⟨z, 5, none⟩ = false ∧ w1.frozen? ⟨z, 6, none⟩ = false := ⟨(blk_cells hx1).2 0, (blk_cells hx1).2 1, (blk_cells hx1).2 2, (blk_cells hx1).2 3, (blk_cells hx1).2 4, (blk_cells hx1).2 5, (blk_cells hx1).2 6⟩
  have c2 : w1.cell? ⟨p, 2, none⟩ = some (.slice A L.length c) := (blk_cells h1.obj).1 2
  have HB1 := Lib.hid hb1
  have HX1 := Lib.hid hx1
  have HW1 := Lib.hid hw1
  have HZ := Lib.hid hzz
  have H1 := Lib.hid h1
  have HS := Lib.hid hS
  clear h h1 hw1 hb1 hx1 hS
  go_enter Try.func11, Try.ntmps11
  go_upto_region 1 with fail
  rw [← HW1.out, ← HZ.out]
  clear hzz
  go_wp2_with fail
  go_loopw [6] (fun s6 wr => ∃ i : Nat, s6 = .int .i64 (i : Int) ∧ i ≤ L.length ∧ wr = w1 ∧ Hid (∀ y ∈ L.take i, y.req ≠ r)) (fun s6 _ => L.length - (intOf s6).toNat)
  case atStart => exact ⟨0, rfl, Nat.zero_le _, rfl, Lib.hid (by simp)⟩
  case round =>
    obtain ⟨i, rfl, hi, rfl, hn⟩ := hrel
    by_cases hil : i < L.length
    · have a1 : (i : Int) < (L.length : Int) := by omega
      have a0 : (0 : Int) ≤ (i : Int) := by omega
      obtain ⟨x, hx⟩ : ∃ x, L[i]? = some x := ⟨_, List.getElem?_eq_getElem hil⟩
      obtain ⟨gg, go, gn, gk, hv, -, -, hcell⟩ := (Rec.Own.n H1.out.row).cell hx
      injection hv with v1 _ v3
      subst v1 v3
      obtain ⟨y0, y1, y2, y3, y4, y5, y6⟩ : wr.cell? ⟨gg, go + i * 7, none⟩ = some (.int .i64 x.req) ∧ wr.cell? ⟨gg, go + i * 7 + 1, none⟩ = some (.string x.key) ∧ wr.cell? ⟨gg, go + i * 7 + 2, none⟩ = some (.int .i64 x.client) ∧ wr.cell? ⟨gg, go + i * 7 + 3, none⟩ = some (.int .i64 x.id) ∧ wr.cell? ⟨gg, go + i * 7 + 4, none⟩ = some (.int .i64 x.first) ∧ wr.cell? ⟨gg, go + i * 7 + 5, none⟩ = some (.int .i64 x.last) ∧ wr.cell? ⟨gg, go + i * 7 + 6, none⟩ = some (.bool x.marked) := ⟨hcell 0 _ rfl, hcell 1 _ rfl, hcell 2 _ rfl, hcell 3 _ rfl, hcell 4 _ rfl, hcell 5 _ rfl, hcell 6 _ rfl⟩
      by_cases hk : x.req = r
      · have hS : S = some x := HS.out.trans (find_stop hx hn.out hk)
        subst hS
        subst hk
        obtain ⟨wf, hwf⟩ : ∃ wf, wf = ((((((wr.setCell ⟨z, 0, none⟩ (.int .i64 x.req)).setCell ⟨z, 1, none⟩ (.string x.key)).setCell ⟨z, 2, none⟩ (.int .i64 x.client)).setCell ⟨z, 3, none⟩ (.int .i64 x.id)).setCell ⟨z, 4, none⟩ (.int .i64 x.first)).setCell ⟨z, 5, none⟩ (.int .i64 x.last)).setCell ⟨z, 6, none⟩ (.bool x.marked) := ⟨_, rfl⟩
        have hxf : wf.heap[z]? = some (.cells #[.int .i64 x.req, .string x.key, .int .i64 x.client, .int .i64 x.id, .int .i64 x.first, .int .i64 x.last, .bool x.marked] 40 (0, 0)) := by
          rw [hwf, Joins.block_setCell (Joins.block_setCell (Joins.block_setCell (Joins.block_setCell (Joins.block_setCell (Joins.block_setCell (Joins.block_setCell HX1.out _) _) _) _) _) _) _]
          simp
        obtain ⟨u0, u1, u2, u3, u4, u5, u6⟩ : wf.cell? ⟨z, 0, none⟩ = some (.int .i64 x.req) ∧ wf.cell? ⟨z, 1, none⟩ = some (.string x.key) ∧ wf.cell? ⟨z, 2, none⟩ = some (.int .i64 x.client) ∧ wf.cell? ⟨z, 3, none⟩ = some (.int .i64 x.id) ∧ wf.cell? ⟨z, 4, none⟩ = some (.int .i64 x.first) ∧ wf.cell? ⟨z, 5, none⟩ = some (.int .i64 x.last) ∧ wf.cell? ⟨z, 6, none⟩ = some (.bool x.marked) := ⟨(blk_cells hxf).1 0, (blk_cells hxf).1 1, (blk_cells hxf).1 2, (blk_cells hxf).1 3, (blk_cells hxf).1 4, (blk_cells hxf).1 5, (blk_cells hxf).1 6⟩
        have hbf : Below z w wf := by rw [hwf]; exact Below.setCell (p := ⟨z, 6, none⟩) (Below.setCell (p := ⟨z, 5, none⟩) (Below.setCell (p := ⟨z, 4, none⟩) (Below.setCell (p := ⟨z, 3, none⟩) (Below.setCell (p := ⟨z, 2, none⟩) (Below.setCell (p := ⟨z, 1, none⟩) (Below.setCell (p := ⟨z, 0, none⟩) HB1.out (Nat.le_refl _) _) (Nat.le_refl _) _) (Nat.le_refl _) _) (Nat.le_refl _) _) (Nat.le_refl _) _) (Nat.le_refl _) _) (Nat.le_refl _) _
        have HBF := Lib.hid hbf
        have HWF := Lib.hid hwf
        clear hbf hwf hxf hcell hn hx
        go_wp2_with fail
        rw [← HWF.out]
        refine bodyPost_ret (v := .tuple #[x.agg, .bool true]) (by clear r0 r1 r2 r3 r4 r5 r6 g0 g1 g2 g3 g4 g5 g6 y0 y1 y2 y3 y4 y5 y6 c2; unfold WT.agg; rw [results_ct rfl]; go_simp; try rfl) rfl ?_
        exact ⟨by first | rfl | trivial, by rw [← HZ.out]; exact HBF.out⟩
      · have hk2 : (x.req == r) = false := by simpa using hk
        have hn2 : Hid (∀ y ∈ L.take (i + 1), y.req ≠ r) := Lib.hid fun y hy => by
          rw [List.take_add_one, hx] at hy
          rcases List.mem_append.1 hy with hy | hy
          · exact hn.out y hy
          · rw [List.mem_singleton.1 hy]; exact hk
        clear hcell hn hx
        go_wp2_with fail
        exact ⟨⟨i + 1, by go_num, by omega, by first | rfl | trivial, hn2⟩, by simp [intOf]; omega⟩
    · have hie : i = L.length := by omega
      subst hie
      have a1 : ¬ (L.length : Int) < (L.length : Int) := by omega
      have hall : ∀ y ∈ L, y.req ≠ r := fun y hy => hn.out y (by rw [List.take_length]; exact hy)
      have hS : S = none := HS.out.trans (find_over hall)
      subst hS
      obtain ⟨wf, hwf⟩ : ∃ wf, wf = ((((((wr.setCell ⟨z, 0, none⟩ (.int .i64 0)).setCell ⟨z, 1, none⟩ (.string ⟨#[]⟩)).setCell ⟨z, 2, none⟩ (.int .i64 0)).setCell ⟨z, 3, none⟩ (.int .i64 0)).setCell ⟨z, 4, none⟩ (.int .i64 0)).setCell ⟨z, 5, none⟩ (.int .i64 0)).setCell ⟨z, 6, none⟩ (.bool false) := ⟨_, rfl⟩
      have hxf : wf.heap[z]? = some (.cells #[.int .i64 0, .string ⟨#[]⟩, .int .i64 0, .int .i64 0, .int .i64 0, .int .i64 0, .bool false] 40 (0, 0)) := by
        rw [hwf, Joins.block_setCell (Joins.block_setCell (Joins.block_setCell (Joins.block_setCell (Joins.block_setCell (Joins.block_setCell (Joins.block_setCell HX1.out _) _) _) _) _) _) _]
        simp
      obtain ⟨u0, u1, u2, u3, u4, u5, u6⟩ : wf.cell? ⟨z, 0, none⟩ = some (.int .i64 0) ∧ wf.cell? ⟨z, 1, none⟩ = some (.string ⟨#[]⟩) ∧ wf.cell? ⟨z, 2, none⟩ = some (.int .i64 0) ∧ wf.cell? ⟨z, 3, none⟩ = some (.int .i64 0) ∧ wf.cell? ⟨z, 4, none⟩ = some (.int .i64 0) ∧ wf.cell? ⟨z, 5, none⟩ = some (.int .i64 0) ∧ wf.cell? ⟨z, 6, none⟩ = some (.bool false) := ⟨(blk_cells hxf).1 0, (blk_cells hxf).1 1, (blk_cells hxf).1 2, (blk_cells hxf).1 3, (blk_cells hxf).1 4, (blk_cells hxf).1 5, (blk_cells hxf).1 6⟩
      have hbf : Below z w wf := by rw [hwf]; exact Below.setCell (p := ⟨z, 6, none⟩) (Below.setCell (p := ⟨z, 5, none⟩) (Below.setCell (p := ⟨z, 4, none⟩) (Below.setCell (p := ⟨z, 3, none⟩) (Below.setCell (p := ⟨z, 2, none⟩) (Below.setCell (p := ⟨z, 1, none⟩) (Below.setCell (p := ⟨z, 0, none⟩) HB1.out (Nat.le_refl _) _) (Nat.le_refl _) _) (Nat.le_refl _) _) (Nat.le_refl _) _) (Nat.le_refl _) _) (Nat.le_refl _) _) (Nat.le_refl _) _
      have HBF := Lib.hid hbf
      have HWF := Lib.hid hwf
      clear hbf hwf hxf hn hall
      go_wp2_with fail
      rw [← HWF.out]
      refine bodyPost_ret (v := .tuple #[zW.agg, .bool false]) (by clear r0 r1 r2 r3 r4 r5 r6 g0 g1 g2 g3 g4 g5 g6 c2; unfold WT.agg zW; rw [results_ct rfl]; go_simp; try rfl) rfl ?_
      exact ⟨by first | rfl | trivial, by rw [← HZ.out]; exact HBF.out⟩
end
end Go.Proofs.Ytclfhidapkoiiab
