/-
  The document's Tell. No statement is proved here. No condition.
-/
import Derived.Test.YtclfhidapkoiiabURefD
namespace Go.Proofs.Ytclfhidapkoiiab
open Go.RowKit Go.Maps

section
variable {w w' : World} {B p : Nat} {life given : Int} {v : Value} {L : List WT}
set_option maxHeartbeats 4000000 in
set_option maxRecDepth 100000 in
theorem rtell_any (h : RC w B p life given v L) (hB : B ≤ w.heap.size) (hl : L.length ≤ 64) (r : Int) :
    Calls Try.prog 9 #[.pointer (some ⟨p, 0, none⟩), .int .i64 r] w fun e w' => e = .returned (.tuple #[((L.find? (fun y => decide (y.req = r))).getD zW).agg, .bool (L.find? (fun y => decide (y.req = r))).isSome]) ∧ ∃ v', RC w' B p life given v' (L.filterMap (notA r)) ∧ Kept w w' (TR p v) ∧ (∀ q, v'.ownBlock = some q → w.heap.size ≤ q) := by
  have hz := zero_rwt
  obtain ⟨A, c, rfl⟩ := h.slice
  obtain ⟨z, hzz⟩ : ∃ z, z = w.heap.size := ⟨_, rfl⟩
  obtain ⟨w1, hw1⟩ : ∃ w1, w1 = w.alloc (.cells #[.int .i64 0, .string ⟨#[]⟩, .int .i64 0, .int .i64 0, .int .i64 0, .int .i64 0, .bool false] 40) := ⟨_, rfl⟩
  have hb1 : Below z w w1 := by rw [hw1, hzz]; exact (Below.refl _ _).alloc (Nat.le_refl _) _
  have hx1 : w1.heap[z]? = some (.cells #[.int .i64 0, .string ⟨#[]⟩, .int .i64 0, .int .i64 0, .int .i64 0, .int .i64 0, .bool false] 40 (0, 0)) := by rw [hw1, hzz]; exact heap_alloc_new w _
  have hz1 : w1.heap.size = z + 1 := by rw [hw1, hzz]; simp
  have h1 := h.below (by rw [← hzz]; exact hb1)
  have cL := rlook_any h1 hl r
  obtain ⟨x, hx⟩ : ∃ x, x = (L.find? (fun y => decide (y.req = r))).getD zW := ⟨_, rfl⟩
  obtain ⟨sm, hsm⟩ : ∃ sm, sm = (L.find? (fun y => decide (y.req = r))).isSome := ⟨_, rfl⟩
  rw [← hx, ← hsm] at cL ⊢
  obtain ⟨X, hX⟩ : ∃ X, X = L.filterMap (notA r) := ⟨_, rfl⟩
  rw [← hX]
  have HXX := Lib.hid hX
  have HB1 := Lib.hid hb1
  have HX1 := Lib.hid hx1
  have HW1 := Lib.hid hw1
  have HZ := Lib.hid hzz
  have HZ1 := Lib.hid hz1
  have H := Lib.hid h
  clear h h1 hw1 hb1 hx1 hx hsm hX hz1
  go_enter Try.func9, Try.ntmps9
  go_upto_region 1 with fail
  rw [← HW1.out, ← HZ.out]
  clear hzz
  go_wp2_with fail
  refine cL.mono ?_
  rintro e w2 ⟨he, hb2⟩
  have he : e = .returned (.tuple #[.agg #[.int .i64 x.req, .string x.key, .int .i64 x.client, .int .i64 x.id, .int .i64 x.first, .int .i64 x.last, .bool x.marked], .bool sm]) := he
  subst he
  clear cL
  obtain ⟨y, hy⟩ : ∃ y, y = w2.heap.size := ⟨_, rfl⟩
  obtain ⟨w3, hw3⟩ : ∃ w3, w3 = w2.alloc (.cells #[.int .i64 x.req, .string x.key, .int .i64 x.client, .int .i64 x.id, .int .i64 x.first, .int .i64 x.last, .bool x.marked] 40) := ⟨_, rfl⟩
  have hx3 : w3.heap[y]? = some (.cells #[.int .i64 x.req, .string x.key, .int .i64 x.client, .int .i64 x.id, .int .i64 x.first, .int .i64 x.last, .bool x.marked] 40 (0, 0)) := by rw [hw3, hy]; exact heap_alloc_new w2 _
  have hb3 : Below y w2 w3 := by rw [hw3, hy]; exact (Below.refl _ _).alloc (Nat.le_refl _) _
  have hyz : z + 1 ≤ y := by rw [hy, ← HZ1.out]; exact hb2.size
  have hs3 : w3.heap.size = y + 1 := by rw [hw3, hy]; simp
  have hb13 : Below w1.heap.size w1 w3 := hb2.trans (Joins.below_le hb3 (by rw [HZ1.out]; exact hyz))
  have hz3 : w3.heap[z]? = some (.cells #[.int .i64 0, .string ⟨#[]⟩, .int .i64 0, .int .i64 0, .int .i64 0, .int .i64 0, .bool false] 40 (0, 0)) := (hb13.block z (by rw [HZ1.out]; omega)).trans HX1.out
  have hb03 : Below z w w3 := HB1.out.trans (Joins.below_le hb13 (by rw [HZ1.out]; omega))
  have HX3 := Lib.hid hx3
  have HZ3 := Lib.hid hz3
  have HB3 := Lib.hid hb03
  have HYZ := Lib.hid (And.intro hyz hs3)
  have HW3 := Lib.hid hw3
  have HY := Lib.hid hy
  have HR3 := Lib.hid (H.out.below (by rw [← HZ.out]; exact hb03))
  have HB0 : Hid (Below w3.heap.size w3 w3) := Lib.hid (Below.refl _ _)
  have HO0 : Hid (wtR.Own w3 w3.heap.size 40 (.slice none 0 0) (toldL (notA r) L 0)) := Lib.hid (by rw [toldL_zero]; exact Rec.Own.none _ _ _ _)
  clear hw3 hx3 hb3 hyz hs3 hb13 hz3 hb03 hb2
  go_upto_region 2 with fail
  rw [← HW3.out, ← HY.out]
  clear HW3 HY hy
  go_wp2_with fail
  go_loopw [8, 9] (fun s8 s9 wr => ∃ (i : Nat) (A8 : Option Addr) (c8 : Nat), s9 = .int .i64 (i : Int) ∧ i ≤ L.length ∧ s8 = .slice A8 (toldL (notA r) L i).length c8 ∧ Hid (wtR.Own wr w3.heap.size 40 s8 (toldL (notA r) L i)) ∧ Hid (Below w3.heap.size w3 wr)) (fun _ s9 _ => L.length - (intOf s9).toNat)
  case atStart => exact ⟨0, none, 0, rfl, Nat.zero_le _, by rw [toldL_zero]; rfl, HO0, HB0⟩
  case round =>
    clear HB0 HO0
    obtain ⟨i, A8, c8, rfl, hi, rfl, hO, hBl⟩ := hrel
    obtain ⟨wz, hwz⟩ : ∃ wz : World, wz = wr := ⟨_, rfl⟩
    subst hwz
    have hR := HR3.out.below hBl.out
    have c2 : wz.cell? ⟨p, 2, none⟩ = some (.slice A L.length c) := (blk_cells hR.obj).1 2
    have htl := toldL_length (notA r) L i
    by_cases hil : i < L.length
    · have a1 : (i : Int) < (L.length : Int) := by omega
      have a0 : (0 : Int) ≤ (i : Int) := by omega
      obtain ⟨q, hq⟩ : ∃ q, L[i]? = some q := ⟨_, List.getElem?_eq_getElem hil⟩
      obtain ⟨g, go, gn, gk, hv, -, -, hcell⟩ := (Rec.Own.n hR.row).cell hq
      injection hv with v1 _ v3
      subst v1 v3
      obtain ⟨m0, m1, m2, m3, m4, m5, m6⟩ : wz.cell? ⟨g, go + i * 7, none⟩ = some (.int .i64 q.req) ∧ wz.cell? ⟨g, go + i * 7 + 1, none⟩ = some (.string q.key) ∧ wz.cell? ⟨g, go + i * 7 + 2, none⟩ = some (.int .i64 q.client) ∧ wz.cell? ⟨g, go + i * 7 + 3, none⟩ = some (.int .i64 q.id) ∧ wz.cell? ⟨g, go + i * 7 + 4, none⟩ = some (.int .i64 q.first) ∧ wz.cell? ⟨g, go + i * 7 + 5, none⟩ = some (.int .i64 q.last) ∧ wz.cell? ⟨g, go + i * 7 + 6, none⟩ = some (.bool q.marked) := ⟨hcell 0 _ rfl, hcell 1 _ rfl, hcell 2 _ rfl, hcell 3 _ rfl, hcell 4 _ rfl, hcell 5 _ rfl, hcell 6 _ rfl⟩
      by_cases hk : q.req = r
      · have hm : notA r q = none := by unfold notA; rw [if_pos hk]
        have ht : toldL (notA r) L (i + 1) = toldL (notA r) L i := by rw [toldL_succ hq, hm]; simp
        have hk1 : (q.req == r) = true := by simpa using hk
        have HT := Lib.hid ht
        clear ht hm hcell hq hR
        subst hk
        go_wp2_with fail
        exact ⟨⟨i + 1, A8, c8, by go_num, by omega, by rw [HT.out], by rw [HT.out]; exact hO, hBl⟩, by simp [intOf]; omega⟩
      · have hm : notA r q = some q := by unfold notA; rw [if_neg hk]
        have hk1 : (q.req == r) = false := by simpa using hk
        obtain ⟨A3, c3, w4, hap, hown, hb4, -, -⟩ := rwt_app (x := q) hO.out hBl.out.size (by omega)
        have ht : toldL (notA r) L (i + 1) = toldL (notA r) L i ++ [q] := by rw [toldL_succ hq, hm]; rfl
        rw [← ht] at hown
        have hTl : (toldL (notA r) L (i + 1)).length = (toldL (notA r) L i).length + 1 := by rw [ht]; simp
        have HF := Lib.hid (And.intro hown (hBl.out.trans hb4))
        have HT := Lib.hid hTl
        unfold WT.cells at hap
        have HAP := Lib.hid hap
        clear hap hown hb4 ht hTl hm hcell hO hBl hq hR
        go_upto_region 5 with (at_builtin; go_must (refine Lib.wpList_append_run _ rfl (.tmp 35) (.tmp 43) 45 45 rfl _ _ rfl rfl _ _ HAP.out ?_))
        clear HAP m0 m1 m2 m3 m4 m5 m6 c2
        go_wp2_with fail
        exact ⟨⟨i + 1, A3, c3, by go_num, by omega, by rw [HT.out], Lib.hid (by rw [← HT.out] at HF ⊢; exact HF.out.1), Lib.hid HF.out.2⟩, by simp [intOf]; omega⟩
    · have hie : i = L.length := by omega
      subst hie
      have a1 : ¬ (L.length : Int) < (L.length : Int) := by omega
      have ht : toldL (notA r) L L.length = X := (toldL_end _ _).trans HXX.out.symm
      rw [ht] at hO
      rw [ht]
      have f2 : wz.frozen? ⟨p, 2, none⟩ = false := (blk_cells hR.obj).2 2
      have hlp := H.out.ltp
      have hsz := HB3.out.size
      have hpz : p < z := by rw [HZ.out]; exact hlp
      have hy3 : y < w3.heap.size := by rw [HYZ.out.2]; omega
      have hz3 : z < w3.heap.size := by rw [HYZ.out.2]; have := HYZ.out.1; omega
      obtain ⟨w5, hw5⟩ : ∃ w5, w5 = wz.setCell ⟨p, 2, none⟩ (.slice A8 X.length c8) := ⟨_, rfl⟩
      have hR5 : RC w5 B p life given (.slice A8 X.length c8) X := by rw [hw5]; exact hR.set hR.obj (own_base hO.out (Nat.le_trans hB hsz))
      have hx5 : w5.heap[y]? = some (.cells #[.int .i64 x.req, .string x.key, .int .i64 x.client, .int .i64 x.id, .int .i64 x.first, .int .i64 x.last, .bool x.marked] 40 (0, 0)) := by rw [hw5]; exact (set_far (by have := HYZ.out.1; omega)).trans ((hBl.out.block y hy3).trans HX3.out)
      have hz5 : w5.heap[z]? = some (.cells #[.int .i64 0, .string ⟨#[]⟩, .int .i64 0, .int .i64 0, .int .i64 0, .int .i64 0, .bool false] 40 (0, 0)) := by rw [hw5]; exact (set_far (by omega)).trans ((hBl.out.block z hz3).trans HZ3.out)
      obtain ⟨s0, s1, s2, s3, s4, s5, s6⟩ : w5.cell? ⟨y, 0, none⟩ = some (.int .i64 x.req) ∧ w5.cell? ⟨y, 1, none⟩ = some (.string x.key) ∧ w5.cell? ⟨y, 2, none⟩ = some (.int .i64 x.client) ∧ w5.cell? ⟨y, 3, none⟩ = some (.int .i64 x.id) ∧ w5.cell? ⟨y, 4, none⟩ = some (.int .i64 x.first) ∧ w5.cell? ⟨y, 5, none⟩ = some (.int .i64 x.last) ∧ w5.cell? ⟨y, 6, none⟩ = some (.bool x.marked) := ⟨(blk_cells hx5).1 0, (blk_cells hx5).1 1, (blk_cells hx5).1 2, (blk_cells hx5).1 3, (blk_cells hx5).1 4, (blk_cells hx5).1 5, (blk_cells hx5).1 6⟩
      obtain ⟨j0, j1, j2, j3, j4, j5, j6⟩ : w5.cell? ⟨z, 0, none⟩ = some (.int .i64 0) ∧ w5.cell? ⟨z, 1, none⟩ = some (.string ⟨#[]⟩) ∧ w5.cell? ⟨z, 2, none⟩ = some (.int .i64 0) ∧ w5.cell? ⟨z, 3, none⟩ = some (.int .i64 0) ∧ w5.cell? ⟨z, 4, none⟩ = some (.int .i64 0) ∧ w5.cell? ⟨z, 5, none⟩ = some (.int .i64 0) ∧ w5.cell? ⟨z, 6, none⟩ = some (.bool false) := ⟨(blk_cells hz5).1 0, (blk_cells hz5).1 1, (blk_cells hz5).1 2, (blk_cells hz5).1 3, (blk_cells hz5).1 4, (blk_cells hz5).1 5, (blk_cells hz5).1 6⟩
      obtain ⟨k0, k1, k2, k3, k4, k5, k6⟩ : w5.frozen? ⟨z, 0, none⟩ = false ∧ w5.frozen? ⟨z, 1, none⟩ = false ∧ w5.frozen? ⟨z, 2, none⟩ = false ∧ w5.frozen? ⟨z, 3, none⟩ = false ∧ w5.frozen? ⟨z, 4, none⟩ = false ∧ w5.frozen? ⟨z, 5, none⟩ = false ∧ w5.frozen? ⟨z, 6, none⟩ = false := ⟨(blk_cells hz5).2 0, (blk_cells hz5).2 1, (blk_cells hz5).2 2, (blk_cells hz5).2 3, (blk_cells hz5).2 4, (blk_cells hz5).2 5, (blk_cells hz5).2 6⟩
      obtain ⟨wf, hwf⟩ : ∃ wf, wf = ((((((w5.setCell ⟨z, 0, none⟩ (.int .i64 x.req)).setCell ⟨z, 1, none⟩ (.string x.key)).setCell ⟨z, 2, none⟩ (.int .i64 x.client)).setCell ⟨z, 3, none⟩ (.int .i64 x.id)).setCell ⟨z, 4, none⟩ (.int .i64 x.first)).setCell ⟨z, 5, none⟩ (.int .i64 x.last)).setCell ⟨z, 6, none⟩ (.bool x.marked) := ⟨_, rfl⟩
      have hxf : wf.heap[z]? = some (.cells #[.int .i64 x.req, .string x.key, .int .i64 x.client, .int .i64 x.id, .int .i64 x.first, .int .i64 x.last, .bool x.marked] 40 (0, 0)) := by
        rw [hwf, Joins.block_setCell (Joins.block_setCell (Joins.block_setCell (Joins.block_setCell (Joins.block_setCell (Joins.block_setCell (Joins.block_setCell hz5 _) _) _) _) _) _) _]
        simp
      have hbf : Kept w5 wf (fun n => n = z) := by
        have hb : Below z w5 wf := by rw [hwf]; exact Below.setCell (p := ⟨z, 6, none⟩) (Below.setCell (p := ⟨z, 5, none⟩) (Below.setCell (p := ⟨z, 4, none⟩) (Below.setCell (p := ⟨z, 3, none⟩) (Below.setCell (p := ⟨z, 2, none⟩) (Below.setCell (p := ⟨z, 1, none⟩) (Below.setCell (p := ⟨z, 0, none⟩) (Below.refl _ _) (Nat.le_refl _) _) (Nat.le_refl _) _) (Nat.le_refl _) _) (Nat.le_refl _) _) (Nat.le_refl _) _) (Nat.le_refl _) _) (Nat.le_refl _) _
        refine ⟨hb.os, hb.tape, hb.output, hb.size, fun n _ hn => ?_⟩
        rw [hwf]
        exact (set_far hn).trans ((set_far hn).trans ((set_far hn).trans ((set_far hn).trans ((set_far hn).trans ((set_far hn).trans (set_far hn))))))
      obtain ⟨u0, u1, u2, u3, u4, u5, u6⟩ : wf.cell? ⟨z, 0, none⟩ = some (.int .i64 x.req) ∧ wf.cell? ⟨z, 1, none⟩ = some (.string x.key) ∧ wf.cell? ⟨z, 2, none⟩ = some (.int .i64 x.client) ∧ wf.cell? ⟨z, 3, none⟩ = some (.int .i64 x.id) ∧ wf.cell? ⟨z, 4, none⟩ = some (.int .i64 x.first) ∧ wf.cell? ⟨z, 5, none⟩ = some (.int .i64 x.last) ∧ wf.cell? ⟨z, 6, none⟩ = some (.bool x.marked) := ⟨(blk_cells hxf).1 0, (blk_cells hxf).1 1, (blk_cells hxf).1 2, (blk_cells hxf).1 3, (blk_cells hxf).1 4, (blk_cells hxf).1 5, (blk_cells hxf).1 6⟩
      have hfin : RC wf B p life given (.slice A8 X.length c8) X := hR5.kept hbf fun n hn e => by
        subst e
        rcases hn with e | e
        · omega
        · have := (hO.out.lt n e).1
          omega
      have hK : Kept w wf (TR p (.slice A L.length c)) := by
        have k1 : Kept w w3 (TR p (.slice A L.length c)) := ⟨HB3.out.os, HB3.out.tape, HB3.out.output, hsz, fun n hn _ => HB3.out.block n (by rw [HZ.out]; exact hn)⟩
        have k2 : Kept w3 wz (TR p (.slice A L.length c)) := ⟨hBl.out.os, hBl.out.tape, hBl.out.output, hBl.out.size, fun n hn _ => hBl.out.block n hn⟩
        have k3 : Kept wz w5 (TR p (.slice A L.length c)) := by rw [hw5]; exact Kept.setCell _ _ _ _ (.inl rfl)
        exact ((k1.trans k2 fun n hn => .inl hn).trans k3 fun n hn => .inl hn).trans hbf fun n hn => .inr (by rw [hn, HZ.out]; exact Nat.le_refl _)
      have hat : ∀ q, (Value.slice A8 X.length c8).ownBlock = some q → w.heap.size ≤ q := fun q hq => Nat.le_trans hsz (hO.out.lt q hq).1
      have HF := Lib.hid (And.intro hfin (And.intro hK hat))
      have HW5 := Lib.hid hw5
      have HWF := Lib.hid hwf
      clear hfin hK hat hbf hxf hwf hw5 hx5 hz5 hR5 ht htl hO hBl hR hlp hsz hpz hy3 hz3
      go_upto_region 9 with fail
      rw [← HW5.out]
      clear HW5 f2 c2
      go_wp2_with fail
      rw [← HWF.out]
      refine bodyPost_ret (v := .tuple #[x.agg, .bool sm]) (by clear s0 s1 s2 s3 s4 s5 s6 k0 k1 k2 k3 k4 k5 k6 j0 j1 j2 j3 j4 j5 j6; unfold WT.agg; rw [results_ct rfl]; go_simp; try rfl) rfl ?_
      exact ⟨by first | rfl | trivial, _, HF.out.1, HF.out.2.1, HF.out.2.2⟩
end
end Go.Proofs.Ytclfhidapkoiiab
