/-
  The program's own disk: Copy. No statement is proved here. No condition.
-/
import Derived.Test.YthchnnddnjibmaaPNew
namespace Go.Proofs.Ythchnnddnjibmaa
open Go.RowKit Go.Maps

set_option maxHeartbeats 4000000 in
theorem pCopy_any (G S : Nat → Prop) (q : Nat) (D : DS) (w : World) (h : PD w G S q D) (hlen : D.waits.length ≤ 1000000) (hll : D.lasts.length ≤ 1000000) :
    Calls Try.prog 17 #[.pointer (some ⟨q, 0, none⟩)] w fun e w' => Below w.heap.size w w' ∧ ∃ q', e = .returned (.pointer (some ⟨q', 0, none⟩)) ∧ PD w' (Made w w') S q' D := by
  obtain ⟨vl, vw, m, st, left, ks, pl, pw, h, hm, hM⟩ := h
  have hc := (row7 h.cells).1
  have c0 : w.cell? ⟨q, 0, none⟩ = some vl := hc 0
  have c1 : w.cell? ⟨q, 1, none⟩ = some vw := hc 1
  have c2 : w.cell? ⟨q, 2, none⟩ = some (.map (some m)) := hc 2
  have c3 : w.cell? ⟨q, 3, none⟩ = some (.int .i64 (D.done : Int)) := hc 3
  have c4 : w.cell? ⟨q, 4, none⟩ = some (.bool D.dead) := hc 4
  have c5 : w.cell? ⟨q, 5, none⟩ = some (.bool st) := hc 5
  have c6 : w.cell? ⟨q, 6, none⟩ = some (.int .i64 left) := hc 6
  have c7 : w.cell? ⟨q, 7, none⟩ = some (.string ks) := hc 7
  have hqs := h.lt
  obtain ⟨_, _, hvl, -⟩ := RowAt.of_own h.lasts
  have hvl' : ∃ Al cl, vl = .slice Al D.lasts.length cl := ⟨_, _, hvl⟩
  clear hvl
  obtain ⟨Al, cl, rfl⟩ := hvl'
  obtain ⟨_, _, hvw, -⟩ := RowAt.of_own h.waits
  have hvw' : ∃ Aw cw, vw = .slice Aw D.waits.length cw := ⟨_, _, hvw⟩
  clear hvw
  obtain ⟨Aw, cw, rfl⟩ := hvw'
  have H := Lib.hid h
  have HM := Lib.hid hM
  clear hc h hM hm
  go_enter Try.func17, Try.ntmps17
  go_upto_region 4 with fail
  have hq1 := heap_alloc_new w (.cells #[.slice Al D.lasts.length cl, .slice Aw D.waits.length cw, .map (some m), .int .i64 (D.done : Int), .bool D.dead, .bool st, .int .i64 left, .string ks] 74 (0, 0))
  have hb1 : Below w.heap.size w (w.alloc (.cells #[.slice Al D.lasts.length cl, .slice Aw D.waits.length cw, .map (some m), .int .i64 (D.done : Int), .bool D.dead, .bool st, .int .i64 left, .string ks] 74 (0, 0))) := (Below.refl _ _).alloc (Nat.le_refl _) _
  obtain ⟨p, hp⟩ : ∃ p, p = w.heap.size := ⟨_, rfl⟩
  have hpw : w.heap.size ≤ p := by omega
  have hqp : q ≠ p := by omega
  rw [← hp] at hq1 ⊢
  obtain ⟨w1, hw1⟩ : ∃ w1, w1 = w.alloc (.cells #[.slice Al D.lasts.length cl, .slice Aw D.waits.length cw, .map (some m), .int .i64 (D.done : Int), .bool D.dead, .bool st, .int .i64 left, .string ks] 74 (0, 0)) := ⟨_, rfl⟩
  rw [← hw1] at hq1 hb1 ⊢
  have hp1 : p < w1.heap.size := (Array.getElem?_eq_some_iff.1 hq1).1
  have hcl := p_clone_ptrs _ D.lasts.length pl w1 ((RowAt.of_own H.out.lasts).grow hb1) hll
  have e0 : w1.cell? ⟨q, 0, none⟩ = some (.slice Al D.lasts.length cl) := (hb1.cell (p := ⟨q, 0, none⟩) hqs).trans c0
  have HQ1 := Lib.hid hq1
  have HP := Lib.hid hp
  clear hp hw1 hq1 c0 c3 c4 c5 c6 c7
  go_wp2_with fail
  refine hcl.mono ?_
  rintro e w2 ⟨v1, rfl, ho1, hb2⟩
  obtain ⟨_, _, hv1, -⟩ := RowAt.of_own ho1
  have hv1' : ∃ A1 c1, v1 = .slice A1 D.lasts.length c1 := ⟨_, _, hv1⟩
  clear hv1
  obtain ⟨Al1, cl1, rfl⟩ := hv1'
  have hq2 := (hb2.block p hp1).trans HQ1.out
  have d0 : w2.cell? ⟨p, 0, none⟩ = some (.slice Al D.lasts.length cl) := (row7 hq2).1 0
  have f0 := (row7 hq2).2 0
  have hz1 := hb1.size
  have hz2 := hb2.size
  have HO1 := Lib.hid ho1
  have HQ2 := Lib.hid hq2
  clear ho1 hq2 hcl e0 HQ1
  go_upto_region 5 with fail
  have hq3 := Joins.block_setCell (i := 0) HQ2.out (.slice Al1 D.lasts.length cl1)
  have hb3 : Below w.heap.size w (w2.setCell ⟨p, 0, none⟩ (.slice Al1 D.lasts.length cl1)) := (hb1.trans (Joins.below_le hb2 hz1)).setCell (p := ⟨p, 0, none⟩) hpw _
  have ho3 : (w2.setCell ⟨p, 0, none⟩ (.slice Al1 D.lasts.length cl1)).ownsRow w1.heap.size 76 1 (.slice Al1 D.lasts.length cl1) D.lasts.length (PS pl) := row_same HO1.out fun b hb => set_other (by have := (HO1.out.lt b hb).1; omega)
  have hz3' : (w2.setCell ⟨p, 0, none⟩ (.slice Al1 D.lasts.length cl1)).heap.size = w2.heap.size := by simp
  have hq3' : (w2.setCell ⟨p, 0, none⟩ (.slice Al1 D.lasts.length cl1)).heap[p]? = some (.cells #[.slice Al1 D.lasts.length cl1, .slice Aw D.waits.length cw, .map (some m), .int .i64 (D.done : Int), .bool D.dead, .bool st, .int .i64 left, .string ks] 74 (0, 0)) := by rw [hq3]; simp
  obtain ⟨w3, hw3⟩ : ∃ w3, w3 = w2.setCell ⟨p, 0, none⟩ (.slice Al1 D.lasts.length cl1) := ⟨_, rfl⟩
  rw [← hw3] at hb3 ho3 hz3' hq3' ⊢
  have hz3 : w2.heap.size ≤ w3.heap.size := Nat.le_of_eq hz3'.symm
  have hp3 : p < w3.heap.size := by omega
  have hcw := p_clone_waits _ D.waits.length pw w3 ((RowAt.of_own H.out.waits).grow hb3) hlen
  have e1 : w3.cell? ⟨q, 1, none⟩ = some (.slice Aw D.waits.length cw) := (hb3.cell (p := ⟨q, 1, none⟩) hqs).trans c1
  have HQ3 := Lib.hid hq3'
  have HO3 := Lib.hid ho3
  clear hq3 hq3' ho3 hw3 hz3' c1 d0 f0 HO1 HQ2
  go_wp2_with fail
  refine hcw.mono ?_
  rintro e w4 ⟨v2, rfl, ho4, hb4⟩
  obtain ⟨_, _, hv2, -⟩ := RowAt.of_own ho4
  have hv2' : ∃ A1 c1, v2 = .slice A1 D.waits.length c1 := ⟨_, _, hv2⟩
  clear hv2
  obtain ⟨Aw1, cw1, rfl⟩ := hv2'
  have hq4 := (hb4.block p hp3).trans HQ3.out
  have d1 : w4.cell? ⟨p, 1, none⟩ = some (.slice Aw D.waits.length cw) := (row7 hq4).1 1
  have f1 := (row7 hq4).2 1
  have hz4 := hb4.size
  have HO4 := Lib.hid ho4
  have HQ4 := Lib.hid hq4
  clear ho4 hq4 hcw e1 HQ3
  go_upto_region 6 with fail
  have hb3s := hb3.size
  have hq5 := Joins.block_setCell (i := 1) HQ4.out (.slice Aw1 D.waits.length cw1)
  have hb5 : Below w.heap.size w (w4.setCell ⟨p, 1, none⟩ (.slice Aw1 D.waits.length cw1)) := (hb3.trans (Joins.below_le hb4 hb3s)).setCell (p := ⟨p, 1, none⟩) hpw _
  have ho5 : (w4.setCell ⟨p, 1, none⟩ (.slice Aw1 D.waits.length cw1)).ownsRow w3.heap.size 82 2 (.slice Aw1 D.waits.length cw1) D.waits.length (PW pw) := row_same HO4.out fun b hb => set_other (by have := (HO4.out.lt b hb).1; omega)
  have ho5l : (w4.setCell ⟨p, 1, none⟩ (.slice Aw1 D.waits.length cw1)).ownsRow w1.heap.size 76 1 (.slice Al1 D.lasts.length cl1) D.lasts.length (PS pl) := row_same HO3.out fun b hb => (set_other (by have := (HO3.out.lt b hb).1; omega)).trans (hb4.block b (HO3.out.lt b hb).2)
  have hz5' : (w4.setCell ⟨p, 1, none⟩ (.slice Aw1 D.waits.length cw1)).heap.size = w4.heap.size := by simp
  have hq5' : (w4.setCell ⟨p, 1, none⟩ (.slice Aw1 D.waits.length cw1)).heap[p]? = some (.cells #[.slice Al1 D.lasts.length cl1, .slice Aw1 D.waits.length cw1, .map (some m), .int .i64 (D.done : Int), .bool D.dead, .bool st, .int .i64 left, .string ks] 74 (0, 0)) := by rw [hq5]; simp
  obtain ⟨w5, hw5⟩ : ∃ w5, w5 = w4.setCell ⟨p, 1, none⟩ (.slice Aw1 D.waits.length cw1) := ⟨_, rfl⟩
  rw [← hw5] at hb5 ho5 ho5l hz5' hq5' ⊢
  have hz5 : w4.heap.size ≤ w5.heap.size := Nat.le_of_eq hz5'.symm
  have hp5 : p < w5.heap.size := by omega
  have hM5 : MapAt w5 m D.waits.length pw := HM.out.same (hb5.block m HM.out.lt)
  have hcm := p_clone_map m D.waits.length pw w5 hM5
  have e2 : w5.cell? ⟨q, 2, none⟩ = some (.map (some m)) := (hb5.cell (p := ⟨q, 2, none⟩) hqs).trans c2
  obtain ⟨m1, hm1⟩ : ∃ m1, m1 = w5.heap.size := ⟨_, rfl⟩
  rw [← hm1] at hcm
  have HM1 := Lib.hid hm1
  have HQ5 := Lib.hid hq5'
  have HO5 := Lib.hid ho5
  have HO5L := Lib.hid ho5l
  clear hq5 hq5' ho5 ho5l hw5 hz5' c2 d1 f1 HO4 HQ4 HO3 hm1 hM5
  go_wp2_with fail
  refine hcm.mono ?_
  rintro e w6 ⟨rfl, hM6, hb6⟩
  rw [HM1.out] at hb6
  have hq6 := (hb6.block p hp5).trans HQ5.out
  have d2 : w6.cell? ⟨p, 2, none⟩ = some (.map (some m)) := (row7 hq6).1 2
  have f2 := (row7 hq6).2 2
  have hz6 := hb6.size
  have HM6 := Lib.hid hM6
  have HQ6 := Lib.hid hq6
  clear hM6 hq6 hcm e2 HQ5
  go_wp2_with fail
  go_ret
  have hb5s := hb5.size
  have hq7 := Joins.block_setCell (i := 2) HQ6.out (.map (some m1))
  have hb7 : Below w.heap.size w (w6.setCell ⟨p, 2, none⟩ (.map (some m1))) := (hb5.trans (Joins.below_le hb6 hb5s)).setCell (p := ⟨p, 2, none⟩) hpw _
  have hz7 : (w6.setCell ⟨p, 2, none⟩ (.map (some m1))).heap.size = w6.heap.size := by simp
  have hm1 := HM1.out
  have hm6 := HM6.out.lt
  have hmp : m1 ≠ p := by omega
  have hk7 : ∀ b, b ≠ p → b < w5.heap.size → (w6.setCell ⟨p, 2, none⟩ (.map (some m1))).heap[b]? = w5.heap[b]? := fun b hb hs => (set_other hb).trans (hb6.block b hs)
  refine ⟨hb7, p, rfl, .slice Al1 D.lasts.length cl1, .slice Aw1 D.waits.length cw1, m1, st, left, ks, pl, pw, ⟨⟨hpw, by rw [hz7]; omega⟩, ?_, H.out.fz, own_eq (row_same HO5L.out fun b hb => hk7 b (by have := (HO5L.out.lt b hb).1; omega) (HO5L.out.lt b hb).2) rfl rfl (Nat.zero_le _), fun b hb => ⟨by have := (HO5L.out.lt b hb).1; omega, by rw [hz7]; have := (HO5L.out.lt b hb).2; omega⟩,
    own_eq (row_same HO5.out fun b hb => hk7 b (by have := (HO5.out.lt b hb).1; omega) (HO5.out.lt b hb).2) rfl rfl (Nat.zero_le _), fun b hb => ⟨by have := (HO5.out.lt b hb).1; omega, by rw [hz7]; have := (HO5.out.lt b hb).2; omega⟩, H.out.secs.kept (fun _ h => h) (fun b _ _ hb => hb7.block b hb), H.out.wts.kept (fun _ h => h) (fun b _ _ hb => hb7.block b hb)⟩, ⟨by omega, by rw [hz7]; omega⟩, HM6.out.same (set_other hmp)⟩
  rw [hq7]
  simp
end Go.Proofs.Ythchnnddnjibmaa
