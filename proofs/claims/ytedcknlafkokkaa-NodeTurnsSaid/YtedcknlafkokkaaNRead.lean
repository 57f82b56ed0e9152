/-
  A cell read: the program's readCell; noughts. No statement is proved here. No condition.
-/
import Derived.Test.YtedcknlafkokkaaNCutW
namespace Go.Proofs.Ytedcknlafkokkaa
open Go.RowKit

def rdCell (leaf : Bool) (st : Option (List UInt8)) : PC × Option (List UInt8) :=
  if leaf then
    (if (told 0 (gCount 2147483647) (told [] (gStr 48) st).2).1 = 0 then
      (⟨⟨(told [] (gStr 48) st).1.toArray⟩, ⟨(told [] (gStr 64) (told 0 (gCount 2147483647) (told [] (gStr 48) st).2).2).1.toArray⟩, 0, 0⟩, (told [] (gStr 64) (told 0 (gCount 2147483647) (told [] (gStr 48) st).2).2).2)
    else
      (⟨⟨(told [] (gStr 48) st).1.toArray⟩, ⟨#[]⟩, (told 0 (gCount 2147483647) (told [] (gStr 48) st).2).1, (told 0 (gCount 2147483647) (told 0 (gCount 2147483647) (told [] (gStr 48) st).2).2).1⟩, (told 0 (gCount 2147483647) (told 0 (gCount 2147483647) (told [] (gStr 48) st).2).2).2))
  else (⟨⟨(told [] (gStr 48) st).1.toArray⟩, ⟨#[]⟩, 0, 0⟩, (told [] (gStr 48) st).2)
theorem zero_cell (W : World) : (zeroValue 59).run Try.prog W = .ok (.agg #[.string ⟨#[]⟩, .string ⟨#[]⟩, .int .i64 0, .int .i64 0]) W := by kernel_rfl
theorem grown_alloc {w w' : World} {r : Option Nat} (h : w.grownBy w' r) (o : Obj) : w.grownBy (w'.alloc o) r := ⟨h.os, h.tape, h.output, by have := h.size; simp; omega, fun b hb hn => by rw [← h.block b hb hn]; exact heap_alloc_old _ _ (by have := h.size; omega)⟩
theorem grown_far {w w' : World} {r : Option Nat} (h : w.grownBy w' r) {p i : Nat} {v : Value} (hp : w.heap.size ≤ p) : w.grownBy (w'.setCell ⟨p, i, none⟩ v) r := ⟨h.os, h.tape, h.output, by simpa using h.size, fun b hb hn => by rw [set_far (by omega)]; exact h.block b hb hn⟩
theorem Rdr.far {T : TypeId} {w : World} {R : Nat} {st : Option (List UInt8)} (h : Rdr T w R st) {p i : Nat} {v : Value} (hp : R < p) : Rdr T (w.setCell ⟨p, i, none⟩ v) R st := by
  obtain ⟨x, h1, h2⟩ := h
  refine ⟨x, (set_far (by omega)).trans h1, h2.keep (Nat.le_refl _) fun a ha => ?_⟩
  exact World.cell?_of_block (set_far (by omega))
theorem set4 {W : World} {p i : Nat} {T : TypeId} {C : Array Value} {v : Value} (h : W.heap[p]? = some (.cells C T (0, 0))) : (W.setCell ⟨p, i, none⟩ v).heap[p]? = some (.cells (C.setIfInBounds i v) T (0, 0)) := Joins.block_setCell h v
set_option maxHeartbeats 2000000 in
set_option maxRecDepth 100000 in
theorem readcell_any (R : Nat) (st : Option (List UInt8)) (leaf : Bool) (w : World) (h : Rdr 101 w R st) :
    Calls Try.prog 72 #[.pointer (some ⟨R, 0, none⟩), .bool leaf] w fun e w' => e = .returned (rdCell leaf st).1.agg ∧ w.grownBy w' (some R) ∧ Rdr 101 w' R (rdCell leaf st).2 := by
  obtain ⟨w1, hw1⟩ : ∃ w1, w1 = w.alloc (.cells #[.string ⟨#[]⟩, .string ⟨#[]⟩, .int .i64 0, .int .i64 0] 59) := ⟨_, rfl⟩
  have hz1 : w1.heap[w.heap.size]? = some (.cells #[.string ⟨#[]⟩, .string ⟨#[]⟩, .int .i64 0, .int .i64 0] 59 (0, 0)) := by rw [hw1]; exact heap_alloc_new w _
  have hg1 : w.grownBy w1 (some R) := by rw [hw1]; exact grown_alloc (grown_refl w _) _
  have hr1 : Rdr 101 w1 R st := by rw [hw1]; exact h.alloc _
  have hRl := h.lt
  have cS := Str_any R 48 st w1 hr1
  obtain ⟨k, s1, hk⟩ : ∃ k s1, told [] (gStr 48) st = (k, s1) := ⟨_, _, rfl⟩
  rw [hk] at cS
  have HK := Lib.hid hk
  rw [hw1] at cS
  have HW1 := Lib.hid hw1
  have hzc := zero_cell
  clear hw1 hk h hr1
  go_enter Try.func72, Try.ntmps72
  go_wp2_with fail
  refine cS.mono ?_
  rintro e w2 ⟨rfl, hg2, hr2⟩
  rw [← HW1.out] at hg2
  clear cS
  have hs1 := hg1.size
  have hs12 := hg2.size
  have hlw1 : w.heap.size < w1.heap.size := (Array.getElem?_eq_some_iff.1 hz1).1
  have hz2 := (hg2.block _ hlw1 (fun e => by injection e with e; omega)).trans hz1
  obtain ⟨w3, hw3⟩ : ∃ w3, w3 = w2.alloc (.cells #[.string ⟨k.toArray⟩, .string ⟨#[]⟩, .int .i64 0, .int .i64 0] 59) := ⟨_, rfl⟩
  have hg3 : w.grownBy w3 (some R) := by rw [hw3]; exact grown_alloc (grown_trans hg1 hg2) _
  have hr3 : Rdr 101 w3 R s1 := by rw [hw3]; exact hr2.alloc _
  have hc3 : w3.heap[w2.heap.size]? = some (.cells #[.string ⟨k.toArray⟩, .string ⟨#[]⟩, .int .i64 0, .int .i64 0] 59 (0, 0)) := by rw [hw3]; exact heap_alloc_new w2 _
  have hz3 : w3.heap[w.heap.size]? = some (.cells #[.string ⟨#[]⟩, .string ⟨#[]⟩, .int .i64 0, .int .i64 0] 59 (0, 0)) := by rw [hw3]; exact (heap_alloc_old _ _ (by omega)).trans hz2
  have hl12 : w.heap.size < w2.heap.size := by omega
  have HW3 := Lib.hid hw3
  clear hw3 hz2 hz1 hr2
  -- what is told, the cell being x in block w2.heap.size
  have hend : ∀ (W : World) (x : PC) (s : Option (List UInt8)), w.grownBy W (some R) → Rdr 101 W R s → W.heap[w.heap.size]? = some (.cells #[.string ⟨#[]⟩, .string ⟨#[]⟩, .int .i64 0, .int .i64 0] 59 (0, 0)) →
      ((((W.setCell ⟨w.heap.size, 0, none⟩ (.string x.key)).setCell ⟨w.heap.size, 1, none⟩ (.string x.val)).setCell ⟨w.heap.size, 2, none⟩ (.int .i64 x.long)).setCell ⟨w.heap.size, 3, none⟩ (.int .i64 x.size)).heap[w.heap.size]? = some (.cells #[.string x.key, .string x.val, .int .i64 x.long, .int .i64 x.size] 59 (0, 0)) ∧
      w.grownBy ((((W.setCell ⟨w.heap.size, 0, none⟩ (.string x.key)).setCell ⟨w.heap.size, 1, none⟩ (.string x.val)).setCell ⟨w.heap.size, 2, none⟩ (.int .i64 x.long)).setCell ⟨w.heap.size, 3, none⟩ (.int .i64 x.size)) (some R) ∧
      Rdr 101 ((((W.setCell ⟨w.heap.size, 0, none⟩ (.string x.key)).setCell ⟨w.heap.size, 1, none⟩ (.string x.val)).setCell ⟨w.heap.size, 2, none⟩ (.int .i64 x.long)).setCell ⟨w.heap.size, 3, none⟩ (.int .i64 x.size)) R s := by
    intro W x s hg hr hz
    refine ⟨?_, grown_far (grown_far (grown_far (grown_far hg (Nat.le_refl _)) (Nat.le_refl _)) (Nat.le_refl _)) (Nat.le_refl _), (((hr.far hRl).far hRl).far hRl).far hRl⟩
    rw [set4 (set4 (set4 (set4 hz)))]
    simp
  have HEND := Lib.hid hend
  clear hend
  cases leaf with
  | false =>
    have hrd : rdCell false st = (⟨⟨k.toArray⟩, ⟨#[]⟩, 0, 0⟩, s1) := by unfold rdCell; rw [HK.out]; rfl
    have HRD := Lib.hid hrd
    obtain ⟨q1, q2, q3⟩ := HEND.out w3 ⟨⟨k.toArray⟩, ⟨#[]⟩, 0, 0⟩ s1 hg3 hr3 hz3
    obtain ⟨w4, hw4⟩ : ∃ w4, w4 = (((w3.setCell ⟨w.heap.size, 0, none⟩ (.string ⟨k.toArray⟩)).setCell ⟨w.heap.size, 1, none⟩ (.string ⟨#[]⟩)).setCell ⟨w.heap.size, 2, none⟩ (.int .i64 0)).setCell ⟨w.heap.size, 3, none⟩ (.int .i64 0) := ⟨_, rfl⟩
    dsimp only at q1 q2 q3
    rw [← hw4] at q1 q2 q3
    have z0 : w3.cell? ⟨w.heap.size, 0, none⟩ = some (.string ⟨#[]⟩) := (row_cells hz3).1 0
    have z1 : w3.cell? ⟨w.heap.size, 1, none⟩ = some (.string ⟨#[]⟩) := (row_cells hz3).1 1
    have z2 : w3.cell? ⟨w.heap.size, 2, none⟩ = some (.int .i64 0) := (row_cells hz3).1 2
    have z3 : w3.cell? ⟨w.heap.size, 3, none⟩ = some (.int .i64 0) := (row_cells hz3).1 3
    have y0 : w3.frozen? ⟨w.heap.size, 0, none⟩ = false := (row_cells hz3).2 0
    have y1 : w3.frozen? ⟨w.heap.size, 1, none⟩ = false := (row_cells hz3).2 1
    have y2 : w3.frozen? ⟨w.heap.size, 2, none⟩ = false := (row_cells hz3).2 2
    have y3 : w3.frozen? ⟨w.heap.size, 3, none⟩ = false := (row_cells hz3).2 3
    have x0 : w3.cell? ⟨w2.heap.size, 0, none⟩ = some (.string ⟨k.toArray⟩) := (row_cells hc3).1 0
    have x1 : w3.cell? ⟨w2.heap.size, 1, none⟩ = some (.string ⟨#[]⟩) := (row_cells hc3).1 1
    have x2 : w3.cell? ⟨w2.heap.size, 2, none⟩ = some (.int .i64 0) := (row_cells hc3).1 2
    have x3 : w3.cell? ⟨w2.heap.size, 3, none⟩ = some (.int .i64 0) := (row_cells hc3).1 3
    have r0 : w4.cell? ⟨w.heap.size, 0, none⟩ = some (.string ⟨k.toArray⟩) := (row_cells q1).1 0
    have r1 : w4.cell? ⟨w.heap.size, 1, none⟩ = some (.string ⟨#[]⟩) := (row_cells q1).1 1
    have r2 : w4.cell? ⟨w.heap.size, 2, none⟩ = some (.int .i64 0) := (row_cells q1).1 2
    have r3 : w4.cell? ⟨w.heap.size, 3, none⟩ = some (.int .i64 0) := (row_cells q1).1 3
    have HQ2 := Lib.hid q2
    have HQ3 := Lib.hid q3
    have HW4 := Lib.hid hw4
    clear q1 q2 q3 hw4 hrd hg3 hr3 hc3 hz3 hg1 hg2
    go_upto_region 3 with fail
    rw [← HW3.out]
    go_wp2_with fail
    rw [← HW4.out]
    refine bodyPost_ret (v := .agg #[.string ⟨k.toArray⟩, .string ⟨#[]⟩, .int .i64 0, .int .i64 0]) (by rw [results_c rfl]; go_simp; try rfl) rfl ?_
    rw [HRD.out]
    exact ⟨rfl, HQ2.out, HQ3.out⟩
  | true =>
    have cC := Count_any R 2147483647 s1 w3 hr3
    obtain ⟨lg, s2, hlg⟩ : ∃ lg s2, told 0 (gCount 2147483647) s1 = (lg, s2) := ⟨_, _, rfl⟩
    rw [hlg] at cC
    have HLG := Lib.hid hlg
    have HG3 := Lib.hid hg3
    have HC3 := Lib.hid hc3
    have HZ3 := Lib.hid hz3
    have hs23 : w2.heap.size < w3.heap.size := (Array.getElem?_eq_some_iff.1 hc3).1
    clear hlg hr3 hg3 hc3 hz3 hg1 hg2
    go_upto_region 4 with fail
    rw [← HW3.out]
    go_wp2_with fail
    refine cC.mono ?_
    rintro e w4 ⟨rfl, hg4, hr4⟩
    clear cC
    have hc4 := (hg4.block _ hs23 (fun e => by injection e with e; omega)).trans HC3.out
    have hz4 := (hg4.block _ (by omega) (fun e => by injection e with e; omega)).trans HZ3.out
    obtain ⟨w5, hw5⟩ : ∃ w5, w5 = w4.setCell ⟨w2.heap.size, 2, none⟩ (.int .i64 lg) := ⟨_, rfl⟩
    have hc5 : w5.heap[w2.heap.size]? = some (.cells #[.string ⟨k.toArray⟩, .string ⟨#[]⟩, .int .i64 lg, .int .i64 0] 59 (0, 0)) := by rw [hw5, set4 hc4]; simp
    have hz5 : w5.heap[w.heap.size]? = some (.cells #[.string ⟨#[]⟩, .string ⟨#[]⟩, .int .i64 0, .int .i64 0] 59 (0, 0)) := by rw [hw5, set_far (by omega)]; exact hz4
    have hg5 : w.grownBy w5 (some R) := by rw [hw5]; exact grown_far (grown_trans HG3.out hg4) (by omega)
    have hr5 : Rdr 101 w5 R s2 := by rw [hw5]; exact hr4.far (by omega)
    have u2 : w4.cell? ⟨w2.heap.size, 2, none⟩ = some (.int .i64 0) := (row_cells hc4).1 2
    have v2 : w4.frozen? ⟨w2.heap.size, 2, none⟩ = false := (row_cells hc4).2 2
    have p2 : w5.cell? ⟨w2.heap.size, 2, none⟩ = some (.int .i64 lg) := (row_cells hc5).1 2
    have HW5 := Lib.hid hw5
    have HC5 := Lib.hid hc5
    have HZ5 := Lib.hid hz5
    have HG5 := Lib.hid hg5
    have hs45 : w2.heap.size < w5.heap.size := (Array.getElem?_eq_some_iff.1 hc5).1
    clear hw5 hc4 hz4 hc5 hz5 hg5 hg4 hr4
    go_upto_region 5 with fail
    rw [← HW5.out]
    by_cases hl0 : lg = 0
    · subst hl0
      have cV := Str_any R 64 s2 w5 hr5
      obtain ⟨vv, s3, hv⟩ : ∃ vv s3, told [] (gStr 64) s2 = (vv, s3) := ⟨_, _, rfl⟩
      rw [hv] at cV
      have hrd : rdCell true st = (⟨⟨k.toArray⟩, ⟨vv.toArray⟩, 0, 0⟩, s3) := by unfold rdCell; rw [HK.out]; dsimp only; rw [HLG.out]; dsimp only; rw [hv]; rfl
      have HRD := Lib.hid hrd
      clear hrd hv hr5
      go_wp2_with fail
      refine cV.mono ?_
      rintro e w6 ⟨rfl, hg6, hr6⟩
      clear cV
      have hc6 := (hg6.block _ hs45 (fun e => by injection e with e; omega)).trans HC5.out
      have hz6 := (hg6.block _ (by omega) (fun e => by injection e with e; omega)).trans HZ5.out
      obtain ⟨w7, hw7⟩ : ∃ w7, w7 = w6.setCell ⟨w2.heap.size, 1, none⟩ (.string ⟨vv.toArray⟩) := ⟨_, rfl⟩
      have hcF : w7.heap[w2.heap.size]? = some (.cells #[.string ⟨k.toArray⟩, .string ⟨vv.toArray⟩, .int .i64 0, .int .i64 0] 59 (0, 0)) := by rw [hw7, set4 hc6]; simp
      have hzF : w7.heap[w.heap.size]? = some (.cells #[.string ⟨#[]⟩, .string ⟨#[]⟩, .int .i64 0, .int .i64 0] 59 (0, 0)) := by rw [hw7, set_far (by omega)]; exact hz6
      have hgF : w.grownBy w7 (some R) := by rw [hw7]; exact grown_far (grown_trans HG5.out hg6) (by omega)
      have hrF : Rdr 101 w7 R s3 := by rw [hw7]; exact hr6.far (by omega)
      have u1 : w6.cell? ⟨w2.heap.size, 1, none⟩ = some (.string ⟨#[]⟩) := (row_cells hc6).1 1
      have v1 : w6.frozen? ⟨w2.heap.size, 1, none⟩ = false := (row_cells hc6).2 1
      have HWE := Lib.hid hw7
      clear hw7 hc6 hz6 hg6 hr6 u2 v2 p2
      obtain ⟨q1, q2, q3⟩ := HEND.out w7 ⟨⟨k.toArray⟩, ⟨vv.toArray⟩, 0, 0⟩ s3 hgF hrF hzF
      obtain ⟨wf, hwf⟩ : ∃ wf, wf = (((w7.setCell ⟨w.heap.size, 0, none⟩ (.string ⟨k.toArray⟩)).setCell ⟨w.heap.size, 1, none⟩ (.string ⟨vv.toArray⟩)).setCell ⟨w.heap.size, 2, none⟩ (.int .i64 0)).setCell ⟨w.heap.size, 3, none⟩ (.int .i64 0) := ⟨_, rfl⟩
      dsimp only at q1 q2 q3
      rw [← hwf] at q1 q2 q3
      have z0 : w7.cell? ⟨w.heap.size, 0, none⟩ = some (.string ⟨#[]⟩) := (row_cells hzF).1 0
      have z1 : w7.cell? ⟨w.heap.size, 1, none⟩ = some (.string ⟨#[]⟩) := (row_cells hzF).1 1
      have z2 : w7.cell? ⟨w.heap.size, 2, none⟩ = some (.int .i64 0) := (row_cells hzF).1 2
      have z3 : w7.cell? ⟨w.heap.size, 3, none⟩ = some (.int .i64 0) := (row_cells hzF).1 3
      have y0 : w7.frozen? ⟨w.heap.size, 0, none⟩ = false := (row_cells hzF).2 0
      have y1 : w7.frozen? ⟨w.heap.size, 1, none⟩ = false := (row_cells hzF).2 1
      have y2 : w7.frozen? ⟨w.heap.size, 2, none⟩ = false := (row_cells hzF).2 2
      have y3 : w7.frozen? ⟨w.heap.size, 3, none⟩ = false := (row_cells hzF).2 3
      have x0 : w7.cell? ⟨w2.heap.size, 0, none⟩ = some (.string ⟨k.toArray⟩) := (row_cells hcF).1 0
      have x1 : w7.cell? ⟨w2.heap.size, 1, none⟩ = some (.string ⟨vv.toArray⟩) := (row_cells hcF).1 1
      have x2 : w7.cell? ⟨w2.heap.size, 2, none⟩ = some (.int .i64 0) := (row_cells hcF).1 2
      have x3 : w7.cell? ⟨w2.heap.size, 3, none⟩ = some (.int .i64 0) := (row_cells hcF).1 3
      have r0 : wf.cell? ⟨w.heap.size, 0, none⟩ = some (.string ⟨k.toArray⟩) := (row_cells q1).1 0
      have r1 : wf.cell? ⟨w.heap.size, 1, none⟩ = some (.string ⟨vv.toArray⟩) := (row_cells q1).1 1
      have r2 : wf.cell? ⟨w.heap.size, 2, none⟩ = some (.int .i64 0) := (row_cells q1).1 2
      have r3 : wf.cell? ⟨w.heap.size, 3, none⟩ = some (.int .i64 0) := (row_cells q1).1 3
      have HQ2 := Lib.hid q2
      have HQ3 := Lib.hid q3
      have HWF := Lib.hid hwf
      clear q1 q2 q3 hwf hgF hrF hzF hcF
      go_upto_region 8 with fail
      rw [← HWE.out]
      go_wp2_with fail
      rw [← HWF.out]
      refine bodyPost_ret (v := .agg #[.string ⟨k.toArray⟩, .string ⟨vv.toArray⟩, .int .i64 0, .int .i64 0]) (by rw [results_c rfl]; go_simp; try rfl) rfl ?_
      rw [HRD.out]
      exact ⟨rfl, HQ2.out, HQ3.out⟩
    · have cV := Count_any R 2147483647 s2 w5 hr5
      obtain ⟨zz, s3, hv⟩ : ∃ zz s3, told 0 (gCount 2147483647) s2 = (zz, s3) := ⟨_, _, rfl⟩
      rw [hv] at cV
      have hrd : rdCell true st = (⟨⟨k.toArray⟩, ⟨#[]⟩, lg, zz⟩, s3) := by unfold rdCell; rw [HK.out]; dsimp only; rw [HLG.out]; dsimp only; rw [hv, if_neg hl0]; rfl
      have HRD := Lib.hid hrd
      clear hrd hv hr5
      go_wp2_with fail
      refine cV.mono ?_
      rintro e w6 ⟨rfl, hg6, hr6⟩
      clear cV
      have hc6 := (hg6.block _ hs45 (fun e => by injection e with e; omega)).trans HC5.out
      have hz6 := (hg6.block _ (by omega) (fun e => by injection e with e; omega)).trans HZ5.out
      obtain ⟨w7, hw7⟩ : ∃ w7, w7 = w6.setCell ⟨w2.heap.size, 3, none⟩ (.int .i64 zz) := ⟨_, rfl⟩
      have hcF : w7.heap[w2.heap.size]? = some (.cells #[.string ⟨k.toArray⟩, .string ⟨#[]⟩, .int .i64 lg, .int .i64 zz] 59 (0, 0)) := by rw [hw7, set4 hc6]; simp
      have hzF : w7.heap[w.heap.size]? = some (.cells #[.string ⟨#[]⟩, .string ⟨#[]⟩, .int .i64 0, .int .i64 0] 59 (0, 0)) := by rw [hw7, set_far (by omega)]; exact hz6
      have hgF : w.grownBy w7 (some R) := by rw [hw7]; exact grown_far (grown_trans HG5.out hg6) (by omega)
      have hrF : Rdr 101 w7 R s3 := by rw [hw7]; exact hr6.far (by omega)
      have u1 : w6.cell? ⟨w2.heap.size, 3, none⟩ = some (.int .i64 0) := (row_cells hc6).1 3
      have v1 : w6.frozen? ⟨w2.heap.size, 3, none⟩ = false := (row_cells hc6).2 3
      have HWE := Lib.hid hw7
      clear hw7 hc6 hz6 hg6 hr6 u2 v2 p2
      obtain ⟨q1, q2, q3⟩ := HEND.out w7 ⟨⟨k.toArray⟩, ⟨#[]⟩, lg, zz⟩ s3 hgF hrF hzF
      obtain ⟨wf, hwf⟩ : ∃ wf, wf = (((w7.setCell ⟨w.heap.size, 0, none⟩ (.string ⟨k.toArray⟩)).setCell ⟨w.heap.size, 1, none⟩ (.string ⟨#[]⟩)).setCell ⟨w.heap.size, 2, none⟩ (.int .i64 lg)).setCell ⟨w.heap.size, 3, none⟩ (.int .i64 zz) := ⟨_, rfl⟩
      dsimp only at q1 q2 q3
      rw [← hwf] at q1 q2 q3
      have z0 : w7.cell? ⟨w.heap.size, 0, none⟩ = some (.string ⟨#[]⟩) := (row_cells hzF).1 0
      have z1 : w7.cell? ⟨w.heap.size, 1, none⟩ = some (.string ⟨#[]⟩) := (row_cells hzF).1 1
      have z2 : w7.cell? ⟨w.heap.size, 2, none⟩ = some (.int .i64 0) := (row_cells hzF).1 2
      have z3 : w7.cell? ⟨w.heap.size, 3, none⟩ = some (.int .i64 0) := (row_cells hzF).1 3
      have y0 : w7.frozen? ⟨w.heap.size, 0, none⟩ = false := (row_cells hzF).2 0
      have y1 : w7.frozen? ⟨w.heap.size, 1, none⟩ = false := (row_cells hzF).2 1
      have y2 : w7.frozen? ⟨w.heap.size, 2, none⟩ = false := (row_cells hzF).2 2
      have y3 : w7.frozen? ⟨w.heap.size, 3, none⟩ = false := (row_cells hzF).2 3
      have x0 : w7.cell? ⟨w2.heap.size, 0, none⟩ = some (.string ⟨k.toArray⟩) := (row_cells hcF).1 0
      have x1 : w7.cell? ⟨w2.heap.size, 1, none⟩ = some (.string ⟨#[]⟩) := (row_cells hcF).1 1
      have x2 : w7.cell? ⟨w2.heap.size, 2, none⟩ = some (.int .i64 lg) := (row_cells hcF).1 2
      have x3 : w7.cell? ⟨w2.heap.size, 3, none⟩ = some (.int .i64 zz) := (row_cells hcF).1 3
      have r0 : wf.cell? ⟨w.heap.size, 0, none⟩ = some (.string ⟨k.toArray⟩) := (row_cells q1).1 0
      have r1 : wf.cell? ⟨w.heap.size, 1, none⟩ = some (.string ⟨#[]⟩) := (row_cells q1).1 1
      have r2 : wf.cell? ⟨w.heap.size, 2, none⟩ = some (.int .i64 lg) := (row_cells q1).1 2
      have r3 : wf.cell? ⟨w.heap.size, 3, none⟩ = some (.int .i64 zz) := (row_cells q1).1 3
      have HQ2 := Lib.hid q2
      have HQ3 := Lib.hid q3
      have HWF := Lib.hid hwf
      clear q1 q2 q3 hwf hgF hrF hzF hcF
      go_upto_region 8 with fail
      rw [← HWE.out]
      go_wp2_with fail
      rw [← HWF.out]
      refine bodyPost_ret (v := .agg #[.string ⟨k.toArray⟩, .string ⟨#[]⟩, .int .i64 lg, .int .i64 zz]) (by rw [results_c rfl]; go_simp; try rfl) rfl ?_
      rw [HRD.out]
      exact ⟨rfl, HQ2.out, HQ3.out⟩
/-- all of them are 0 -/
def allNought (l : List UInt8) : Bool := l.all (· == 0)
set_option maxRecDepth 100000 in
theorem noughts_any (l : List UInt8) (v : Value) (w : World) (h : BN w Any v l) (hl : l.length ≤ 1000000) :
    Calls Try.prog 50 #[v] w fun e w' => e = .returned (.bool (allNought l)) ∧ w = w' := by
  obtain ⟨A, c, rfl, -, -⟩ := h.slice
  obtain ⟨A0, c0, hv, h1, h2, h3, h4⟩ := h.rd
  injection hv with e1 e2 e3
  subst e1 e3
  have H4 := Lib.hid h4
  clear h h1 h2 h3 h4 e2
  obtain ⟨t, ht⟩ : ∃ t, t = allNought l := ⟨_, rfl⟩
  rw [← ht]
  have HT : Hid (t = allNought (l.drop 0)) := Lib.hid (by rw [ht, List.drop_zero])
  clear ht
  go_enter Try.func50, Try.ntmps50
  go_wp2_with fail
  go_loopw [2, 4, 7] (fun _ _ s7 wr => ∃ i : Nat, s7 = .int .i64 (i : Int) ∧ i ≤ l.length ∧ Hid (t = allNought (l.drop i)) ∧ wr = w) (fun _ _ s7 _ => l.length - (intOf s7).toNat)
  case atStart => exact ⟨0, rfl, Nat.zero_le _, HT, rfl⟩
  case round =>
    clear HT
    obtain ⟨i, rfl, hi, hr, rfl⟩ := hrel
    by_cases hil : i < l.length
    · have a1 : (i : Int) < (l.length : Int) := by omega
      have a0 : (0 : Int) ≤ (i : Int) := by omega
      obtain ⟨b, o, rfl, hb, hc⟩ := H4.out (by intro e; rw [e] at hil; simp at hil)
      have hci := hc i _ (List.getElem?_eq_getElem hil)
      obtain ⟨x, hx⟩ : ∃ x, x = l[i] := ⟨_, rfl⟩
      rw [← hx] at hci
      have hr' := hr.out
      rw [List.drop_eq_getElem_cons hil, ← hx] at hr'
      unfold allNought at hr'
      rw [List.all_cons] at hr'
      clear hx
      by_cases hx0 : x = 0
      · subst hx0
        have hr2 : t = allNought (l.drop (i + 1)) := by rw [hr']; rfl
        have HR := Lib.hid hr2
        clear hr' hr hr2 hc
        go_wp2_with fail
        exact ⟨⟨i + 1, by go_num, hil, HR, trivial⟩, by simp [intOf]; omega⟩
      · have hxn : ¬ (x.toNat : Int) = 0 := fun e => hx0 (UInt8.toNat_inj.1 (by simpa using e))
        have hr2 : t = false := by rw [hr', beq_false_of_ne hx0]; rfl
        have HR := Lib.hid hr2
        clear hr' hr hr2 hc hx0
        go_wp2_with fail
        go_ret
        exact ⟨ret_bool (by rw [HR.out]), rfl⟩
    · have a1 : ¬ (i : Int) < (l.length : Int) := by omega
      have hr' := hr.out
      rw [List.drop_of_length_le (by omega)] at hr'
      have hr2 : t = true := hr'
      have HR := Lib.hid hr2
      clear hr' hr hr2
      go_wp2_with fail
      go_ret
      exact ⟨ret_bool (by rw [HR.out]), rfl⟩
end Go.Proofs.Ytedcknlafkokkaa
