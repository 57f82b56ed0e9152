/-
  The program's read: a packet as a part, or what is wrong with it. No statement is proved here. Condition: the table reads as the program lays it.
-/
import Derived.Test.YtfmaocinckeagaaDoorQTold
namespace Go.Proofs.YtfmaocinckeagaaDoor
open Go.RowKit

theorem opened_zero {l : List UInt8} {e : Int} {k : UInt8} {b : List UInt8} (h : openedOf l = (e, k, b)) (he : e ≠ 0) : k = 0 ∧ b = [] := by
  unfold openedOf at h
  split at h
  · split at h
    · injection h with h1 h2; exact absurd h1.symm he
    · injection h with h1 h2; injection h2 with h2 h3; exact ⟨h2.symm, h3.symm⟩
  · injection h with h1 h2; injection h2 with h2 h3; exact ⟨h2.symm, h3.symm⟩
theorem opened_len {l : List UInt8} : (openedOf l).2.2.length ≤ 8192 := by
  unfold openedOf
  split
  · rename_i hf
    split
    · unfold bodyOf formOf at *
      simp only [Bool.and_eq_true, decide_eq_true_eq] at hf
      dsimp only
      rw [List.length_take, List.length_drop]
      omega
    · exact Nat.zero_le _
  · exact Nat.zero_le _
theorem opened_err {l : List UInt8} : (openedOf l).1 = 0 ∨ (openedOf l).1 = 30 ∨ (openedOf l).1 = 4 := by
  unfold openedOf
  split
  · split
    · exact .inl rfl
    · exact .inr (.inl rfl)
  · exact .inr (.inr rfl)
set_option maxHeartbeats 8000000 in
set_option maxRecDepth 100000 in
theorem read_any (l : List UInt8) (v : Value) (w : World) (ht : Tab w) (hv : Rd w w.heap.size v l) (hl : l.length ≤ 140737488355328) :
    Calls Tryd.prog 21 #[v] w fun e w' => e = .returned (.tuple #[partO (readP l).2, .int .i64 (readP l).1]) ∧ Below w.heap.size w w' := by
  obtain ⟨er, kd, body, hO⟩ : ∃ er kd body, openedOf l = (er, kd, body) := ⟨_, _, _, rfl⟩
  have hblen : body.length ≤ 8192 := by have := @opened_len l; rw [hO] at this; exact this
  obtain ⟨z, hz⟩ : ∃ z : Int, z = (kd.toNat : Int) := ⟨_, rfl⟩
  have hzp : ∀ W, (zeroValue 58).run Tryd.prog W = .ok (.agg #[.int .i64 0, .int .i64 0, .int .i64 0, .string ⟨#[]⟩]) W := fun W => by kernel_rfl
  obtain ⟨w1, hw1⟩ : ∃ w1, w1 = w.alloc (.cells #[.int .i64 0, .int .i64 0, .int .i64 0, .string ⟨#[]⟩] 58) := ⟨_, rfl⟩
  have hb1 : Below w.heap.size w w1 := by rw [hw1]; exact (Below.refl _ _).alloc (Nat.le_refl _) _
  obtain ⟨A, hA⟩ : ∃ A, A = w.heap.size := ⟨_, rfl⟩
  have hx1 : w1.heap[A]? = some (.cells #[.int .i64 0, .int .i64 0, .int .i64 0, .string ⟨#[]⟩] 58 (0, 0)) := by rw [hw1, hA]; exact heap_alloc_new w _
  have hs1 : w1.heap.size = A + 1 := by rw [hw1, hA]; simp
  have cO := open_any l v w1 (ht.below hb1 ht.1) (hv.below hb1 hb1.size) hl
  unfold OpenedPost at cO
  rw [hO] at cO
  dsimp only at cO
  rw [← hz] at cO
  obtain ⟨RP, hRP⟩ : ∃ RP, RP = readP l := ⟨_, rfl⟩
  rw [← hRP]
  unfold readP at hRP
  rw [hO] at hRP
  dsimp only at hRP
  have HRP := Lib.hid hRP
  have HW1 := Lib.hid hw1
  have HB1 := Lib.hid hb1
  have HX1 := Lib.hid hx1
  have HS1 := Lib.hid hs1
  have HA := Lib.hid hA
  have HZ := Lib.hid hz
  have HT := Lib.hid ht
  have HV := Lib.hid hv
  clear hRP hw1 hb1 hx1 hs1 hA hz ht hv hO
  go_enter Tryd.func21, Tryd.ntmps21
  go_upto_region 1 with fail
  rw [← HW1.out, ← HA.out]
  go_wp2_with fail
  refine cO.mono ?_
  rintro e w2 ⟨v2, k2, rfl, ho2, hb2⟩
  clear cO
  have hx2 := (hb2.block A (by rw [HS1.out]; omega)).trans HX1.out
  have hB2 := HB1.out.trans (Joins.below_le hb2 HB1.out.size)
  by_cases he : er = 0
  · subst he
    have hro := Rd.own ho2
    have cN := New_any body v2 w2 hro (by omega)
    obtain ⟨A2, c2, rfl, -⟩ := hro
    have HB2 := Lib.hid hB2
    have HX2 := Lib.hid hx2
    have HSZ := Lib.hid hb2.size
    clear hx2 hB2 hb2 ho2
    go_wp2_with fail
    refine cN.mono ?_
    rintro e w3 ⟨R, rfl, hRs, hr3, hb3⟩
    clear cN
    obtain ⟨P, hP⟩ : ∃ P, P = w3.heap.size := ⟨_, rfl⟩
    obtain ⟨w4, hw4⟩ : ∃ w4, w4 = w3.alloc (.cells #[.int .i64 0, .int .i64 0, .int .i64 0, .string ⟨#[]⟩] 58) := ⟨_, rfl⟩
    have hx4 : w4.heap[P]? = some (.cells #[.int .i64 0, .int .i64 0, .int .i64 0, .string ⟨#[]⟩] 58 (0, 0)) := by rw [hw4, hP]; exact heap_alloc_new w3 _
    have hb4 : Below w3.heap.size w3 w4 := by rw [hw4]; exact (Below.refl _ _).alloc (Nat.le_refl _) _
    have h4 : RSt 58 106 w w4 A P R (.int .i64 0) (.int .i64 0) (.int .i64 0) (.string ⟨#[]⟩) (some body) :=
      ⟨HB2.out.trans (Joins.below_le (hb3.trans (Joins.below_le hb4 hb3.size)) HB2.out.size), Nat.le_trans HB2.out.size hRs, by have := HS1.out; have := HSZ.out; omega, by rw [hP]; exact hr3.lt,
        (hb4.block A (by have := hb3.size; have := HS1.out; have := HSZ.out; omega)).trans ((hb3.block A (by have := HS1.out; have := HSZ.out; omega)).trans HX2.out), hx4, by rw [hw4]; exact hr3.alloc _⟩
    have H4 := Lib.hid h4
    have HW4 := Lib.hid hw4
    have HP := Lib.hid hP
    obtain ⟨N1, S1, t1⟩ : ∃ N S, told 0 (gCount 2147483647) (some body) = (N, S) := ⟨_, _, rfl⟩
    obtain ⟨N2, S2, t2⟩ : ∃ N S, told 0 (gCount 22) S1 = (N, S) := ⟨_, _, rfl⟩
    obtain ⟨N3, S3, t3⟩ : ∃ N S, told 0 (gCount 22) S2 = (N, S) := ⟨_, _, rfl⟩
    obtain ⟨D, S4, t4⟩ : ∃ N S, told [] (gStr 380) S3 = (N, S) := ⟨_, _, rfl⟩
    obtain ⟨n, p, m, rfl, rfl, rfl, l1, l2, l3, l4, hpi⟩ := part_told t1 t2 t3 t4
    have HPI := Lib.hid hpi
    have T1 := Lib.hid t1
    have T2 := Lib.hid t2
    have T3 := Lib.hid t3
    have T4 := Lib.hid t4
    clear hx4 hb4 h4 hw4 hP hr3 hb3 hRs t1 t2 t3 t4 hpi hblen hl
    go_upto_region 6 with fail
    rw [← HW4.out, ← HP.out]
    have f0 : w4.frozen? ⟨P, 0, none⟩ = false := (blk_cells H4.out.part).2 0
    have e0 : w4.cell? ⟨P, 0, none⟩ = some (.int .i64 0) := (blk_cells H4.out.part).1 0
    go_wp2_with fail
    refine (Count_any R 2147483647 (some body) w4 H4.out.rdr).mono ?_
    rintro e w5 ⟨he5, hg5, hr5⟩
    rw [T1.out] at he5 hr5
    subst he5
    have h5 := H4.out.tell hg5 hr5
    have f1 : w5.frozen? ⟨P, 0, none⟩ = false := (blk_cells h5.part).2 0
    have e1 : w5.cell? ⟨P, 0, none⟩ = some (.int .i64 0) := (blk_cells h5.part).1 0
    obtain ⟨w6, hw6⟩ : ∃ w6, w6 = w5.setCell ⟨P, 0, none⟩ (.int .i64 (n : Int)) := ⟨_, rfl⟩
    have h6 := h5.put0 (.int .i64 (n : Int))
    rw [← hw6] at h6
    have H6 := Lib.hid h6
    have HW6 := Lib.hid hw6
    clear hg5 hr5 h5 h6 hw6 f0 e0
    dsimp only
    go_upto_region 7 with fail
    rw [← HW6.out]
    clear f1 e1
    go_wp2_with fail
    refine (Count_any R 22 S1 w6 H6.out.rdr).mono ?_
    rintro e w7 ⟨he7, hg7, hr7⟩
    rw [T2.out] at he7 hr7
    subst he7
    have h7 := H6.out.tell hg7 hr7
    have f2 : w7.frozen? ⟨P, 1, none⟩ = false := (blk_cells h7.part).2 1
    have e2 : w7.cell? ⟨P, 1, none⟩ = some (.int .i64 0) := (blk_cells h7.part).1 1
    obtain ⟨w8, hw8⟩ : ∃ w8, w8 = w7.setCell ⟨P, 1, none⟩ (.int .i64 (p : Int)) := ⟨_, rfl⟩
    have h8 := h7.put1 (.int .i64 (p : Int))
    rw [← hw8] at h8
    have H8 := Lib.hid h8
    have HW8 := Lib.hid hw8
    clear hg7 hr7 h7 h8 hw8
    dsimp only
    go_upto_region 8 with fail
    rw [← HW8.out]
    clear f2 e2
    go_wp2_with fail
    refine (Count_any R 22 S2 w8 H8.out.rdr).mono ?_
    rintro e w9 ⟨he9, hg9, hr9⟩
    rw [T3.out] at he9 hr9
    subst he9
    have h9 := H8.out.tell hg9 hr9
    have f3 : w9.frozen? ⟨P, 2, none⟩ = false := (blk_cells h9.part).2 2
    have e3 : w9.cell? ⟨P, 2, none⟩ = some (.int .i64 0) := (blk_cells h9.part).1 2
    obtain ⟨w10, hw10⟩ : ∃ w10, w10 = w9.setCell ⟨P, 2, none⟩ (.int .i64 (m : Int)) := ⟨_, rfl⟩
    have h10 := h9.put2 (.int .i64 (m : Int))
    rw [← hw10] at h10
    have H10 := Lib.hid h10
    have HW10 := Lib.hid hw10
    clear hg9 hr9 h9 h10 hw10
    dsimp only
    go_upto_region 9 with fail
    rw [← HW10.out]
    clear f3 e3
    go_wp2_with fail
    refine (Str_any R 380 S3 w10 H10.out.rdr).mono ?_
    rintro e w11 ⟨he11, hg11, hr11⟩
    rw [T4.out] at he11 hr11
    subst he11
    have h11 := H10.out.tell hg11 hr11
    have f4 : w11.frozen? ⟨P, 3, none⟩ = false := (blk_cells h11.part).2 3
    have e4 : w11.cell? ⟨P, 3, none⟩ = some (.string ⟨#[]⟩) := (blk_cells h11.part).1 3
    obtain ⟨w12, hw12⟩ : ∃ w12, w12 = w11.setCell ⟨P, 3, none⟩ (.string (tx D)) := ⟨_, rfl⟩
    have h12 := h11.put3 (.string (tx D))
    rw [← hw12] at h12
    have H12 := Lib.hid h12
    have HW12 := Lib.hid hw12
    clear hg11 hr11 h11 h12 hw12
    have htx : (⟨D.toArray⟩ : ByteArray) = tx D := rfl
    dsimp only
    rw [htx]
    go_upto_region 10 with fail
    rw [← HW12.out]
    clear f4 e4 htx
    obtain ⟨p0, p1, p2, p3⟩ : w12.cell? ⟨P, 0, none⟩ = some (.int .i64 (n : Int)) ∧ w12.cell? ⟨P, 1, none⟩ = some (.int .i64 (p : Int)) ∧ w12.cell? ⟨P, 2, none⟩ = some (.int .i64 (m : Int)) ∧ w12.cell? ⟨P, 3, none⟩ = some (.string (tx D)) := ⟨(blk_cells H12.out.part).1 0, (blk_cells H12.out.part).1 1, (blk_cells H12.out.part).1 2, (blk_cells H12.out.part).1 3⟩
    have hz12 : w12.heap[A]? = some (.cells #[.int .i64 0, .int .i64 0, .int .i64 0, .string ⟨#[]⟩] 58 (0, 0)) := H12.out.zero
    by_cases hk : kd = 1
    · have hz1 : z = 1 := by rw [HZ.out, hk]; rfl
      have a1 : (z != 1) = false := by rw [hz1]; rfl
      have cD := done_any R S4 w12 H12.out.rdr
      by_cases hS : S4 = some []
      · have hSb : (S4 == some []) = true := by rw [hS]; rfl
        rw [hSb] at cD
        have cM := mayBe_walk n p m D w12 (by omega) (by omega) l4
        obtain ⟨mb, hmb⟩ : ∃ mb, mb = mayBe p m D.length := ⟨_, rfl⟩
        rw [← hmb] at cM
        unfold partV at cM
        cases mb with
        | true =>
          have hrp : RP = (0, some ⟨n, p, m, D⟩) := by rw [HRP.out, if_neg (by simp), if_neg (by simp [hk]), HPI.out, if_pos ⟨hS, hmb.symm⟩]
          have HR2 := Lib.hid hrp
          have HX12 := Lib.hid hz12
          have HB12 := Lib.hid H12.out.bel
          have HP12 := Lib.hid H12.out.part
          clear hrp hz12 hmb hS hSb hk
          go_wp2_with fail
          refine cD.mono ?_
          rintro e w13 ⟨rfl, rfl⟩
          clear cD
          go_wp2_with fail
          refine cM.mono ?_
          rintro e w14 ⟨rfl, hb14⟩
          clear cM
          have hx14 := (hb14.block A (Array.getElem?_eq_some_iff.1 HX12.out).1).trans HX12.out
          have hp14 := (hb14.block P (Array.getElem?_eq_some_iff.1 HP12.out).1).trans HP12.out
          have hB14 := HB12.out.trans (Joins.below_le hb14 HB12.out.size)
          obtain ⟨q0, q1, q2, q3⟩ : w14.cell? ⟨P, 0, none⟩ = some (.int .i64 (n : Int)) ∧ w14.cell? ⟨P, 1, none⟩ = some (.int .i64 (p : Int)) ∧ w14.cell? ⟨P, 2, none⟩ = some (.int .i64 (m : Int)) ∧ w14.cell? ⟨P, 3, none⟩ = some (.string (tx D)) := ⟨(blk_cells hp14).1 0, (blk_cells hp14).1 1, (blk_cells hp14).1 2, (blk_cells hp14).1 3⟩
          obtain ⟨r0, r1, r2, r3, r4, r5, r6, r7⟩ : w14.cell? ⟨A, 0, none⟩ = some (.int .i64 0) ∧ w14.cell? ⟨A, 1, none⟩ = some (.int .i64 0) ∧ w14.cell? ⟨A, 2, none⟩ = some (.int .i64 0) ∧ w14.cell? ⟨A, 3, none⟩ = some (.string ⟨#[]⟩) ∧ w14.frozen? ⟨A, 0, none⟩ = false ∧ w14.frozen? ⟨A, 1, none⟩ = false ∧ w14.frozen? ⟨A, 2, none⟩ = false ∧ w14.frozen? ⟨A, 3, none⟩ = false := ⟨(blk_cells hx14).1 0, (blk_cells hx14).1 1, (blk_cells hx14).1 2, (blk_cells hx14).1 3, (blk_cells hx14).2 0, (blk_cells hx14).2 1, (blk_cells hx14).2 2, (blk_cells hx14).2 3⟩
          obtain ⟨wf, hwf⟩ : ∃ wf, wf = World.set4 w14 A (.int .i64 (n : Int)) (.int .i64 (p : Int)) (.int .i64 (m : Int)) (.string (tx D)) := ⟨_, rfl⟩
          have hxf : wf.heap[A]? = some (.cells #[.int .i64 (n : Int), .int .i64 (p : Int), .int .i64 (m : Int), .string (tx D)] 58 (0, 0)) := by rw [hwf]; exact set4_at hx14
          obtain ⟨g0, g1, g2, g3⟩ : wf.cell? ⟨A, 0, none⟩ = some (.int .i64 (n : Int)) ∧ wf.cell? ⟨A, 1, none⟩ = some (.int .i64 (p : Int)) ∧ wf.cell? ⟨A, 2, none⟩ = some (.int .i64 (m : Int)) ∧ wf.cell? ⟨A, 3, none⟩ = some (.string (tx D)) := ⟨(blk_cells hxf).1 0, (blk_cells hxf).1 1, (blk_cells hxf).1 2, (blk_cells hxf).1 3⟩
          have hbf : Below w.heap.size w wf := by rw [hwf]; exact set4_below hB14 (Nat.le_of_eq HA.out.symm)
          have HWF : Hid (wf = ((((w14.setCell ⟨A, 0, none⟩ (.int .i64 (n : Int))).setCell ⟨A, 1, none⟩ (.int .i64 (p : Int))).setCell ⟨A, 2, none⟩ (.int .i64 (m : Int))).setCell ⟨A, 3, none⟩ (.string (tx D)))) := Lib.hid hwf
          have HBF := Lib.hid hbf
          clear hwf hxf hbf
          clear hx14 hp14 hB14 hb14 p0 p1 p2 p3
          go_wp2_with fail
          rw [← HWF.out]
          refine bodyPost_ret (v := .tuple #[partV n p m D, .int .i64 0]) (by clear r0 r1 r2 r3 r4 r5 r6 r7 q0 q1 q2 q3; unfold partV; rw [results_ct rfl]; go_simp; try rfl) rfl ?_
          rw [HR2.out]
          exact ⟨rfl, HBF.out⟩
        | false =>
          have hrp : RP = (4, none) := by rw [HRP.out, if_neg (by simp), if_neg (by simp [hk]), HPI.out, if_neg (fun h => by rw [← hmb] at h; cases h.2)]
          have HR2 := Lib.hid hrp
          have HX12 := Lib.hid hz12
          have HB12 := Lib.hid H12.out.bel
          have HP12 := Lib.hid H12.out.part
          clear hrp hz12 hmb hS hSb hk
          go_wp2_with fail
          refine cD.mono ?_
          rintro e w13 ⟨rfl, rfl⟩
          clear cD
          go_wp2_with fail
          refine cM.mono ?_
          rintro e w14 ⟨rfl, hb14⟩
          clear cM
          have hx14 := (hb14.block A (Array.getElem?_eq_some_iff.1 HX12.out).1).trans HX12.out
          have hp14 := (hb14.block P (Array.getElem?_eq_some_iff.1 HP12.out).1).trans HP12.out
          have hB14 := HB12.out.trans (Joins.below_le hb14 HB12.out.size)
          obtain ⟨q0, q1, q2, q3⟩ : w14.cell? ⟨P, 0, none⟩ = some (.int .i64 (n : Int)) ∧ w14.cell? ⟨P, 1, none⟩ = some (.int .i64 (p : Int)) ∧ w14.cell? ⟨P, 2, none⟩ = some (.int .i64 (m : Int)) ∧ w14.cell? ⟨P, 3, none⟩ = some (.string (tx D)) := ⟨(blk_cells hp14).1 0, (blk_cells hp14).1 1, (blk_cells hp14).1 2, (blk_cells hp14).1 3⟩
          obtain ⟨r0, r1, r2, r3, r4, r5, r6, r7⟩ : w14.cell? ⟨A, 0, none⟩ = some (.int .i64 0) ∧ w14.cell? ⟨A, 1, none⟩ = some (.int .i64 0) ∧ w14.cell? ⟨A, 2, none⟩ = some (.int .i64 0) ∧ w14.cell? ⟨A, 3, none⟩ = some (.string ⟨#[]⟩) ∧ w14.frozen? ⟨A, 0, none⟩ = false ∧ w14.frozen? ⟨A, 1, none⟩ = false ∧ w14.frozen? ⟨A, 2, none⟩ = false ∧ w14.frozen? ⟨A, 3, none⟩ = false := ⟨(blk_cells hx14).1 0, (blk_cells hx14).1 1, (blk_cells hx14).1 2, (blk_cells hx14).1 3, (blk_cells hx14).2 0, (blk_cells hx14).2 1, (blk_cells hx14).2 2, (blk_cells hx14).2 3⟩
          obtain ⟨wf, hwf⟩ : ∃ wf, wf = World.set4 w14 A (.int .i64 0) (.int .i64 0) (.int .i64 0) (.string ⟨#[]⟩) := ⟨_, rfl⟩
          have hxf : wf.heap[A]? = some (.cells #[.int .i64 0, .int .i64 0, .int .i64 0, .string ⟨#[]⟩] 58 (0, 0)) := by rw [hwf]; exact set4_at hx14
          obtain ⟨g0, g1, g2, g3⟩ : wf.cell? ⟨A, 0, none⟩ = some (.int .i64 0) ∧ wf.cell? ⟨A, 1, none⟩ = some (.int .i64 0) ∧ wf.cell? ⟨A, 2, none⟩ = some (.int .i64 0) ∧ wf.cell? ⟨A, 3, none⟩ = some (.string ⟨#[]⟩) := ⟨(blk_cells hxf).1 0, (blk_cells hxf).1 1, (blk_cells hxf).1 2, (blk_cells hxf).1 3⟩
          have hbf : Below w.heap.size w wf := by rw [hwf]; exact set4_below hB14 (Nat.le_of_eq HA.out.symm)
          have HWF : Hid (wf = ((((w14.setCell ⟨A, 0, none⟩ (.int .i64 0)).setCell ⟨A, 1, none⟩ (.int .i64 0)).setCell ⟨A, 2, none⟩ (.int .i64 0)).setCell ⟨A, 3, none⟩ (.string ⟨#[]⟩))) := Lib.hid hwf
          have HBF := Lib.hid hbf
          clear hwf hxf hbf
          clear hx14 hp14 hB14 hb14 p0 p1 p2 p3
          go_wp2_with fail
          rw [← HWF.out]
          refine bodyPost_ret (v := .tuple #[partV 0 0 0 [], .int .i64 4]) (by clear r0 r1 r2 r3 r4 r5 r6 r7 q0 q1 q2 q3; unfold partV; rw [results_ct rfl]; go_simp; try rfl) rfl ?_
          rw [HR2.out]
          exact ⟨rfl, HBF.out⟩
      · have hSb : (S4 == some []) = false := by simpa using hS
        rw [hSb] at cD
        have hrp : RP = (4, none) := by rw [HRP.out, if_neg (by simp), if_neg (by simp [hk]), HPI.out, if_neg (fun h => hS h.1)]
        have HR2 := Lib.hid hrp
        have HB12 := Lib.hid H12.out.bel
        obtain ⟨r0, r1, r2, r3, r4, r5, r6, r7⟩ : w12.cell? ⟨A, 0, none⟩ = some (.int .i64 0) ∧ w12.cell? ⟨A, 1, none⟩ = some (.int .i64 0) ∧ w12.cell? ⟨A, 2, none⟩ = some (.int .i64 0) ∧ w12.cell? ⟨A, 3, none⟩ = some (.string ⟨#[]⟩) ∧ w12.frozen? ⟨A, 0, none⟩ = false ∧ w12.frozen? ⟨A, 1, none⟩ = false ∧ w12.frozen? ⟨A, 2, none⟩ = false ∧ w12.frozen? ⟨A, 3, none⟩ = false := ⟨(blk_cells hz12).1 0, (blk_cells hz12).1 1, (blk_cells hz12).1 2, (blk_cells hz12).1 3, (blk_cells hz12).2 0, (blk_cells hz12).2 1, (blk_cells hz12).2 2, (blk_cells hz12).2 3⟩
        obtain ⟨wf, hwf⟩ : ∃ wf, wf = World.set4 w12 A (.int .i64 0) (.int .i64 0) (.int .i64 0) (.string ⟨#[]⟩) := ⟨_, rfl⟩
        have hxf : wf.heap[A]? = some (.cells #[.int .i64 0, .int .i64 0, .int .i64 0, .string ⟨#[]⟩] 58 (0, 0)) := by rw [hwf]; exact set4_at hz12
        obtain ⟨g0, g1, g2, g3⟩ : wf.cell? ⟨A, 0, none⟩ = some (.int .i64 0) ∧ wf.cell? ⟨A, 1, none⟩ = some (.int .i64 0) ∧ wf.cell? ⟨A, 2, none⟩ = some (.int .i64 0) ∧ wf.cell? ⟨A, 3, none⟩ = some (.string ⟨#[]⟩) := ⟨(blk_cells hxf).1 0, (blk_cells hxf).1 1, (blk_cells hxf).1 2, (blk_cells hxf).1 3⟩
        have hbf : Below w.heap.size w wf := by rw [hwf]; exact set4_below HB12.out (Nat.le_of_eq HA.out.symm)
        have HWF : Hid (wf = ((((w12.setCell ⟨A, 0, none⟩ (.int .i64 0)).setCell ⟨A, 1, none⟩ (.int .i64 0)).setCell ⟨A, 2, none⟩ (.int .i64 0)).setCell ⟨A, 3, none⟩ (.string ⟨#[]⟩))) := Lib.hid hwf
        have HBF := Lib.hid hbf
        clear hwf hxf hbf
        clear hrp hz12 hS hSb hk p0 p1 p2 p3
        go_wp2_with fail
        refine cD.mono ?_
        rintro e w13 ⟨rfl, rfl⟩
        clear cD
        go_wp2_with fail
        rw [← HWF.out]
        refine bodyPost_ret (v := .tuple #[partV 0 0 0 [], .int .i64 4]) (by clear r0 r1 r2 r3 r4 r5 r6 r7; unfold partV; rw [results_ct rfl]; go_simp; try rfl) rfl ?_
        rw [HR2.out]
        exact ⟨rfl, HBF.out⟩
    · have hz1 : ¬ z = 1 := by rw [HZ.out]; intro h; exact hk (UInt8.toNat_inj.1 (by have : (1 : UInt8).toNat = 1 := rfl; omega))
      have a1 : (z != 1) = true := by simpa using hz1
      have hrp : RP = (4, none) := by rw [HRP.out, if_neg (by simp), if_pos (by simpa using hk)]
      have HR2 := Lib.hid hrp
      have HB12 := Lib.hid H12.out.bel
      obtain ⟨r0, r1, r2, r3, r4, r5, r6, r7⟩ : w12.cell? ⟨A, 0, none⟩ = some (.int .i64 0) ∧ w12.cell? ⟨A, 1, none⟩ = some (.int .i64 0) ∧ w12.cell? ⟨A, 2, none⟩ = some (.int .i64 0) ∧ w12.cell? ⟨A, 3, none⟩ = some (.string ⟨#[]⟩) ∧ w12.frozen? ⟨A, 0, none⟩ = false ∧ w12.frozen? ⟨A, 1, none⟩ = false ∧ w12.frozen? ⟨A, 2, none⟩ = false ∧ w12.frozen? ⟨A, 3, none⟩ = false := ⟨(blk_cells hz12).1 0, (blk_cells hz12).1 1, (blk_cells hz12).1 2, (blk_cells hz12).1 3, (blk_cells hz12).2 0, (blk_cells hz12).2 1, (blk_cells hz12).2 2, (blk_cells hz12).2 3⟩
      obtain ⟨wf, hwf⟩ : ∃ wf, wf = World.set4 w12 A (.int .i64 0) (.int .i64 0) (.int .i64 0) (.string ⟨#[]⟩) := ⟨_, rfl⟩
      have hxf : wf.heap[A]? = some (.cells #[.int .i64 0, .int .i64 0, .int .i64 0, .string ⟨#[]⟩] 58 (0, 0)) := by rw [hwf]; exact set4_at hz12
      obtain ⟨g0, g1, g2, g3⟩ : wf.cell? ⟨A, 0, none⟩ = some (.int .i64 0) ∧ wf.cell? ⟨A, 1, none⟩ = some (.int .i64 0) ∧ wf.cell? ⟨A, 2, none⟩ = some (.int .i64 0) ∧ wf.cell? ⟨A, 3, none⟩ = some (.string ⟨#[]⟩) := ⟨(blk_cells hxf).1 0, (blk_cells hxf).1 1, (blk_cells hxf).1 2, (blk_cells hxf).1 3⟩
      have hbf : Below w.heap.size w wf := by rw [hwf]; exact set4_below HB12.out (Nat.le_of_eq HA.out.symm)
      have HWF : Hid (wf = ((((w12.setCell ⟨A, 0, none⟩ (.int .i64 0)).setCell ⟨A, 1, none⟩ (.int .i64 0)).setCell ⟨A, 2, none⟩ (.int .i64 0)).setCell ⟨A, 3, none⟩ (.string ⟨#[]⟩))) := Lib.hid hwf
      have HBF := Lib.hid hbf
      clear hwf hxf hbf
      clear hrp hz12 hk p0 p1 p2 p3
      go_wp2_with fail
      rw [← HWF.out]
      refine bodyPost_ret (v := .tuple #[partV 0 0 0 [], .int .i64 4]) (by clear r0 r1 r2 r3 r4 r5 r6 r7; unfold partV; rw [results_ct rfl]; go_simp; try rfl) rfl ?_
      rw [HR2.out]
      exact ⟨rfl, HBF.out⟩
  · have a1 : (er != 0) = true := by simpa using he
    have hrp : RP = (er, none) := by rw [HRP.out, if_pos he]
    have HR2 := Lib.hid hrp
    have HB2 := Lib.hid hB2
    obtain ⟨r0, r1, r2, r3, r4, r5, r6, r7⟩ : w2.cell? ⟨A, 0, none⟩ = some (.int .i64 0) ∧ w2.cell? ⟨A, 1, none⟩ = some (.int .i64 0) ∧ w2.cell? ⟨A, 2, none⟩ = some (.int .i64 0) ∧ w2.cell? ⟨A, 3, none⟩ = some (.string ⟨#[]⟩) ∧ w2.frozen? ⟨A, 0, none⟩ = false ∧ w2.frozen? ⟨A, 1, none⟩ = false ∧ w2.frozen? ⟨A, 2, none⟩ = false ∧ w2.frozen? ⟨A, 3, none⟩ = false := ⟨(blk_cells hx2).1 0, (blk_cells hx2).1 1, (blk_cells hx2).1 2, (blk_cells hx2).1 3, (blk_cells hx2).2 0, (blk_cells hx2).2 1, (blk_cells hx2).2 2, (blk_cells hx2).2 3⟩
    obtain ⟨wf, hwf⟩ : ∃ wf, wf = World.set4 w2 A (.int .i64 0) (.int .i64 0) (.int .i64 0) (.string ⟨#[]⟩) := ⟨_, rfl⟩
    have hxf : wf.heap[A]? = some (.cells #[.int .i64 0, .int .i64 0, .int .i64 0, .string ⟨#[]⟩] 58 (0, 0)) := by rw [hwf]; exact set4_at hx2
    obtain ⟨g0, g1, g2, g3⟩ : wf.cell? ⟨A, 0, none⟩ = some (.int .i64 0) ∧ wf.cell? ⟨A, 1, none⟩ = some (.int .i64 0) ∧ wf.cell? ⟨A, 2, none⟩ = some (.int .i64 0) ∧ wf.cell? ⟨A, 3, none⟩ = some (.string ⟨#[]⟩) := ⟨(blk_cells hxf).1 0, (blk_cells hxf).1 1, (blk_cells hxf).1 2, (blk_cells hxf).1 3⟩
    have hbf : Below w.heap.size w wf := by rw [hwf]; exact set4_below HB2.out (Nat.le_of_eq HA.out.symm)
    have HWF : Hid (wf = ((((w2.setCell ⟨A, 0, none⟩ (.int .i64 0)).setCell ⟨A, 1, none⟩ (.int .i64 0)).setCell ⟨A, 2, none⟩ (.int .i64 0)).setCell ⟨A, 3, none⟩ (.string ⟨#[]⟩))) := Lib.hid hwf
    have HBF := Lib.hid hbf
    clear hwf hxf hbf
    clear hrp hx2 hB2 hb2 ho2
    go_wp2_with fail
    rw [← HWF.out]
    refine bodyPost_ret (v := .tuple #[partV 0 0 0 [], .int .i64 er]) (by clear r0 r1 r2 r3 r4 r5 r6 r7; unfold partV; rw [results_ct rfl]; go_simp; try rfl) rfl ?_
    rw [HR2.out]
    exact ⟨rfl, HBF.out⟩
end Go.Proofs.YtfmaocinckeagaaDoor
