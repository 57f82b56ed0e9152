/-
  DedupSteps, walked. No statement is proved here. No condition.
-/
import Derived.Test.YtlgjidoehnhnoaaEOwnX
namespace Go.Proofs.Ytlgjidoehnhnoaa
open Go.RowKit

theorem OwnX.other {w : World} {B : Nat} {T U : TypeId} {size : Nat} {v : Value} {n g j : Nat} {C : Array Value} {x : Value} (h : OwnX w B T size v n) (hg : w.heap[g]? = some (.cells C U (0, 0))) (hT : T ≠ U) : OwnX (w.setCell ⟨g, j, none⟩ x) B T size v n :=
  h.same fun p hp => set_far fun e => by
    obtain ⟨C', hC⟩ := h.type hp
    rw [e, hg] at hC
    injection hC with hC
    injection hC with _ h1
    exact hT h1.symm

set_option maxHeartbeats 16000000 in
set_option maxRecDepth 1000000 in
theorem steps_walk (m : List PP) (l : List PL) (c i : Int) (o : PO) (v u : Value) (w : World) (h : pairR.N w Any v m) (h' : lastR.N w Any u l) (hm : m.length ≤ 4398046510976) (hl : l.length ≤ 3518437208780) (hk : 0 ≤ o.kind ∧ o.kind ≤ 255) :
    Calls Try.prog 5 #[v, u, .int .i64 c, .int .i64 i, o.agg] w fun e w' => e = .returned (.bool true) ∧ Below w.heap.size w w' := by
  obtain ⟨A, cp, rfl, hlc, hcm⟩ := h.slice
  obtain ⟨A', cp', rfl, hlc', hcm'⟩ := h'.slice
  obtain ⟨w1, hw1⟩ : ∃ w1, w1 = w.alloc (.cells #[.int .u8 o.kind, .string o.key, .string o.val, .string o.old, .bool o.had] 32) := ⟨_, rfl⟩
  have hb1 : Below w.heap.size w w1 := by rw [hw1]; exact (Below.refl _ _).alloc (Nat.le_refl _) _
  have hx1 : w1.heap[w.heap.size]? = some (.cells #[.int .u8 o.kind, .string o.key, .string o.val, .string o.old, .bool o.had] 32 (0, 0)) := by rw [hw1]; exact heap_alloc_new w _
  have hlt1 : w.heap.size < w1.heap.size := (Array.getElem?_eq_some_iff.1 hx1).1
  -- the copies
  have o0 := Own.lit pairR w1 24 (Nat.le_refl w1.heap.size)
  have hba : Below w1.heap.size w1 (w1.alloc (.cells #[] 24)) := (Below.refl _ _).alloc (Nat.le_refl _) _
  obtain ⟨vin, w2, hr2, ho2, hg2, -⟩ := app_pairs o0 ((h.grow hb1).grow hba) (by simp; omega) hba.size
  rw [List.nil_append] at ho2
  have hb12 : Below w1.heap.size w1 w2 := hba.trans (Own.grow_below o0 hg2 hba.size)
  obtain ⟨A2, c2, rfl⟩ := ho2.slice
  have hbw2 := hb1.trans (Joins.below_le hb12 hb1.size)
  have o1 := Own.lit lastR w2 46 (Nat.le_refl w2.heap.size)
  have hbb : Below w2.heap.size w2 (w2.alloc (.cells #[] 46)) := (Below.refl _ _).alloc (Nat.le_refl _) _
  obtain ⟨vse, w3, hr3, ho3, hg3, -⟩ := app_lasts o1 ((h'.grow hbw2).grow hbb) (by simp; omega) hbb.size
  rw [List.nil_append] at ho3
  have hb23 : Below w2.heap.size w2 w3 := hbb.trans (Own.grow_below o1 hg3 hbb.size)
  obtain ⟨A3, c3, rfl⟩ := ho3.slice
  have hbw3 := hbw2.trans (Joins.below_le hb23 hbw2.size)
  have s12 := hb12.size
  have s23 := hb23.size
  have hx2 := (hb12.block _ hlt1).trans hx1
  have hx3 := (hb23.block _ (by omega)).trans hx2
  have hat : ∀ W, Below w3.heap.size w3 W → (W.cell? ⟨w.heap.size, 0, none⟩ = some (.int .u8 o.kind) ∧ W.cell? ⟨w.heap.size, 1, none⟩ = some (.string o.key) ∧ W.cell? ⟨w.heap.size, 2, none⟩ = some (.string o.val) ∧ W.cell? ⟨w.heap.size, 3, none⟩ = some (.string o.old) ∧ W.cell? ⟨w.heap.size, 4, none⟩ = some (.bool o.had)) ∧ pairR.N W Any (.slice A m.length cp) m ∧ lastR.N W Any (.slice A' l.length cp') l ∧ pairR.N W Any (.slice A2 m.length c2) m ∧ lastR.N W Any (.slice A3 l.length c3) l ∧ Below w.heap.size w W := fun W hW => by
    have e := (hW.block _ (by omega)).trans hx3
    have hbw := hbw3.trans (Joins.below_le hW hbw3.size)
    exact ⟨⟨(blk_cells e).1 0, (blk_cells e).1 1, (blk_cells e).1 2, (blk_cells e).1 3, (blk_cells e).1 4⟩, h.grow hbw, h'.grow hbw, ((ho2.n.any).grow hb23).grow hW, (ho3.n.any).grow hW, hbw⟩
  have HAT := Lib.hid hat
  have HR2 := Lib.hid hr2
  have HR3 := Lib.hid hr3
  have HW1 := Lib.hid hw1
  have hz := zero_res
  have hzl : ∀ W, (zeroValue 46).run Try.prog W = .ok (.agg #[.int .i64 0, .int .i64 0, .int .u8 0, .bool false, .string ⟨#[]⟩]) W := fun W => by kernel_rfl
  unfold maxLen at hcm hcm'
  obtain ⟨sr, se, hsn⟩ : ∃ sr se, seenP l c i = (sr, se) := ⟨_, _, rfl⟩
  obtain ⟨dm, dq, dr, hD⟩ : ∃ dm dq dr, stepP m l c i o = (dm, dq, dr) := ⟨_, _, _, rfl⟩
  obtain ⟨E, hE⟩ : ∃ E, E = stepErr l c i o := ⟨_, rfl⟩
  obtain ⟨nl, hnl⟩ : ∃ nl, nl = noteP l ⟨c, i, ⟨1, false, o.val⟩⟩ := ⟨_, rfl⟩
  have hnll : nl.length ≤ l.length + 1 := by rw [hnl]; exact noteP_length _ _
  have hdml : dm.length ≤ m.length + 1 ∧ dq.length ≤ l.length + 1 := by
    have h1 : (stepP m l c i o).1.length ≤ m.length + 1 ∧ (stepP m l c i o).2.1.length ≤ l.length + 1 := by
      unfold stepP
      split
      · exact ⟨Nat.zero_le _, Nat.zero_le _⟩
      · split
        · exact ⟨Nat.le_succ _, Nat.le_succ _⟩
        · exact ⟨doP_length _ _, noteP_length _ _⟩
    rw [hD] at h1
    exact h1
  have c1 : ∀ W, Below w3.heap.size w3 W → Calls Try.prog 21 #[(.slice A3 l.length c3), .int .i64 c, .int .i64 i] W fun e w' => e = .returned (.tuple #[.agg #[.int .u8 sr.kind, .bool sr.found, .string sr.val], .int .i64 se]) ∧ Below W.heap.size W w' := fun W hW => by
    have := pseen_any l c i _ W (hat W hW).2.2.2.2.1
    rw [hsn] at this
    exact this
  have c2' : ∀ W, Below w3.heap.size w3 W → Calls Try.prog 22 #[(.slice A' l.length cp'), .int .i64 c, .int .i64 i] W fun e w' => e = .returned (.tuple #[.agg #[.int .u8 sr.kind, .bool sr.found, .string sr.val], .int .i64 se]) ∧ Below W.heap.size W w' := fun W hW => by
    have := rseen_any l c i _ W (hat W hW).2.2.1
    rw [hsn] at this
    exact this
  have c3' : ∀ W, Below w3.heap.size w3 W → Calls Try.prog 23 #[(.slice A3 l.length c3), .agg #[.int .i64 c, .int .i64 i, .int .u8 1, .bool false, .string o.val]] W fun e w' => ∃ v', e = .returned v' ∧ lastR.Own w' W.heap.size 46 v' nl ∧ Below W.heap.size W w' := fun W hW => by rw [hnl]; exact pnote_any l ⟨c, i, ⟨1, false, o.val⟩⟩ _ W (hat W hW).2.2.2.2.1 (by omega)
  have c4 : ∀ W, Below w3.heap.size w3 W → Calls Try.prog 25 #[(.slice A' l.length cp'), .agg #[.int .i64 c, .int .i64 i, .int .u8 1, .bool false, .string o.val]] W fun e w' => ∃ v', e = .returned v' ∧ lastR.Own w' W.heap.size 46 v' nl ∧ Below W.heap.size W w' := fun W hW => by rw [hnl]; exact rnote_any l ⟨c, i, ⟨1, false, o.val⟩⟩ _ W (hat W hW).2.2.1 (by omega)
  have c5 : ∀ W, Below w3.heap.size w3 W → Calls Try.prog 12 #[(.slice A2 m.length c2), (.slice A3 l.length c3), .int .i64 c, .int .i64 i, o.agg] W fun e w' => ∃ va vb, e = .returned (.tuple #[va, vb, .agg #[.int .u8 dr.kind, .bool dr.found, .string dr.val], .int .i64 E]) ∧ pairR.Own w' W.heap.size 24 va dm ∧ lastR.Own w' W.heap.size 46 vb dq ∧ Below W.heap.size W w' := fun W hW => by
    have := pstep_any m l c i o _ _ W (hat W hW).2.2.2.1 (hat W hW).2.2.2.2.1 (by omega) (by omega) hk
    rw [hD, ← hE] at this
    exact this
  have c6 : ∀ W, Below w3.heap.size w3 W → Calls Try.prog 26 #[(.slice A m.length cp), (.slice A' l.length cp'), .int .i64 c, .int .i64 i, o.agg] W fun e w' => ∃ va vb, e = .returned (.tuple #[va, vb, .agg #[.int .u8 dr.kind, .bool dr.found, .string dr.val], .int .i64 E]) ∧ pairR.Own w' W.heap.size 24 va dm ∧ lastR.Own w' W.heap.size 46 vb dq ∧ Below W.heap.size W w' := fun W hW => by
    have := rstep_any m l c i o _ _ W (hat W hW).2.1 (hat W hW).2.2.1 (by omega) (by omega) hk
    rw [hD, ← hE] at this
    exact this
  unfold PO.agg at c5 c6 ⊢
  have C1 := Lib.hid c1
  have C2 := Lib.hid c2'
  have C3 := Lib.hid c3'
  have C4 := Lib.hid c4
  have C5 := Lib.hid c5
  have C6 := Lib.hid c6
  have hse := eqS_yes (rfl : sr.val = sr.val)
  have hve := eqS_yes (rfl : dr.val = dr.val)
  obtain ⟨hdm, hdq⟩ := hdml
  clear c1 c2' c3' c4 c5 c6 hat hr2 hr3 hw1 h h' hb1 hx1 o0 o1 hba hbb ho2 ho3 hg2 hg3 hb12 hb23 hbw2 hbw3 hx2 hx3 hlt1 s12 s23 hsn hD hE hnl
  go_enter Try.func5, Try.ntmps5
  go_upto_region 1 with fail
  rw [← HW1.out]
  go_upto_region 2 with (at_builtin; go_must (refine Lib.wpList_append_run _ rfl (.tmp 31) (.tmp 32) 25 25 rfl _ _ rfl rfl _ _ HR2.out ?_))
  go_upto_region 3 with (at_builtin; go_must (refine Lib.wpList_append_run _ rfl (.tmp 34) (.tmp 35) 33 33 rfl _ _ rfl rfl _ _ HR3.out ?_))
  have hbe : Below w3.heap.size w3 w3 := Below.refl _ _
  go_wp2_with fail
  refine (C1.out w3 hbe).mono ?_
  rintro e w4 ⟨rfl, hb4⟩
  obtain ⟨w5, hw5⟩ : ∃ w5, w5 = w4.alloc (.cells #[.int .u8 sr.kind, .bool sr.found, .string sr.val] 27) := ⟨_, rfl⟩
  have hb45 : Below w4.heap.size w4 w5 := by rw [hw5]; exact (Below.refl _ _).alloc (Nat.le_refl _) _
  have x5 : w5.heap[w4.heap.size]? = some (.cells #[.int .u8 sr.kind, .bool sr.found, .string sr.val] 27 (0, 0)) := by rw [hw5]; exact heap_alloc_new w4 _
  have hbe5 := hbe.trans (Joins.below_le (hb4.trans (Joins.below_le hb45 hb4.size)) hbe.size)
  have HW5 := Lib.hid hw5
  clear hw5 hb4 hb45
  go_upto_region 4 with fail
  rw [← HW5.out]
  go_wp2_with fail
  refine (C2.out w5 hbe5).mono ?_
  rintro e w6 ⟨rfl, hb6⟩
  obtain ⟨w7, hw7⟩ : ∃ w7, w7 = w6.alloc (.cells #[.int .u8 sr.kind, .bool sr.found, .string sr.val] 27) := ⟨_, rfl⟩
  have hb67 : Below w6.heap.size w6 w7 := by rw [hw7]; exact (Below.refl _ _).alloc (Nat.le_refl _) _
  have x7 : w7.heap[w6.heap.size]? = some (.cells #[.int .u8 sr.kind, .bool sr.found, .string sr.val] 27 (0, 0)) := by rw [hw7]; exact heap_alloc_new w6 _
  have hb57 := hb6.trans (Joins.below_le hb67 hb6.size)
  have x57 := (hb57.block _ (Array.getElem?_eq_some_iff.1 x5).1).trans x5
  have hbe7 := hbe5.trans (Joins.below_le hb57 hbe5.size)
  have HW7 := Lib.hid hw7
  clear hw7 hb6 hb67 hb57 x5
  go_upto_region 5 with fail
  rw [← HW7.out]
  obtain ⟨q0, q1, q2⟩ : (w7.cell? ⟨w4.heap.size, 0, none⟩ = some (.int .u8 sr.kind) ∧ w7.cell? ⟨w4.heap.size, 1, none⟩ = some (.bool sr.found) ∧ w7.cell? ⟨w4.heap.size, 2, none⟩ = some (.string sr.val)) := ⟨(blk_cells x57).1 0, (blk_cells x57).1 1, (blk_cells x57).1 2⟩
  obtain ⟨r0, r1, r2⟩ : (w7.cell? ⟨w6.heap.size, 0, none⟩ = some (.int .u8 sr.kind) ∧ w7.cell? ⟨w6.heap.size, 1, none⟩ = some (.bool sr.found) ∧ w7.cell? ⟨w6.heap.size, 2, none⟩ = some (.string sr.val)) := ⟨(blk_cells x7).1 0, (blk_cells x7).1 1, (blk_cells x7).1 2⟩
  obtain ⟨⟨p0, p1, p2, p3, p4⟩, -⟩ := HAT.out w7 hbe7
  obtain ⟨w8, hw8⟩ : ∃ w8, w8 = w7.alloc (.cells #[.int .i64 c, .int .i64 i, .int .u8 1, .bool false, .string o.val] 46) := ⟨_, rfl⟩
  have hb78 : Below w7.heap.size w7 w8 := by rw [hw8]; exact (Below.refl _ _).alloc (Nat.le_refl _) _
  have x8 : w8.heap[w7.heap.size]? = some (.cells #[.int .i64 c, .int .i64 i, .int .u8 1, .bool false, .string o.val] 46 (0, 0)) := by rw [hw8]; exact heap_alloc_new w7 _
  have hbe8 := hbe7.trans (Joins.below_le hb78 hbe7.size)
  have HW8 := Lib.hid hw8
  clear hw8 hb78 x57 x7
  go_upto_region 8 with fail
  rw [← HW8.out]
  clear q0 q1 q2 r0 r1 r2 p0 p1 p2 p3 p4
  obtain ⟨q0, q1, q2, q3, q4⟩ : (w8.cell? ⟨w7.heap.size, 0, none⟩ = some (.int .i64 c) ∧ w8.cell? ⟨w7.heap.size, 1, none⟩ = some (.int .i64 i) ∧ w8.cell? ⟨w7.heap.size, 2, none⟩ = some (.int .u8 1) ∧ w8.cell? ⟨w7.heap.size, 3, none⟩ = some (.bool false) ∧ w8.cell? ⟨w7.heap.size, 4, none⟩ = some (.string o.val)) := ⟨(blk_cells x8).1 0, (blk_cells x8).1 1, (blk_cells x8).1 2, (blk_cells x8).1 3, (blk_cells x8).1 4⟩
  go_wp2_with fail
  refine (C3.out w8 hbe8).mono ?_
  rintro e w9 ⟨vx, rfl, ox, hb9⟩
  obtain ⟨Ax, cx, rfl⟩ := ox.slice
  have x9 := (hb9.block _ (Array.getElem?_eq_some_iff.1 x8).1).trans x8
  have hbe9 := hbe8.trans (Joins.below_le hb9 hbe8.size)
  clear q0 q1 q2 q3 q4
  obtain ⟨q0, q1, q2, q3, q4⟩ : (w9.cell? ⟨w7.heap.size, 0, none⟩ = some (.int .i64 c) ∧ w9.cell? ⟨w7.heap.size, 1, none⟩ = some (.int .i64 i) ∧ w9.cell? ⟨w7.heap.size, 2, none⟩ = some (.int .u8 1) ∧ w9.cell? ⟨w7.heap.size, 3, none⟩ = some (.bool false) ∧ w9.cell? ⟨w7.heap.size, 4, none⟩ = some (.string o.val)) := ⟨(blk_cells x9).1 0, (blk_cells x9).1 1, (blk_cells x9).1 2, (blk_cells x9).1 3, (blk_cells x9).1 4⟩
  go_wp2_with fail
  refine (C4.out w9 hbe9).mono ?_
  rintro e w10 ⟨vy, rfl, oy, hb10⟩
  obtain ⟨Ay, cy, rfl⟩ := oy.slice
  have ox10 := ox.below hb10
  have cS := rsameL_yes nl _ _ w10 ox10.n.any oy.n.any
  go_wp2_with fail
  refine cS.mono ?_
  rintro e w11 ⟨rfl, hb11⟩
  have OX := Lib.hid (ox10.below hb11).x
  have hs8 := hbe8.size
  have HBE := Lib.hid (hbe9.trans (Joins.below_le (hb10.trans (Joins.below_le hb11 hb10.size)) hbe9.size))
  have HB8 : Hid (w3.heap.size ≤ w8.heap.size) := Lib.hid hs8
  clear cS q0 q1 q2 q3 q4 ox oy ox10 hb9 hb10 hb11 hbe9 hbe8 x8 x9 hbe7 hbe5 hbe hs8 C1 C2 C3 C4
  go_wp2_with fail
  go_loopw [19] (fun s19 wr => ∃ j : Nat, s19 = .int .i64 (j : Int) ∧ j ≤ nl.length ∧ Hid (OwnX wr w8.heap.size 46 5 (.slice Ax nl.length cx) nl.length) ∧ Hid (Below w3.heap.size w3 wr)) (fun s19 _ => nl.length - (intOf s19).toNat)
  case atStart => exact ⟨0, rfl, Nat.zero_le _, OX, HBE⟩
  case round =>
    clear OX HBE
    obtain ⟨j, rfl, hj, hO, hBz⟩ := hrel
    obtain ⟨wv, hwv⟩ : ∃ wv : World, wv = wr := ⟨_, rfl⟩
    subst hwv
    by_cases hjl : j < nl.length
    · have b1 : (j : Int) < (nl.length : Int) := by omega
      have b0 : (0 : Int) ≤ (j : Int) := by omega
      obtain ⟨g, y, hA, -, -, q0, q1, hnext⟩ := hO.out.poke (j := j * 5 + 1) (by omega)
      have hgB := (hO.out.lt g (by rw [hA]; rfl)).1
      subst hA
      have HN := Lib.hid (hnext (.int .i64 (-9)))
      have HBN := Lib.hid (hBz.out.setCell (p := ⟨g, j * 5 + 1, none⟩) (show w3.heap.size ≤ g from Nat.le_trans HB8.out hgB) (.int .i64 (-9)))
      have q0' : wv.cell? ⟨g, 0 + j * 5 + 1, none⟩ = some y := by rw [Nat.zero_add]; exact q0
      have q1' : wv.frozen? ⟨g, 0 + j * 5 + 1, none⟩ = false := by rw [Nat.zero_add]; exact q1
      clear hnext hO hBz
      go_wp2_with fail
      exact ⟨⟨j + 1, by go_num, hjl, HN, HBN⟩, by simp [intOf]; omega⟩
    · have b1 : ¬ (j : Int) < (nl.length : Int) := by omega
      have HBE := Lib.hid hBz.out
      clear hO hBz
      go_wp2_with fail
      clear hj hjl b1
      go_loopw [20] (fun s20 wr => ∃ k : Nat, s20 = .int .i64 (k : Int) ∧ k ≤ 2 ∧ Hid (Below w3.heap.size w3 wr)) (fun s20 _ => 2 - (intOf s20).toNat)
      case atStart => exact ⟨0, rfl, by omega, HBE⟩
      case round =>
        clear HBE
        obtain ⟨k, rfl, hk2, hB⟩ := hrel
        obtain ⟨wz, hwz⟩ : ∃ wz : World, wz = wr := ⟨_, rfl⟩
        subst hwz
        by_cases hkl : k < 2
        · have a1 : (k : Int) < 2 := by omega
          obtain ⟨⟨p0, p1, p2, p3, p4⟩, -⟩ := HAT.out wz hB.out
          go_wp2_with fail
          refine (C5.out wz hB.out).mono ?_
          rintro e u1 ⟨va, vb, rfl, oa, ob, hb1⟩
          obtain ⟨Aa, ca, rfl⟩ := oa.slice
          obtain ⟨Ab, cb, rfl⟩ := ob.slice
          obtain ⟨u2, hu2⟩ : ∃ u2, u2 = u1.alloc (.cells #[.int .u8 dr.kind, .bool dr.found, .string dr.val] 27) := ⟨_, rfl⟩
          have hb12 : Below u1.heap.size u1 u2 := by rw [hu2]; exact (Below.refl _ _).alloc (Nat.le_refl _) _
          have x2 : u2.heap[u1.heap.size]? = some (.cells #[.int .u8 dr.kind, .bool dr.found, .string dr.val] 27 (0, 0)) := by rw [hu2]; exact heap_alloc_new u1 _
          have hbz2 := hb1.trans (Joins.below_le hb12 hb1.size)
          have hbe2 := hB.out.trans (Joins.below_le hbz2 hB.out.size)
          have HU2 := Lib.hid hu2
          clear p0 p1 p2 p3 p4 hu2
          go_upto_region 19 with fail
          rw [← HU2.out]
          obtain ⟨⟨p0, p1, p2, p3, p4⟩, -⟩ := HAT.out u2 hbe2
          go_wp2_with fail
          refine (C6.out u2 hbe2).mono ?_
          rintro e u3 ⟨vc, vd, rfl, oc, od, hb3⟩
          obtain ⟨Ac, cc, rfl⟩ := oc.slice
          obtain ⟨Ad, cd, rfl⟩ := od.slice
          obtain ⟨u4, hu4⟩ : ∃ u4, u4 = u3.alloc (.cells #[.int .u8 dr.kind, .bool dr.found, .string dr.val] 27) := ⟨_, rfl⟩
          have hb34 : Below u3.heap.size u3 u4 := by rw [hu4]; exact (Below.refl _ _).alloc (Nat.le_refl _) _
          have x4 : u4.heap[u3.heap.size]? = some (.cells #[.int .u8 dr.kind, .bool dr.found, .string dr.val] 27 (0, 0)) := by rw [hu4]; exact heap_alloc_new u3 _
          have hb24 := hb3.trans (Joins.below_le hb34 hb3.size)
          have hb14 := hb12.trans (Joins.below_le hb24 hb12.size)
          have x24 := (hb24.block _ (Array.getElem?_eq_some_iff.1 x2).1).trans x2
          have hbe4 := hbe2.trans (Joins.below_le hb24 hbe2.size)
          have HU4 := Lib.hid hu4
          clear p0 p1 p2 p3 p4 hu4
          go_upto_region 20 with fail
          rw [← HU4.out]
          obtain ⟨q0, q1, q2⟩ : (u4.cell? ⟨u1.heap.size, 0, none⟩ = some (.int .u8 dr.kind) ∧ u4.cell? ⟨u1.heap.size, 1, none⟩ = some (.bool dr.found) ∧ u4.cell? ⟨u1.heap.size, 2, none⟩ = some (.string dr.val)) := ⟨(blk_cells x24).1 0, (blk_cells x24).1 1, (blk_cells x24).1 2⟩
          obtain ⟨r0, r1, r2⟩ : (u4.cell? ⟨u3.heap.size, 0, none⟩ = some (.int .u8 dr.kind) ∧ u4.cell? ⟨u3.heap.size, 1, none⟩ = some (.bool dr.found) ∧ u4.cell? ⟨u3.heap.size, 2, none⟩ = some (.string dr.val)) := ⟨(blk_cells x4).1 0, (blk_cells x4).1 1, (blk_cells x4).1 2⟩
          have oa4 := oa.below hb14
          have ob4 := ob.below hb14
          have cS := rsame_yes dm _ _ u4 oa4.n.any ((oc.below hb34).n.any)
          go_wp2_with fail
          refine cS.mono ?_
          rintro e u5 ⟨rfl, hb45⟩
          have cT := rsameL_yes dq _ _ u5 ((ob4.below hb45).n.any) (((od.below hb34).below hb45).n.any)
          clear cS q0 q1 q2 r0 r1 r2
          go_wp2_with fail
          refine cT.mono ?_
          rintro e u6 ⟨rfl, hb56⟩
          have hb46 := hb45.trans (Joins.below_le hb56 hb45.size)
          have hbz6 : Below wz.heap.size wz u6 := (hb1.trans (Joins.below_le hb14 hb1.size)).trans (Joins.below_le hb46 (by have := hb1.size; have := hb14.size; omega))
          have OA := Lib.hid (oa4.below hb46).x
          have OB := Lib.hid (ob4.below hb46).x
          have HBZ := Lib.hid hbz6
          clear cT x2 x4 x24 oa ob oc od oa4 ob4 hb1 hb12 hbz2 hbe2 hb3 hb34 hb24 hb14 hbe4 hb45 hb56 hb46 hbz6
          go_wp2_with fail
          go_loopw [29] (fun s29 wr => ∃ j : Nat, s29 = .int .i64 (j : Int) ∧ j ≤ dm.length ∧ Hid (OwnX wr wz.heap.size 24 2 (.slice Aa dm.length ca) dm.length) ∧ Hid (OwnX wr wz.heap.size 46 5 (.slice Ab dq.length cb) dq.length) ∧ Hid (Below wz.heap.size wz wr)) (fun s29 _ => dm.length - (intOf s29).toNat)
          case atStart => exact ⟨0, rfl, Nat.zero_le _, OA, OB, HBZ⟩
          case round =>
            clear OA OB HBZ
            obtain ⟨j, rfl, hj, hO, hP, hBz⟩ := hrel
            obtain ⟨wv, hwv⟩ : ∃ wv : World, wv = wr := ⟨_, rfl⟩
            subst hwv
            by_cases hjl : j < dm.length
            · have b1 : (j : Int) < (dm.length : Int) := by omega
              have b0 : (0 : Int) ≤ (j : Int) := by omega
              obtain ⟨g, y, hA, -, ⟨CG, hCG⟩, q0, q1, hnext⟩ := hO.out.poke (j := j * 2) (by omega)
              have hgB := (hO.out.lt g (by rw [hA]; rfl)).1
              subst hA
              have HN := Lib.hid (hnext (.string ⟨#[63]⟩))
              have HP := Lib.hid (hP.out.other (j := j * 2) (x := .string ⟨#[63]⟩) hCG (by decide))
              have HBN := Lib.hid (hBz.out.setCell (p := ⟨g, j * 2, none⟩) (show wz.heap.size ≤ g from hgB) (.string ⟨#[63]⟩))
              have q0' : wv.cell? ⟨g, 0 + j * 2, none⟩ = some y := by rw [Nat.zero_add]; exact q0
              have q1' : wv.frozen? ⟨g, 0 + j * 2, none⟩ = false := by rw [Nat.zero_add]; exact q1
              clear hnext hO hP hBz hCG
              go_wp2_with fail
              exact ⟨⟨j + 1, by go_num, hjl, HN, HP, HBN⟩, by simp [intOf]; omega⟩
            · have b1 : ¬ (j : Int) < (dm.length : Int) := by omega
              have OB := Lib.hid hP.out
              have HBZ := Lib.hid hBz.out
              clear hO hP hBz
              go_wp2_with fail
              clear hj hjl b1
              go_loopw [30] (fun s30 wr => ∃ j : Nat, s30 = .int .i64 (j : Int) ∧ j ≤ dq.length ∧ Hid (OwnX wr wz.heap.size 46 5 (.slice Ab dq.length cb) dq.length) ∧ Hid (Below wz.heap.size wz wr)) (fun s30 _ => dq.length - (intOf s30).toNat)
              case atStart => exact ⟨0, rfl, Nat.zero_le _, OB, HBZ⟩
              case round =>
                clear OB HBZ
                obtain ⟨j, rfl, hj, hO, hBz⟩ := hrel
                obtain ⟨wt, hwt⟩ : ∃ wt : World, wt = wr := ⟨_, rfl⟩
                subst hwt
                by_cases hjl : j < dq.length
                · have b1 : (j : Int) < (dq.length : Int) := by omega
                  have b0 : (0 : Int) ≤ (j : Int) := by omega
                  obtain ⟨g, y, hA, -, -, q0, q1, hnext⟩ := hO.out.poke (j := j * 5 + 1) (by omega)
                  have hgB := (hO.out.lt g (by rw [hA]; rfl)).1
                  subst hA
                  have HN := Lib.hid (hnext (.int .i64 (-9)))
                  have HBN := Lib.hid (hBz.out.setCell (p := ⟨g, j * 5 + 1, none⟩) (show wz.heap.size ≤ g from hgB) (.int .i64 (-9)))
                  have q0' : wt.cell? ⟨g, 0 + j * 5 + 1, none⟩ = some y := by rw [Nat.zero_add]; exact q0
                  have q1' : wt.frozen? ⟨g, 0 + j * 5 + 1, none⟩ = false := by rw [Nat.zero_add]; exact q1
                  clear hnext hO hBz
                  go_wp2_with fail
                  exact ⟨⟨j + 1, by go_num, hjl, HN, HBN⟩, by simp [intOf]; omega⟩
                · have b1 : ¬ (j : Int) < (dq.length : Int) := by omega
                  have hbe9 := hB.out.trans (Joins.below_le hBz.out hB.out.size)
                  obtain ⟨-, n1, n2, n3, n4, -⟩ := HAT.out wt hbe9
                  have cS := rsame_yes m _ _ wt n3 n1
                  have HBE9 := Lib.hid hbe9
                  clear hO hBz n1 n2 n3 n4 hbe9
                  go_wp2_with fail
                  refine cS.mono ?_
                  rintro e w12 ⟨rfl, hb12⟩
                  have hbe12 := HBE9.out.trans (Joins.below_le hb12 HBE9.out.size)
                  obtain ⟨-, n1, n2, n3, n4, -⟩ := HAT.out w12 hbe12
                  have cT := rsameL_yes l _ _ w12 n4 n2
                  have HBE12 := Lib.hid hbe12
                  clear cS hb12 hbe12 n1 n2 n3 n4
                  go_wp2_with fail
                  refine cT.mono ?_
                  rintro e w13 ⟨rfl, hb13⟩
                  have HBE13 := Lib.hid (HBE12.out.trans (Joins.below_le hb13 HBE12.out.size))
                  clear cT hb13 b1 hj hjl
                  go_wp2_with fail
                  exact ⟨⟨k + 1, by go_num, by omega, HBE13⟩, by simp [intOf]; omega⟩
        · have a1 : ¬ (k : Int) < 2 := by omega
          have HF := Lib.hid (HAT.out wz hB.out).2.2.2.2.2
          go_wp2_with fail
          go_ret
          exact ⟨rfl, HF.out⟩
end Go.Proofs.Ytlgjidoehnhnoaa
