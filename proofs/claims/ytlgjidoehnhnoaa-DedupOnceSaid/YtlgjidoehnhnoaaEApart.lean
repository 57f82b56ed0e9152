/-
  DedupApart, walked. No statement is proved here. No condition.
-/
import Derived.Test.YtlgjidoehnhnoaaEOwnX
import Derived.Test.YtlgjidoehnhnoaaEMap
import Derived.Test.YtlgjidoehnhnoaaEOnce
namespace Go.Proofs.Ytlgjidoehnhnoaa
open Go.RowKit

/-- another key finds what it found -/
theorem doP_other (m : List PP) (o : PO) {k : ByteArray} (hk : k ≠ o.key) : findP (doP m o).1 k = findP m k := by
  unfold doP
  split
  · rfl
  · split
    · rw [findP_put, if_neg (fun e => hk e.symm)]
    · split
      · split
        · rw [findP_put, if_neg (fun e => hk e.symm)]
        · rfl
      · rw [findP_del, if_neg (fun e => hk e.symm)]
theorem stepP_other {m : List PP} {l : List PL} {c i : Int} {o : PO} (he : stepErr l c i o = 0) {k : ByteArray} (hk : k ≠ o.key) : findP (stepP m l c i o).1 k = findP m k := by
  unfold stepP
  rw [if_neg (by rw [he]; simp)]
  split
  · rfl
  · exact doP_other m o hk
/-- another client is told what it was told -/
theorem stepP_client {m : List PP} {l : List PL} {c i : Int} {o : PO} (he : stepErr l c i o = 0) {d : Int} (hd : d ≠ c) (j : Int) : seenP (stepP m l c i o).2.1 d j = seenP l d j := by
  unfold stepP
  rw [if_neg (by rw [he]; simp)]
  split
  · rfl
  · rw [seenP_note, if_neg (fun e => hd e.symm)]
/-- what was done is seen -/
theorem stepP_seen {m : List PP} {l : List PL} {c i : Int} {o : PO} (he : stepErr l c i o = 0) : (seenP (stepP m l c i o).2.1 c i).2 = 0 := by
  unfold stepP
  rw [if_neg (by rw [he]; simp)]
  split
  · rename_i h
    exact h
  · rw [seenP_note, if_pos rfl]
    unfold tellL
    simp

set_option maxHeartbeats 16000000 in
set_option maxRecDepth 1000000 in
theorem apart_walk (m : List PP) (l : List PL) (c i : Int) (o : PO) (key : ByteArray) (d : Int) (v u : Value) (w : World) (h : pairR.N w Any v m) (h' : lastR.N w Any u l) (hm : m.length ≤ 4398046510976) (hl : l.length ≤ 3518437208780) (hk : 0 ≤ o.kind ∧ o.kind ≤ 255) :
    Calls Try.prog 8 #[v, u, .int .i64 c, .int .i64 i, o.agg, .string key, .int .i64 d] w fun e w' => e = .returned (.bool true) ∧ Below w.heap.size w w' := by
  obtain ⟨A, cp, rfl, hlc, hcm⟩ := h.slice
  obtain ⟨A', cp', rfl, hlc', hcm'⟩ := h'.slice
  obtain ⟨w1, hw1⟩ : ∃ w1, w1 = w.alloc (.cells #[.int .u8 o.kind, .string o.key, .string o.val, .string o.old, .bool o.had] 32) := ⟨_, rfl⟩
  have hb1 : Below w.heap.size w w1 := by rw [hw1]; exact (Below.refl _ _).alloc (Nat.le_refl _) _
  have hx1 : w1.heap[w.heap.size]? = some (.cells #[.int .u8 o.kind, .string o.key, .string o.val, .string o.old, .bool o.had] 32 (0, 0)) := by rw [hw1]; exact heap_alloc_new w _
  have hlt1 : w.heap.size < w1.heap.size := (Array.getElem?_eq_some_iff.1 hx1).1
  have hat : ∀ W, Below w1.heap.size w1 W → (W.cell? ⟨w.heap.size, 0, none⟩ = some (.int .u8 o.kind) ∧ W.cell? ⟨w.heap.size, 1, none⟩ = some (.string o.key) ∧ W.cell? ⟨w.heap.size, 2, none⟩ = some (.string o.val) ∧ W.cell? ⟨w.heap.size, 3, none⟩ = some (.string o.old) ∧ W.cell? ⟨w.heap.size, 4, none⟩ = some (.bool o.had)) ∧ pairR.N W Any (.slice A m.length cp) m ∧ lastR.N W Any (.slice A' l.length cp') l ∧ Below w.heap.size w W := fun W hW => by
    have e := (hW.block _ hlt1).trans hx1
    have hbw := hb1.trans (Joins.below_le hW hb1.size)
    exact ⟨⟨(blk_cells e).1 0, (blk_cells e).1 1, (blk_cells e).1 2, (blk_cells e).1 3, (blk_cells e).1 4⟩, h.grow hbw, h'.grow hbw, hbw⟩
  have HAT := Lib.hid hat
  have HW1 := Lib.hid hw1
  have hz := zero_res
  have cW := works_any w1
  obtain ⟨dm, dq, dr, hD⟩ : ∃ dm dq dr, stepP m l c i o = (dm, dq, dr) := ⟨_, _, _, rfl⟩
  obtain ⟨E, hE⟩ : ∃ E, E = stepErr l c i o := ⟨_, rfl⟩
  have c1 : ∀ W, Below w1.heap.size w1 W → Calls Try.prog 12 #[.slice A m.length cp, .slice A' l.length cp', .int .i64 c, .int .i64 i, o.agg] W fun e w' => ∃ va vb, e = .returned (.tuple #[va, vb, .agg #[.int .u8 dr.kind, .bool dr.found, .string dr.val], .int .i64 E]) ∧ pairR.Own w' W.heap.size 24 va dm ∧ lastR.Own w' W.heap.size 46 vb dq ∧ Below W.heap.size W w' := fun W hW => by
    have := pstep_any m l c i o _ _ W (hat W hW).2.1 (hat W hW).2.2.1 (by omega) (by omega) hk
    rw [hD, ← hE] at this
    exact this
  unfold PO.agg at c1 ⊢
  unfold maxLen at hcm hcm'
  have C1 := Lib.hid c1
  -- what comes of it
  have hno : E ≠ 0 → dm = [] ∧ dq = [] := fun he => by
    have : stepP m l c i o = ([], [], zR) := by unfold stepP; rw [if_pos (by rw [← hE]; exact he)]
    rw [this] at hD
    injection hD with e1 e2
    injection e2 with e2 e3
    exact ⟨e1.symm, e2.symm⟩
  have hfo : E = 0 → key ≠ o.key → findP dm key = findP m key := fun he hk => by
    have := stepP_other (m := m) (hE.symm.trans he) hk
    rw [hD] at this
    exact this
  have hso : E = 0 → d ≠ c → ∀ j, seenP dq d j = seenP l d j := fun he hd j => by
    have := stepP_client (m := m) (hE.symm.trans he) hd j
    rw [hD] at this
    exact this
  have hsc : E = 0 → (seenP dq c i).2 = 0 := fun he => by
    have := stepP_seen (m := m) (hE.symm.trans he)
    rw [hD] at this
    exact this
  have HNO := Lib.hid hno
  have HFO := Lib.hid hfo
  have HSO := Lib.hid hso
  have HSC := Lib.hid hsc
  clear c1 hat h h' hw1 hb1 hx1 hlt1 hno hfo hso hsc hD hE
  go_enter Try.func8, Try.ntmps8
  go_upto_region 1 with fail
  rw [← HW1.out]
  go_wp2_with fail
  refine cW.mono ?_
  rintro e w2 ⟨rfl, hb2⟩
  obtain ⟨⟨p0, p1, p2, p3, p4⟩, -⟩ := HAT.out w2 hb2
  clear cW
  go_wp2_with fail
  refine (C1.out w2 hb2).mono ?_
  rintro e w3 ⟨va, vb, rfl, oa, ob, hb3⟩
  obtain ⟨Aa, ca, rfl⟩ := oa.slice
  obtain ⟨Ab, cb, rfl⟩ := ob.slice
  obtain ⟨w4, hw4⟩ : ∃ w4, w4 = w3.alloc (.cells #[.int .u8 dr.kind, .bool dr.found, .string dr.val] 27) := ⟨_, rfl⟩
  have hb34 : Below w3.heap.size w3 w4 := by rw [hw4]; exact (Below.refl _ _).alloc (Nat.le_refl _) _
  have hbe4 := hb2.trans (Joins.below_le (hb3.trans (Joins.below_le hb34 hb3.size)) hb2.size)
  have na4 : pairR.N w4 Any (.slice Aa dm.length ca) dm := (oa.below hb34).n.any
  have nb4 : lastR.N w4 Any (.slice Ab dq.length cb) dq := (ob.below hb34).n.any
  have HW4 := Lib.hid hw4
  clear p0 p1 p2 p3 p4 hw4 hb34 oa ob hb3 hb2 C1
  go_upto_region 4 with fail
  rw [← HW4.out]
  by_cases hE : E = 0
  · subst hE
    have HFO0 := Lib.hid (HFO.out rfl)
    have HSO0 := Lib.hid (HSO.out rfl)
    have HSC0 := Lib.hid (HSC.out rfl)
    clear HFO HSO HSC HNO
    obtain ⟨⟨p0, p1, p2, p3, p4⟩, -⟩ := HAT.out w4 hbe4
    have hbe : Below w1.heap.size w1 w4 := hbe4
    have hb44 : Below w4.heap.size w4 w4 := Below.refl _ _
    -- behind the finding
    go_upto_region 6 with fail
    by_cases hkk : key = o.key
    · have hk2 := eqS_yes hkk
      clear hkk
      have HBE := Lib.hid (show Below w4.heap.size w4 w4 from Below.refl _ _)
      clear hbe hb44
      go_upto_region 11 with fail
      clear p0 p1 p2 p3 p4
      have TAIL : True := trivial
      obtain ⟨w7, hw7⟩ : ∃ w7 : World, Below w4.heap.size w4 w7 ∧ w7 = w4 := ⟨_, HBE.out, rfl⟩
      obtain ⟨hb7, hw7⟩ := hw7
      rw [← hw7]
      clear hw7 HBE
      by_cases hd : d = c
      · subst hd
        have cS := pseen_any dq d i _ w7 (nb4.grow hb7)
        obtain ⟨sr, se, hs⟩ : ∃ sr se, seenP dq d i = (sr, se) := ⟨_, _, rfl⟩
        have hse : se = 0 := by have := HSC0.out; rw [hs] at this; exact this
        rw [hs, hse] at cS
        unfold PR.agg at cS
        clear hs hse
        go_wp2_with fail
        refine cS.mono ?_
        rintro e w8 ⟨rfl, hb8⟩
        have HF := Lib.hid (HAT.out _ (hbe4.trans (Joins.below_le (hb7.trans (Joins.below_le hb8 hb7.size)) hbe4.size))).2.2.2
        clear cS hb8
        go_wp2_with fail
        go_ret
        exact ⟨rfl, HF.out.alloc HF.out.size _⟩
      · obtain ⟨sn, hsn⟩ : ∃ sn : Int → PR × Int, sn = fun j => seenP l d j := ⟨_, rfl⟩
        have cA : ∀ W j, Below w4.heap.size w4 W → Calls Try.prog 21 #[.slice A' l.length cp', .int .i64 d, .int .i64 j] W fun e w' => e = .returned (.tuple #[.agg #[.int .u8 (sn j).1.kind, .bool (sn j).1.found, .string (sn j).1.val], .int .i64 (sn j).2]) ∧ Below W.heap.size W w' := fun W j hW => by rw [hsn]; exact pseen_any l d j _ W (HAT.out W (hbe4.trans (Joins.below_le hW hbe4.size))).2.2.1
        have cB : ∀ W j, Below w4.heap.size w4 W → Calls Try.prog 21 #[.slice Ab dq.length cb, .int .i64 d, .int .i64 j] W fun e w' => e = .returned (.tuple #[.agg #[.int .u8 (sn j).1.kind, .bool (sn j).1.found, .string (sn j).1.val], .int .i64 (sn j).2]) ∧ Below W.heap.size W w' := fun W j hW => by
          have := pseen_any dq d j _ W (nb4.grow hW)
          rw [HSO0.out hd j] at this
          rw [hsn]
          exact this
        have CA := Lib.hid cA
        have CB := Lib.hid cB
        have HB7 := Lib.hid hb7
        have HBE4 := Lib.hid hbe4
        clear cA cB hsn hb7 hbe4 na4 nb4
        have hdf : (d == c) = false := by simp [hd]
        go_wp2_with fail
        go_loopw [25] (fun s25 wr => ∃ k : Nat, s25 = .int .i64 (k : Int) ∧ k ≤ 3 ∧ Hid (Below w4.heap.size w4 wr)) (fun s25 _ => 3 - (intOf s25).toNat)
        case atStart => exact ⟨0, rfl, by omega, HB7⟩
        case round =>
          clear HB7
          obtain ⟨k, rfl, hk3, hB⟩ := hrel
          obtain ⟨wz, hwz⟩ : ∃ wz : World, wz = wr := ⟨_, rfl⟩
          subst hwz
          by_cases hkl : k < 3
          · have a1 : (k : Int) < 3 := by omega
            go_upto_region 18 with fail
            generalize hKK : wrap64 (wrap64 (i - 1) + (k : Int)) = K
            clear hKK
            go_wp2_with fail
            refine (CA.out wz _ hB.out).mono ?_
            rintro e u1 ⟨rfl, hb1⟩
            generalize hsj : sn _ = sj
            obtain ⟨sr, se⟩ := sj
            obtain ⟨u2, hu2⟩ : ∃ u2, u2 = u1.alloc (.cells #[.int .u8 sr.kind, .bool sr.found, .string sr.val] 27) := ⟨_, rfl⟩
            have hb12 : Below u1.heap.size u1 u2 := by rw [hu2]; exact (Below.refl _ _).alloc (Nat.le_refl _) _
            have x2 : u2.heap[u1.heap.size]? = some (.cells #[.int .u8 sr.kind, .bool sr.found, .string sr.val] 27 (0, 0)) := by rw [hu2]; exact heap_alloc_new u1 _
            have hbe2 := hB.out.trans (Joins.below_le (hb1.trans (Joins.below_le hb12 hb1.size)) hB.out.size)
            have HU2 := Lib.hid hu2
            have HSJ := Lib.hid hsj
            clear hu2 hsj
            go_upto_region 19 with fail
            rw [← HU2.out]
            go_wp2_with fail
            refine (CB.out u2 _ hbe2).mono ?_
            rintro e u3 ⟨rfl, hb3⟩
            rw [HSJ.out]
            obtain ⟨u4, hu4⟩ : ∃ u4, u4 = u3.alloc (.cells #[.int .u8 sr.kind, .bool sr.found, .string sr.val] 27) := ⟨_, rfl⟩
            have hb34 : Below u3.heap.size u3 u4 := by rw [hu4]; exact (Below.refl _ _).alloc (Nat.le_refl _) _
            have x4 : u4.heap[u3.heap.size]? = some (.cells #[.int .u8 sr.kind, .bool sr.found, .string sr.val] 27 (0, 0)) := by rw [hu4]; exact heap_alloc_new u3 _
            have hb24 := hb3.trans (Joins.below_le hb34 hb3.size)
            have x24 := (hb24.block _ (Array.getElem?_eq_some_iff.1 x2).1).trans x2
            have HBE4' := Lib.hid (hbe2.trans (Joins.below_le hb24 hbe2.size))
            obtain ⟨q0, q1, q2⟩ : (u4.cell? ⟨u1.heap.size, 0, none⟩ = some (.int .u8 sr.kind) ∧ u4.cell? ⟨u1.heap.size, 1, none⟩ = some (.bool sr.found) ∧ u4.cell? ⟨u1.heap.size, 2, none⟩ = some (.string sr.val)) := ⟨(blk_cells x24).1 0, (blk_cells x24).1 1, (blk_cells x24).1 2⟩
            obtain ⟨r0, r1, r2⟩ : (u4.cell? ⟨u3.heap.size, 0, none⟩ = some (.int .u8 sr.kind) ∧ u4.cell? ⟨u3.heap.size, 1, none⟩ = some (.bool sr.found) ∧ u4.cell? ⟨u3.heap.size, 2, none⟩ = some (.string sr.val)) := ⟨(blk_cells x4).1 0, (blk_cells x4).1 1, (blk_cells x4).1 2⟩
            have hve := eqS_yes (rfl : sr.val = sr.val)
            have HU4 := Lib.hid hu4
            clear hu4 x2 x4 x24 hb24 hb34 hb3 hb12 hb1 hbe2
            go_upto_region 20 with fail
            rw [← HU4.out]
            go_wp2_with fail
            exact ⟨⟨k + 1, by go_num, by omega, HBE4'⟩, by simp [intOf]; omega⟩
          · have a1 : ¬ (k : Int) < 3 := by omega
            have HF := Lib.hid (HAT.out wz (HBE4.out.trans (Joins.below_le hB.out HBE4.out.size))).2.2.2
            go_wp2_with fail
            go_ret
            exact ⟨rfl, HF.out⟩
    · have hk2 := eqS_no hkk
      have hff := HFO0.out hkk
      clear hkk
      obtain ⟨fv, hfv⟩ : ∃ fv, fv = (findP m key).getD ⟨#[]⟩ := ⟨_, rfl⟩
      obtain ⟨fb, hfb⟩ : ∃ fb, fb = (findP m key).isSome := ⟨_, rfl⟩
      have cA := pfind_any m key _ w4 (HAT.out w4 hbe4).2.1
      have cB : ∀ W, Below w4.heap.size w4 W → Calls Try.prog 15 #[.slice Aa dm.length ca, .string key] W fun e w' => e = .returned (.tuple #[.string fv, .bool fb]) ∧ Below W.heap.size W w' := fun W hW => by rw [hfv, hfb, ← hff]; exact pfind_any dm key _ W (na4.grow hW)
      rw [← hfv, ← hfb] at cA
      have CB := Lib.hid cB
      have hfe := eqS_yes (rfl : fv = fv)
      clear cB hff hfv hfb hbe hb44
      go_wp2_with fail
      refine cA.mono ?_
      rintro e w5 ⟨rfl, hb5⟩
      clear cA p0 p1 p2 p3 p4
      go_wp2_with fail
      refine (CB.out w5 hb5).mono ?_
      rintro e w6 ⟨rfl, hb6⟩
      have HBE := Lib.hid (hb5.trans (Joins.below_le hb6 hb5.size))
      clear hb5 hb6 CB
      go_upto_region 11 with fail
      have TAIL : True := trivial
      obtain ⟨w7, hw7⟩ : ∃ w7 : World, Below w4.heap.size w4 w7 ∧ w7 = w6 := ⟨_, HBE.out, rfl⟩
      obtain ⟨hb7, hw7⟩ := hw7
      rw [← hw7]
      clear hw7 HBE
      by_cases hd : d = c
      · subst hd
        have cS := pseen_any dq d i _ w7 (nb4.grow hb7)
        obtain ⟨sr, se, hs⟩ : ∃ sr se, seenP dq d i = (sr, se) := ⟨_, _, rfl⟩
        have hse : se = 0 := by have := HSC0.out; rw [hs] at this; exact this
        rw [hs, hse] at cS
        unfold PR.agg at cS
        clear hs hse
        go_wp2_with fail
        refine cS.mono ?_
        rintro e w8 ⟨rfl, hb8⟩
        have HF := Lib.hid (HAT.out _ (hbe4.trans (Joins.below_le (hb7.trans (Joins.below_le hb8 hb7.size)) hbe4.size))).2.2.2
        clear cS hb8
        go_wp2_with fail
        go_ret
        exact ⟨rfl, HF.out.alloc HF.out.size _⟩
      · obtain ⟨sn, hsn⟩ : ∃ sn : Int → PR × Int, sn = fun j => seenP l d j := ⟨_, rfl⟩
        have cA : ∀ W j, Below w4.heap.size w4 W → Calls Try.prog 21 #[.slice A' l.length cp', .int .i64 d, .int .i64 j] W fun e w' => e = .returned (.tuple #[.agg #[.int .u8 (sn j).1.kind, .bool (sn j).1.found, .string (sn j).1.val], .int .i64 (sn j).2]) ∧ Below W.heap.size W w' := fun W j hW => by rw [hsn]; exact pseen_any l d j _ W (HAT.out W (hbe4.trans (Joins.below_le hW hbe4.size))).2.2.1
        have cB : ∀ W j, Below w4.heap.size w4 W → Calls Try.prog 21 #[.slice Ab dq.length cb, .int .i64 d, .int .i64 j] W fun e w' => e = .returned (.tuple #[.agg #[.int .u8 (sn j).1.kind, .bool (sn j).1.found, .string (sn j).1.val], .int .i64 (sn j).2]) ∧ Below W.heap.size W w' := fun W j hW => by
          have := pseen_any dq d j _ W (nb4.grow hW)
          rw [HSO0.out hd j] at this
          rw [hsn]
          exact this
        have CA := Lib.hid cA
        have CB := Lib.hid cB
        have HB7 := Lib.hid hb7
        have HBE4 := Lib.hid hbe4
        clear cA cB hsn hb7 hbe4 na4 nb4
        have hdf : (d == c) = false := by simp [hd]
        go_wp2_with fail
        go_loopw [25] (fun s25 wr => ∃ k : Nat, s25 = .int .i64 (k : Int) ∧ k ≤ 3 ∧ Hid (Below w4.heap.size w4 wr)) (fun s25 _ => 3 - (intOf s25).toNat)
        case atStart => exact ⟨0, rfl, by omega, HB7⟩
        case round =>
          clear HB7
          obtain ⟨k, rfl, hk3, hB⟩ := hrel
          obtain ⟨wz, hwz⟩ : ∃ wz : World, wz = wr := ⟨_, rfl⟩
          subst hwz
          by_cases hkl : k < 3
          · have a1 : (k : Int) < 3 := by omega
            go_upto_region 18 with fail
            generalize hKK : wrap64 (wrap64 (i - 1) + (k : Int)) = K
            clear hKK
            go_wp2_with fail
            refine (CA.out wz _ hB.out).mono ?_
            rintro e u1 ⟨rfl, hb1⟩
            generalize hsj : sn _ = sj
            obtain ⟨sr, se⟩ := sj
            obtain ⟨u2, hu2⟩ : ∃ u2, u2 = u1.alloc (.cells #[.int .u8 sr.kind, .bool sr.found, .string sr.val] 27) := ⟨_, rfl⟩
            have hb12 : Below u1.heap.size u1 u2 := by rw [hu2]; exact (Below.refl _ _).alloc (Nat.le_refl _) _
            have x2 : u2.heap[u1.heap.size]? = some (.cells #[.int .u8 sr.kind, .bool sr.found, .string sr.val] 27 (0, 0)) := by rw [hu2]; exact heap_alloc_new u1 _
            have hbe2 := hB.out.trans (Joins.below_le (hb1.trans (Joins.below_le hb12 hb1.size)) hB.out.size)
            have HU2 := Lib.hid hu2
            have HSJ := Lib.hid hsj
            clear hu2 hsj
            go_upto_region 19 with fail
            rw [← HU2.out]
            go_wp2_with fail
            refine (CB.out u2 _ hbe2).mono ?_
            rintro e u3 ⟨rfl, hb3⟩
            rw [HSJ.out]
            obtain ⟨u4, hu4⟩ : ∃ u4, u4 = u3.alloc (.cells #[.int .u8 sr.kind, .bool sr.found, .string sr.val] 27) := ⟨_, rfl⟩
            have hb34 : Below u3.heap.size u3 u4 := by rw [hu4]; exact (Below.refl _ _).alloc (Nat.le_refl _) _
            have x4 : u4.heap[u3.heap.size]? = some (.cells #[.int .u8 sr.kind, .bool sr.found, .string sr.val] 27 (0, 0)) := by rw [hu4]; exact heap_alloc_new u3 _
            have hb24 := hb3.trans (Joins.below_le hb34 hb3.size)
            have x24 := (hb24.block _ (Array.getElem?_eq_some_iff.1 x2).1).trans x2
            have HBE4' := Lib.hid (hbe2.trans (Joins.below_le hb24 hbe2.size))
            obtain ⟨q0, q1, q2⟩ : (u4.cell? ⟨u1.heap.size, 0, none⟩ = some (.int .u8 sr.kind) ∧ u4.cell? ⟨u1.heap.size, 1, none⟩ = some (.bool sr.found) ∧ u4.cell? ⟨u1.heap.size, 2, none⟩ = some (.string sr.val)) := ⟨(blk_cells x24).1 0, (blk_cells x24).1 1, (blk_cells x24).1 2⟩
            obtain ⟨r0, r1, r2⟩ : (u4.cell? ⟨u3.heap.size, 0, none⟩ = some (.int .u8 sr.kind) ∧ u4.cell? ⟨u3.heap.size, 1, none⟩ = some (.bool sr.found) ∧ u4.cell? ⟨u3.heap.size, 2, none⟩ = some (.string sr.val)) := ⟨(blk_cells x4).1 0, (blk_cells x4).1 1, (blk_cells x4).1 2⟩
            have hve := eqS_yes (rfl : sr.val = sr.val)
            have HU4 := Lib.hid hu4
            clear hu4 x2 x4 x24 hb24 hb34 hb3 hb12 hb1 hbe2
            go_upto_region 20 with fail
            rw [← HU4.out]
            go_wp2_with fail
            exact ⟨⟨k + 1, by go_num, by omega, HBE4'⟩, by simp [intOf]; omega⟩
          · have a1 : ¬ (k : Int) < 3 := by omega
            have HF := Lib.hid (HAT.out wz (HBE4.out.trans (Joins.below_le hB.out HBE4.out.size))).2.2.2
            go_wp2_with fail
            go_ret
            exact ⟨rfl, HF.out⟩
  · obtain ⟨rfl, rfl⟩ := HNO.out hE
    have HF := Lib.hid (HAT.out w4 hbe4).2.2.2
    go_wp2_with fail
    go_ret
    exact ⟨rfl, HF.out⟩
end Go.Proofs.Ytlgjidoehnhnoaa
