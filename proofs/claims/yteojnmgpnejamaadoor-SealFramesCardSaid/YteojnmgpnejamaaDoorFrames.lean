/-
  The walk of the law SealFrames: what is sealed and opened is the document's, in new memory. Conditions: the table reads as the program lays it, the bytes lie in memory.
-/
import Derived.Test.YteojnmgpnejamaaDoorCuts
import Derived.Test.YteojnmgpnejamaaDoorFrameRef
import Derived.Test.YteojnmgpnejamaaDoorBack
namespace Go.Proofs.YteojnmgpnejamaaDoor
open Go.RowKit

/-- what the call owns is kept by what writes into another of its blocks alone -/
theorem own_apart {w w' : World} {base : Nat} {e : TypeId} {v : Value} {n : Nat} {xs : List Value} {row : Option Nat} (h : w.ownsRow base e 1 v n xs) (hg : w.grownBy w' row) (hne : ∀ p, v.ownBlock = some p → row ≠ some p) : w'.ownsRow base e 1 v n xs :=
  own_same h fun p hp => hg.block p (h.lt p hp).2 fun e => hne p hp e.symm

/-- the copy that the law makes of an argument -/
theorem own_empty (w : World) (base : Nat) (h : base ≤ w.heap.size) : (w.alloc (.cells #[] 5)).ownsRow base 5 1 (.slice (some ⟨w.heap.size, 0, none⟩) 0 0) 0 (BS []) := World.ownsRow_lit w #[] 0 h (by unfold maxLen; omega) rfl

set_option maxRecDepth 100000 in
set_option maxHeartbeats 8000000 in
theorem frames_walk (k : UInt8) (l m : List UInt8) (x y : Value) (w : World) (ht : Tab w) (hx : Rd w w.heap.size x l) (hy : Rd w w.heap.size y m) (hl : l.length ≤ 140737488351232) (hm : m.length ≤ 140737488351232) :
    Calls Tryd.prog 4 #[.int .u8 (k.toNat : Int), x, y] w fun e w' => e = .returned (.bool true) ∧ Below w.heap.size w w' := by
  have HX := Lib.hid hx
  have HY := Lib.hid hy
  obtain ⟨A, c, rfl, -⟩ := hx
  obtain ⟨A2, c2, rfl, -⟩ := hy
  by_cases hbig : 20000 < l.length
  · have t1 : ((20000 : Int) < (l.length : Int)) = True := by simp; omega
    go_enter Tryd.func4, Tryd.ntmps4
    go_wp2_with fail
    refine (awake_any _ ht).mono ?_
    rintro e w1 ⟨rfl, hb1⟩
    go_wp2_with fail
    go_ret
    exact ⟨rfl, hb1⟩
  · have t1 : ((20000 : Int) < (l.length : Int)) = False := by simp; omega
    by_cases hbig2 : 20000 < m.length
    · have t2 : ((20000 : Int) < (m.length : Int)) = True := by simp; omega
      go_enter Tryd.func4, Tryd.ntmps4
      go_wp2_with fail
      refine (awake_any _ ht).mono ?_
      rintro e w1 ⟨rfl, hb1⟩
      go_wp2_with fail
      go_ret
      exact ⟨rfl, hb1⟩
    · have t2 : ((20000 : Int) < (m.length : Int)) = False := by simp; omega
      obtain ⟨i0, hi, hz0, hz1, hz2⟩ := info_parts info_u8
      have hba : Below w.heap.size w (w.alloc (.cells #[] 5)) := (Below.refl _ _).alloc (Nat.le_refl _) _
      go_enter Tryd.func4, Tryd.ntmps4
      go_wp2_with (first
        | (at_builtin; refine wpList_app rfl (.tmp 33) (.tmp 34) 22 rfl w.heap.size 5 i0 Tryd.underlying22 hi hz0 hz1 hz2 _ (.slice A l.length c) [] l 0 rfl rfl (own_empty w w.heap.size (Nat.le_refl _)) w.heap.size (HX.out.below hba (Nat.le_refl _)) (by simp; omega) (by simp) ?_; intro vi wA hoi hg1; have hbA : Below w.heap.size w wA := hba.grown hg1 (by simp) (fun k h => by injection h with h; subst h; exact Nat.le_refl _); have hzA := hbA.size; clear hg1 hba)
        | (at_builtin; refine wpList_app rfl (.tmp 36) (.tmp 37) 22 rfl wA.heap.size 5 i0 Tryd.underlying22 hi hz0 hz1 hz2 _ (.slice A2 m.length c2) [] m 0 rfl rfl (own_empty wA wA.heap.size (Nat.le_refl _)) w.heap.size (HY.out.below (hbA.alloc hbA.size _) (Nat.le_refl _)) (by simp; omega) (by simp) ?_; intro vb wB hob hg2; have hbAB : Below wA.heap.size wA wB := ((Below.refl _ _).alloc (Nat.le_refl _) _).grown hg2 (by simp) (fun k h => by injection h with h; subst h; exact Nat.le_refl _); clear hg2))
      have hb0 := hbA.trans (hbAB.mono hzA)
      have hoi' : wB.ownsRow w.heap.size 5 1 vi (0 + l.length) (BS l) := own_below hoi hbAB (Nat.le_refl _)
      have hob' : wB.ownsRow w.heap.size 5 1 vb (0 + m.length) (BS m) := World.ownsRow.mono hob hzA
      clear hoi hob hbA hbAB hzA
      refine (refseal_any k l _ wB (HX.out.below hb0 hb0.size) (by omega)).mono ?_
      unfold SealedPost
      obtain ⟨r, hr⟩ : ∃ r, sealedOf k l = r := ⟨_, rfl⟩
      have hlen : (sealedOf k l).2.length ≤ 8199 := by
        unfold sealedOf
        split
        · simp
        · show (frame k l).length ≤ _
          rw [frame_length]
          omega
      rw [hr] at hlen ⊢
      obtain ⟨es, Ls⟩ := r
      have HR := Lib.hid hr
      have hlen' : Ls.length ≤ 8199 := hlen
      clear hr hlen
      rintro e w1 ⟨v1, n1, rfl, ho1, hb1⟩
      have hb1' := hb0.trans (hb1.mono hb0.size)
      have hoi1 := own_below hoi' hb1 (Nat.le_refl _)
      have hob1 := own_below hob' hb1 (Nat.le_refl _)
      have LI := Lib.hid hoi1.lt
      have LB := Lib.hid hob1.lt
      have hz1' := hb1.size
      have hB := hb0.size
      clear hoi' hob' hb1 hb0
      go_wp2_with fail
      have c1 := seal_any k l vi w1 (ht.below hb1' ht.1) (Rd.own hoi1) (by omega)
      unfold SealedPost at c1
      rw [HR.out] at c1
      refine c1.mono ?_
      rintro e w2 ⟨v2, n2, rfl, ho2, hb2⟩
      have hb2' := hb1'.trans (hb2.mono hb1'.size)
      have hoi2 := own_below hoi1 hb2 (Nat.le_refl _)
      have hob2 := own_below hob1 hb2 (Nat.le_refl _)
      have ho12 := own_below ho1 hb2 (Nat.le_refl _)
      have hz2' := hb2.size
      have hw1 := hb1'.size
      clear hoi1 hob1 hb2 hb1' c1
      go_wp2_with fail
      have c1 := seal_any k l vi w2 (ht.below hb2' ht.1) (Rd.own hoi2) (by omega)
      unfold SealedPost at c1
      rw [HR.out] at c1
      refine c1.mono ?_
      rintro e w3 ⟨v3, n3, rfl, ho3, hb3⟩
      have hb3' := hb2'.trans (hb3.mono hb2'.size)
      have hoi3 := own_below hoi2 hb3 (Nat.le_refl _)
      have hob3 := own_below hob2 hb3 (Nat.le_refl _)
      have ho13 := own_below ho12 hb3 (Nat.le_refl _)
      have ho23 := own_below ho2 hb3 (Nat.le_refl _)
      have hz3' := hb3.size
      have hees : ((es : Int) != es) = false := by simp
      have l1 := ho1.lt
      have l2 := ho2.lt
      have l3 := ho3.lt
      have L1 := Lib.hid l1
      have L2 := Lib.hid l2
      have L3 := Lib.hid l3
      clear hoi2 hob2 hb3 hb2' c1 ho12 ho2 ho1 l1 l2 l3
      go_wp2_with fail
      obtain ⟨Ax, cx, hvx, -⟩ := Rd.own ho23
      obtain ⟨Aw, cw, hvw, -⟩ := Rd.own ho13
      have hvx' : v2 = .slice Ax Ls.length cx := hvx
      have hvw' : v1 = .slice Aw Ls.length cw := hvw
      subst hvx'
      subst hvw'
      clear hvx hvw
      have hn2 := own_count ho23
      have hn2' : n2 = Ls.length := hn2
      subst hn2'
      refine (same_any Ls Ls _ _ w3 (Rd.own ho23) (Rd.own ho13) (by omega) (by omega)).mono ?_
      rintro e w4 ⟨rfl, hb4⟩
      rw [show decide (Ls = Ls) = true by simp]
      have hb4' := hb3'.trans (hb4.mono hb3'.size)
      have hoi4 := own_below hoi3 hb4 (Nat.le_refl _)
      have hob4 := own_below hob3 hb4 (Nat.le_refl _)
      have ho14 := own_below ho13 hb4 (Nat.le_refl _)
      have ho24 : w4.ownsRow w1.heap.size 5 1 (.slice Ax Ls.length cx) Ls.length (BS Ls) := own_below ho23 hb4 (Nat.le_refl _)
      have ho34 := own_below ho3 hb4 (Nat.le_refl _)
      have HO1 := Lib.hid ho14
      have HO3 := Lib.hid ho34
      have HOI := Lib.hid hoi4
      have HOB := Lib.hid hob4
      have hw4 := hb4'.size
      have hzz := hb4.size
      clear hoi3 hob3 hb4 hb3' ho13 ho23 ho3 ho14 ho34 hoi4 hob4 hn2
      go_wp2_with fail
      go_loopw [15] (fun i wr => ∃ (r : Nat) (xs : List UInt8), i = .int .i64 r ∧ r ≤ Ls.length ∧ wr.ownsRow w1.heap.size 5 1 (.slice Ax Ls.length cx) Ls.length (BS xs) ∧ w4.grownBy wr (Value.slice Ax Ls.length cx).ownBlock) (fun i _ => Ls.length - (intOf i).toNat)
      case atStart => exact ⟨0, Ls, rfl, by omega, ho24, grown_refl _ _⟩
      case round =>
        obtain ⟨r, xs, rfl, hr, hox, hgx⟩ := hrel
        clear ho24
        by_cases hrl : r < Ls.length
        · have hr1 : (r : Int) < (Ls.length : Int) := by omega
          have hr0 : (0 : Int) ≤ (r : Int) := by omega
          obtain ⟨g, cap, hform, hg1, hg2⟩ := hox.form (by omega)
          injection hform with e1 _ e3
          subst e1
          subst e3
          have hxl : xs.length = Ls.length := (own_count hox).symm
          have hcg : wr.cell? ⟨g, r, none⟩ = some (.int .u8 ((xs.getD r 0).toNat : Int)) := by
            rw [hox.cellAt r (by omega)]
            unfold BS
            rw [List.getElem?_map, List.getElem?_eq_getElem (show r < xs.length by omega)]
            simp [List.getD, (show r < xs.length by omega)]
          have hfg : wr.frozen? ⟨g, r, none⟩ = false := hox.frozenAt r
          have hst := hox.stored r (.int .u8 85)
          have hst1 : (wr.setCell ⟨g, r, none⟩ (.int .u8 85)).ownsRow w1.heap.size 5 1 (.slice (some ⟨g, 0, none⟩) Ls.length cx) Ls.length (BS (xs.set r 85)) := by rw [BS_set]; exact hst.1
          have hgx' : w4.grownBy (wr.setCell ⟨g, r, none⟩ (.int .u8 85)) (Value.slice (some ⟨g, 0, none⟩) Ls.length cx).ownBlock := grown_trans hgx hst.2
          have H1 := Lib.hid hst1
          have H2 := Lib.hid hgx'
          clear hst hst1 hgx hgx' hox hxl
          go_wp2_with fail
          exact ⟨⟨r + 1, _, by go_num, hrl, H1.out, H2.out⟩, by simp [intOf]; omega⟩
        · have hr1 : ¬ (r : Int) < (Ls.length : Int) := by omega
          have hbx : Below w.heap.size w wr := hb4'.grown hgx hw4 (fun p hp => Nat.le_trans hw1 (L2.out p hp).1)
          have hxl : xs.length = Ls.length := (own_count hox).symm
          have hzr := hgx.size
          have keep : ∀ {base : Nat} {v : Value} {q : Nat} {zs : List Value}, w4.ownsRow base 5 1 v q zs → (∀ p, v.ownBlock = some p → p < w1.heap.size ∨ w2.heap.size ≤ p) → wr.ownsRow base 5 1 v q zs := by
            intro base v q zs h hp
            refine own_apart h hgx fun p e1 e2 => ?_
            have h1 := L2.out p e2
            rcases hp p e1 with h3 | h3 <;> omega
          have k1 := keep HO1.out (fun p hp => .inl (L1.out p hp).2)
          have k3 := keep HO3.out (fun p hp => .inr (L3.out p hp).1)
          have kI := keep HOI.out (fun p hp => .inl (LI.out p hp).2)
          have kB := keep HOB.out (fun p hp => .inl (LB.out p hp).2)
          have K1 := Lib.hid k1
          have K3 := Lib.hid k3
          have KI := Lib.hid kI
          have KB := Lib.hid kB
          have HR4 : Hid (w3.heap.size ≤ wr.heap.size) := Nat.le_trans (Nat.le_of_eq rfl) (Nat.le_trans hzz hzr)
          clear k1 k3 kI kB keep hgx hb4'
          have e9 : (xs ++ [1, 2, 3]).length = Ls.length + 3 := by rw [List.length_append, hxl]; rfl
          have E9 := Lib.hid e9
          have HXL := Lib.hid hxl
          have HOX := Lib.hid hox
          clear e9 hxl hox
          go_wp2_with (at_builtin; go_must (refine wpList_app rfl (.tmp 75) (.tmp 76) 22 rfl w1.heap.size 5 i0 Tryd.underlying22 hi hz0 hz1 hz2 _ _ xs [1, 2, 3] Ls.length rfl rfl (HOX.out.alloc _) (wr.heap.size + 1) (Rd.lits wr _ _ _ 3 rfl rfl (by unfold maxLen; decide)) (by rw [HXL.out]; simp; omega) (by simp; omega) ?_; intro v9 w5 ho9 hg9; obtain ⟨A9, c9, hv9, -⟩ := Rd.own ho9; rw [E9.out] at hv9; subst hv9; have HG9 := Lib.hid hg9; clear hg9 ho9))
          have hg9 : (wr.alloc (.cells #[.int .u8 1, .int .u8 2, .int .u8 3] 5)).grownBy w5 (Value.slice Ax Ls.length cx).ownBlock := HG9.out
          have hb5 : Below w.heap.size w w5 := (hbx.alloc hbx.size _).grown hg9 (by have := hbx.size; simp; omega) (fun p hp => Nat.le_trans hw1 (L2.out p hp).1)
          have keep : ∀ {base : Nat} {v : Value} {q : Nat} {zs : List Value}, wr.ownsRow base 5 1 v q zs → (∀ p, v.ownBlock = some p → p < w1.heap.size ∨ w2.heap.size ≤ p) → w5.ownsRow base 5 1 v q zs := by
            intro base v q zs h hp
            refine own_apart (h.alloc _) hg9 fun p e1 e2 => ?_
            have h1 := L2.out p e2
            rcases hp p e1 with h3 | h3 <;> omega
          have k1 := keep K1.out (fun p hp => .inl (L1.out p hp).2)
          have k3 := keep K3.out (fun p hp => .inr (L3.out p hp).1)
          have kI := keep KI.out (fun p hp => .inl (LI.out p hp).2)
          have kB := keep KB.out (fun p hp => .inl (LB.out p hp).2)
          clear K1 K3 KI KB keep HG9 hg9 hbx HOX HO1 HO3 HOI HOB
          refine (same_any Ls Ls _ _ w5 (Rd.own k3) (Rd.own k1) (by omega) (by omega)).mono ?_
          rintro e w6 ⟨rfl, hb6⟩
          rw [show decide (Ls = Ls) = true by simp]
          have hb6' := hb5.trans (hb6.mono hb5.size)
          have jI := own_below kI hb6 (Nat.le_refl _)
          have jB := own_below kB hb6 (Nat.le_refl _)
          clear k1 k3 kI kB hb5 hb6
          go_wp2_with fail
          refine (same_any l l vi _ w6 (Rd.own jI) (HX.out.below hb6' hb6'.size) (by omega) (by omega)).mono ?_
          rintro e w7 ⟨rfl, hb7⟩
          rw [show decide (l = l) = true by simp]
          have hb7' := hb6'.trans (hb7.mono hb6'.size)
          have mB := own_below jB hb7 (Nat.le_refl _)
          clear jI jB hb6' hb7 L1 L2 L3 LI LB hzr hz1' hz2' hz3' hzz hw4 hB hr1 HR4 E9 HXL hees
          go_wp2_with fail
          refine (refopen_any m _ w7 (HY.out.below hb7' hb7'.size) (by omega)).mono ?_
          unfold OpenedPost
          obtain ⟨r2, hr2⟩ : ∃ r, openedOf m = r := ⟨_, rfl⟩
          have hlen2 := openedOf_length m
          rw [hr2] at hlen2 ⊢
          obtain ⟨er, kr, lr⟩ := r2
          have HR2 := Lib.hid hr2
          have hlen3 : lr.length ≤ m.length := hlen2
          clear hr2 hlen2
          rintro e w8 ⟨v10, n10, rfl, ho10, hb8⟩
          have hb8' := hb7'.trans (hb8.mono hb7'.size)
          have mB8 := own_below mB hb8 (Nat.le_refl _)
          have hz8 := hb8.size
          have hw8 := hb8'.size
          clear mB hb8 hb7'
          go_wp2_with fail
          have c1 := open_any m vb w8 (ht.below hb8' ht.1) (Rd.own mB8) (by omega)
          unfold OpenedPost at c1
          rw [HR2.out] at c1
          refine c1.mono ?_
          rintro e w9 ⟨v11, n11, rfl, ho11, hb9⟩
          have hb9' := hb8'.trans (hb9.mono hb8'.size)
          have mB9 := own_below mB8 hb9 (Nat.le_refl _)
          have ho10' := own_below ho10 hb9 (Nat.le_refl _)
          have hz9 := hb9.size
          have M10 := Lib.hid ho10.lt
          have MB := Lib.hid mB8.lt
          have M11 := Lib.hid ho11.lt
          clear mB8 hb9 hb8' c1 ho10
          go_wp2_with fail
          have c1 := open_any m vb w9 (ht.below hb9' ht.1) (Rd.own mB9) (by omega)
          unfold OpenedPost at c1
          rw [HR2.out] at c1
          refine c1.mono ?_
          rintro e w10 ⟨v12, n12, rfl, ho12, hb10⟩
          have hb10' := hb9'.trans (hb10.mono hb9'.size)
          have mB10 := own_below mB9 hb10 (Nat.le_refl _)
          have hoh := own_below ho10' hb10 (Nat.le_refl _)
          have hoz := own_below ho11 hb10 (Nat.le_refl _)
          have M12 := Lib.hid ho12.lt
          have hz10 := hb10.size
          have heer : ((er : Int) != er) = false := by simp
          have hkkr : ((kr.toNat : Int) != (kr.toNat : Int)) = false := by simp
          clear mB9 hb10 hb9' c1 ho10' ho11
          obtain ⟨Az, cz, hvz, -⟩ := Rd.own hoz
          obtain ⟨Ah, ch, hvh, -⟩ := Rd.own hoh
          have hvz' : v11 = .slice Az lr.length cz := hvz
          have hvh' : v10 = .slice Ah lr.length ch := hvh
          subst hvz'
          subst hvh'
          clear hvz hvh
          have hn11 := own_count hoz
          have hn11' : n11 = lr.length := hn11
          subst hn11'
          go_wp2_with fail
          refine (same_any lr lr _ _ w10 (Rd.own hoz) (Rd.own hoh) (by omega) (by omega)).mono ?_
          rintro e w11 ⟨rfl, hb11⟩
          rw [show decide (lr = lr) = true by simp]
          have hb11' := hb10'.trans (hb11.mono hb10'.size)
          have mB11 := own_below mB10 hb11 (Nat.le_refl _)
          have hoh11 := own_below hoh hb11 (Nat.le_refl _)
          have hoz11 : w11.ownsRow w8.heap.size 5 1 (.slice Az lr.length cz) lr.length (BS lr) := own_below hoz hb11 (Nat.le_refl _)
          have hoa11 := own_below ho12 hb11 (Nat.le_refl _)
          have PB := Lib.hid mB11
          have PH := Lib.hid hoh11
          have PA := Lib.hid hoa11
          have hz11 := hb11.size
          have hw11 := hb11'.size
          clear mB10 hoh hoz ho12 hb11 hb10' mB11 hoh11 hoa11 hn11
          go_wp2_with fail
          go_loopw [23] (fun i wr => ∃ (r : Nat) (xs : List UInt8), i = .int .i64 r ∧ r ≤ lr.length ∧ wr.ownsRow w8.heap.size 5 1 (.slice Az lr.length cz) lr.length (BS xs) ∧ w11.grownBy wr (Value.slice Az lr.length cz).ownBlock) (fun i _ => lr.length - (intOf i).toNat)
          case atStart => exact ⟨0, lr, rfl, by omega, hoz11, grown_refl _ _⟩
          case round =>
            obtain ⟨r, xs, rfl, hr, hox, hgx⟩ := hrel
            clear hoz11
            by_cases hrl : r < lr.length
            · have hr1 : (r : Int) < (lr.length : Int) := by omega
              have hr0 : (0 : Int) ≤ (r : Int) := by omega
              obtain ⟨g, cap, hform, hg1, hg2⟩ := hox.form (by omega)
              injection hform with e1 _ e3
              subst e1
              subst e3
              have hxl : xs.length = lr.length := (own_count hox).symm
              have hcg : wr.cell? ⟨g, r, none⟩ = some (.int .u8 ((xs.getD r 0).toNat : Int)) := by
                rw [hox.cellAt r (by omega)]
                unfold BS
                rw [List.getElem?_map, List.getElem?_eq_getElem (show r < xs.length by omega)]
                simp [List.getD, (show r < xs.length by omega)]
              have hfg : wr.frozen? ⟨g, r, none⟩ = false := hox.frozenAt r
              have hst := hox.stored r (.int .u8 85)
              have hst1 : (wr.setCell ⟨g, r, none⟩ (.int .u8 85)).ownsRow w8.heap.size 5 1 (.slice (some ⟨g, 0, none⟩) lr.length cz) lr.length (BS (xs.set r 85)) := by rw [BS_set]; exact hst.1
              have hgx' : w11.grownBy (wr.setCell ⟨g, r, none⟩ (.int .u8 85)) (Value.slice (some ⟨g, 0, none⟩) lr.length cz).ownBlock := grown_trans hgx hst.2
              have H1 := Lib.hid hst1
              have H2 := Lib.hid hgx'
              clear hst hst1 hgx hgx' hox hxl
              go_wp2_with fail
              exact ⟨⟨r + 1, _, by go_num, hrl, H1.out, H2.out⟩, by simp [intOf]; omega⟩
            · have hr1 : ¬ (r : Int) < (lr.length : Int) := by omega
              have hbx : Below w.heap.size w wr := hb11'.grown hgx hw11 (fun p hp => Nat.le_trans hw8 (M11.out p hp).1)
              have hxl : xs.length = lr.length := (own_count hox).symm
              have hzr := hgx.size
              have e9 : (xs ++ [1, 2, 3]).length = lr.length + 3 := by rw [List.length_append, hxl]; rfl
              have E9 := Lib.hid e9
              have HXL := Lib.hid hxl
              have HOX := Lib.hid hox
              have HGX := Lib.hid hgx
              clear e9 hxl hox hgx
              go_wp2_with (at_builtin; go_must (refine wpList_app rfl (.tmp 137) (.tmp 138) 22 rfl w8.heap.size 5 i0 Tryd.underlying22 hi hz0 hz1 hz2 _ _ xs [1, 2, 3] lr.length rfl rfl (HOX.out.alloc _) (wr.heap.size + 1) (Rd.lits wr _ _ _ 3 rfl rfl (by unfold maxLen; decide)) (by rw [HXL.out]; simp; omega) (by simp; omega) ?_; intro v19 w12 ho19 hg19; obtain ⟨A19, c19, hv19, -⟩ := Rd.own ho19; rw [E9.out] at hv19; subst hv19; have HG19 := Lib.hid hg19; clear hg19 ho19))
              have hg19 : (wr.alloc (.cells #[.int .u8 1, .int .u8 2, .int .u8 3] 5)).grownBy w12 (Value.slice Az lr.length cz).ownBlock := HG19.out
              have hb12 : Below w.heap.size w w12 := (hbx.alloc hbx.size _).grown hg19 (by have := hbx.size; simp; omega) (fun p hp => Nat.le_trans hw8 (M11.out p hp).1)
              have keep : ∀ {base : Nat} {v : Value} {q : Nat} {zs : List Value}, w11.ownsRow base 5 1 v q zs → (∀ p, v.ownBlock = some p → p < w8.heap.size ∨ w9.heap.size ≤ p) → w12.ownsRow base 5 1 v q zs := by
                intro base v q zs h hp
                have hap : ∀ p, v.ownBlock = some p → (Value.slice Az lr.length cz).ownBlock ≠ some p := by
                  intro p e1 e2
                  have h1 := M11.out p e2
                  rcases hp p e1 with h3 | h3 <;> omega
                exact own_apart ((own_apart h HGX.out hap).alloc _) hg19 hap
              have kH := keep PH.out (fun p hp => .inl (M10.out p hp).2)
              have kA := keep PA.out (fun p hp => .inr (M12.out p hp).1)
              have kB := keep PB.out (fun p hp => .inl (MB.out p hp).2)
              clear keep HG19 hg19 hbx HOX HGX PH PA PB
              refine (same_any lr lr v12 _ w12 (Rd.own kA) (Rd.own kH) (by omega) (by omega)).mono ?_
              rintro e w13 ⟨rfl, hb13⟩
              rw [show decide (lr = lr) = true by simp]
              have hb13' := hb12.trans (hb13.mono hb12.size)
              have jB := own_below kB hb13 (Nat.le_refl _)
              clear kH kA kB hb12 hb13
              go_wp2_with fail
              refine (same_any m m vb _ w13 (Rd.own jB) (HY.out.below hb13' hb13'.size) (by omega) (by omega)).mono ?_
              rintro e w14 ⟨rfl, hb14⟩
              rw [show decide (m = m) = true by simp]
              have hb14' := hb13'.trans (hb14.mono hb13'.size)
              clear jB hb13' hb14
              go_wp2_with fail
              refine (awake_any _ (ht.below hb14' ht.1)).mono ?_
              rintro e w15 ⟨rfl, hb15⟩
              go_wp2_with fail
              go_ret
              exact ⟨rfl, hb14'.trans (hb15.mono hb14'.size)⟩
end Go.Proofs.YteojnmgpnejamaaDoor
