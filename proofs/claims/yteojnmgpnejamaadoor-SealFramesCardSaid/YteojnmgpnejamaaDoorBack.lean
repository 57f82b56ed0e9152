/-
  The walk of the law SealBack: what is sealed is opened as it was, and what is opened is sealed as it was. Conditions: the table reads as the program lays it, the bytes lie in memory.
-/
import Derived.Test.YteojnmgpnejamaaDoorAwake
namespace Go.Proofs.YteojnmgpnejamaaDoor
open Go.RowKit

theorem openedOf_length (b : List UInt8) : (openedOf b).2.2.length ≤ b.length := by
  unfold openedOf
  split
  · split
    · show (bodyOf b).length ≤ _
      unfold bodyOf
      rw [List.length_take, List.length_drop]
      omega
    · simp
  · simp

set_option maxRecDepth 100000 in
set_option maxHeartbeats 2000000 in
theorem back_walk (k : UInt8) (l m : List UInt8) (x y : Value) (w : World) (ht : Tab w) (hx : Rd w w.heap.size x l) (hy : Rd w w.heap.size y m) (hl : l.length ≤ 140737488351232) (hm : m.length ≤ 140737488351232) :
    Calls Tryd.prog 6 #[.int .u8 (k.toNat : Int), x, y] w fun e w' => e = .returned (.bool true) ∧ Below w.heap.size w w' := by
  have HX := Lib.hid hx
  have HY := Lib.hid hy
  obtain ⟨A, c, rfl, -⟩ := hx
  obtain ⟨A2, c2, rfl, -⟩ := hy
  by_cases hbig : 20000 < l.length
  · have t1 : ((20000 : Int) < (l.length : Int)) = True := by simp; omega
    go_enter Tryd.func6, Tryd.ntmps6
    go_wp2_with fail
    refine (awake_any _ ht).mono ?_
    rintro e w1 ⟨rfl, hb1⟩
    go_wp2_with fail
    go_ret
    exact ⟨rfl, hb1⟩
  · have t1 : ((20000 : Int) < (l.length : Int)) = False := by simp; omega
    by_cases hbig2 : 20000 < m.length
    · have t2 : ((20000 : Int) < (m.length : Int)) = True := by simp; omega
      go_enter Tryd.func6, Tryd.ntmps6
      go_wp2_with fail
      refine (awake_any _ ht).mono ?_
      rintro e w1 ⟨rfl, hb1⟩
      go_wp2_with fail
      go_ret
      exact ⟨rfl, hb1⟩
    · have t2 : ((20000 : Int) < (m.length : Int)) = False := by simp; omega
      go_enter Tryd.func6, Tryd.ntmps6
      go_wp2_with fail
      refine (awake_any _ ht).mono ?_
      rintro e w1 ⟨rfl, hb1⟩
      go_wp2_with fail
      refine (seal_any k l _ _ (ht.below hb1 ht.1) (HX.out.below hb1 hb1.size) (by omega)).mono ?_
      rintro e w2 ⟨v2, n2, rfl, ho2, hb2⟩
      have hb2' := hb1.trans (hb2.mono hb1.size)
      clear hb1 hb2
      have key : l.length ≤ 8192 ∨ 8192 < l.length := by omega
      rcases key with hsm | hsm
      case' inl =>
        have hs : sealedOf k l = (0, frame k l) := if_neg (by omega)
        rw [hs] at ho2 ⊢
        clear hs
        go_wp2_with fail
        have c1 := open_any (frame k l) v2 _ (ht.below hb2' ht.1) (Rd.own ho2) (by rw [frame_length]; omega)
        unfold OpenedPost at c1
        rw [opened_frame k l hsm] at c1
        refine c1.mono ?_
        rintro e w3 ⟨v3, n3, rfl, ho3, hb3⟩
        have hb3' := hb2'.trans (hb3.mono hb2'.size)
        have hkk : ((k.toNat : Int) != (k.toNat : Int)) = false := by simp
        clear c1 ho2 hb2' hb3
        go_wp2_with fail
        refine (same_any l l v3 _ _ (Rd.own ho3) (HX.out.below hb3' hb3'.size) (by omega) (by omega)).mono ?_
        rintro e w4 ⟨rfl, hb4⟩
        have hbx := hb3'.trans (hb4.mono hb3'.size)
        rw [show decide (l = l) = true by simp]
        clear hb4 hb3' ho3 hkk
        go_wp2_with fail
      case' inr =>
        have hs : sealedOf k l = (40, []) := if_pos (by omega)
        rw [hs]
        have hbx := hb2'
        clear hs ho2 hb2'
        go_wp2_with fail
      all_goals
        refine (open_any m _ _ (ht.below hbx ht.1) (HY.out.below hbx hbx.size) (by omega)).mono ?_
        rintro e w5 ⟨v5, n5, rfl, ho5, hb5⟩
        have hb5' := hbx.trans (hb5.mono hbx.size)
        have hlen := openedOf_length m
        obtain ⟨r, hr⟩ : ∃ r, openedOf m = r := ⟨_, rfl⟩
        rw [hr] at ho5 hlen ⊢
        obtain ⟨er, kr, lr⟩ := r
        have HR := Lib.hid hr
        clear hr hb5 hbx
        by_cases h0 : er = 0
        · subst h0
          obtain ⟨hl8, hfr⟩ := frame_opened HR.out
          have hs : sealedOf kr lr = (0, m) := (if_neg (by omega)).trans (by rw [hfr])
          have HS := Lib.hid hs
          clear hfr hs
          go_wp2_with fail
          have c2 := seal_any kr lr v5 _ (ht.below hb5' ht.1) (Rd.own ho5) (by omega)
          unfold SealedPost at c2
          rw [HS.out] at c2
          refine c2.mono ?_
          rintro e w6 ⟨v6, n6, rfl, ho6, hb6⟩
          have hb6' := hb5'.trans (hb6.mono hb5'.size)
          clear c2 ho5 hb5' hb6
          go_wp2_with fail
          refine (same_any m m v6 _ _ (Rd.own ho6) (HY.out.below hb6' hb6'.size) (by omega) (by omega)).mono ?_
          rintro e w7 ⟨rfl, hb7⟩
          rw [show decide (m = m) = true by simp]
          go_wp2_with fail
          go_ret
          exact ⟨rfl, hb6'.trans (hb7.mono hb6'.size)⟩
        · have h0' : (er != 0) = true := by simpa using h0
          go_wp2_with fail
          go_ret
          exact ⟨rfl, hb5'⟩
end Go.Proofs.YteojnmgpnejamaaDoor
