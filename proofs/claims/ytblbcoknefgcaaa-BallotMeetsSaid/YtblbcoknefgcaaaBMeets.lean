/-
  Two majorities meet: the law, walked. No statement is proved here. No condition.
-/
import Derived.Test.YtblbcoknefgcaaaBMeetsP
import Derived.Test.YtblbcoknefgcaaaBWon
import Derived.Test.YtblbcoknefgcaaaBTurns
namespace Go.Proofs.Ytblbcoknefgcaaa
open Go.RowKit

theorem rise_i6 {l : List Int} (h : rise 0 l = true) : ∀ x ∈ l, I6 x := fun x hx => by
  have := rise_bound h x hx
  exact i6_of (by omega) (by omega)
theorem rise_len {l : List Int} (h : rise 0 l = true) : l.length ≤ 5 := by
  rw [rise_pick h]
  exact Nat.le_trans (List.length_filter_le _ _) (by decide)
set_option maxHeartbeats 4000000 in
set_option maxRecDepth 100000 in
theorem meet_any (x y a b : List Int) (vx vy va vb : Value) (w : World) (hx : inR.N w Any vx x) (hy : inR.N w Any vy y) (ha : inR.N w Any va a) (hb : inR.N w Any vb b) (rx : rise 0 x = true) (ry : rise 0 y = true) (hn : near x y = true) (la : a.length ≤ 1000) (lb : b.length ≤ 1000) (wa : ∀ v ∈ a, I6 v) (wb : ∀ v ∈ b, I6 v) :
    Calls Try.prog 37 #[vx, vy, va, vb] w fun e w' => e = .returned (.bool true) ∧ Below w.heap.size w w' := by
  obtain ⟨Ax, cx, rfl, -, -⟩ := hx.slice
  obtain ⟨Ay, cy, rfl, -, -⟩ := hy.slice
  obtain ⟨Aa, ca, rfl, -, -⟩ := ha.slice
  obtain ⟨Ab, cb, rfl, -, -⟩ := hb.slice
  have lx := rise_len rx
  have ly := rise_len ry
  have c1 := won_any x a _ _ w hx ha (by omega) la (rise_i6 rx) wa
  have H := Lib.hid (And.intro hx (And.intro hy (And.intro ha hb)))
  have HM : Hid (won x a = true → won y b = true → ∃ v ∈ x, hasI a v = true ∧ hasI b v = true ∧ hasI y v = true) := Lib.hid fun h1 h2 => meets rx ry hn h1 h2
  have HR := Lib.hid (And.intro rx (And.intro ry (And.intro wa wb)))
  clear hx hy ha hb rx ry hn wa wb
  go_enter Try.func37, Try.ntmps37
  go_wp2_with fail
  refine c1.mono ?_
  rintro e w1 ⟨rfl, hb1⟩
  clear c1
  have HB1 := Lib.hid hb1
  clear hb1
  cases h1 : won x a
  · clear h1
    go_wp2_with fail
    go_ret
    exact ⟨rfl, HB1.out⟩
  have H1 := Lib.hid h1
  clear h1
  have c2 := won_any y b _ _ w1 (H.out.2.1.grow HB1.out) (H.out.2.2.2.grow HB1.out) (by omega) lb (rise_i6 HR.out.2.1) HR.out.2.2.2
  go_wp2_with fail
  refine c2.mono ?_
  rintro e w2 ⟨rfl, hb2⟩
  clear c2
  have HB2 := Lib.hid (HB1.out.trans (Joins.below_le hb2 HB1.out.size))
  clear hb2 HB1
  cases h2 : won y b
  · clear h2
    go_wp2_with fail
    go_ret
    exact ⟨rfl, HB2.out⟩
  have HV := Lib.hid (HM.out H1.out h2)
  clear h2 H1 HM
  have HX := Lib.hid (H.out.1.grow HB2.out)
  have HY := Lib.hid (H.out.2.1.grow HB2.out)
  have HA := Lib.hid (H.out.2.2.1.grow HB2.out)
  have HB := Lib.hid (H.out.2.2.2.grow HB2.out)
  clear H
  go_wp2_with fail
  go_loop [9] (fun s9 => ∃ i : Nat, s9 = .int .i64 (i : Int) ∧ i ≤ x.length ∧ Hid (∀ j v, j < i → x[j]? = some v → ¬ (hasI a v = true ∧ hasI b v = true ∧ hasI y v = true))) (fun s9 => x.length - (RowKit.intOf s9).toNat)
  case atStart => exact ⟨0, rfl, Nat.zero_le _, Lib.hid fun j v hj => absurd hj (Nat.not_lt_zero _)⟩
  case round =>
    obtain ⟨i, rfl, hi, hs⟩ := hrel
    by_cases hil : i < x.length
    · have a1 : (i : Int) < (x.length : Int) := by omega
      have a0 : (0 : Int) ≤ (i : Int) := by omega
      obtain ⟨v, hv⟩ : ∃ v, x[i]? = some v := ⟨_, List.getElem?_eq_getElem hil⟩
      obtain ⟨g, o, rfl, y0⟩ := in_cell HX.out hv
      have cA := has_any a _ v w2 HA.out
      have cB := has_any b _ v w2 HB.out
      have cY := has_any y _ v w2 HY.out
      have hnext : ¬ (hasI a v = true ∧ hasI b v = true ∧ hasI y v = true) → Hid (∀ j u, j < i + 1 → x[j]? = some u → ¬ (hasI a u = true ∧ hasI b u = true ∧ hasI y u = true)) := fun h => Lib.hid fun j u hj hu => by
        by_cases hji : j = i
        · subst hji
          have := Option.some.inj (hu.symm.trans hv)
          subst this
          exact h
        · exact hs.out j u (by omega) hu
      have HN := Lib.hid hnext
      clear hv hnext hs
      cases h1 : hasI a v
      · rw [h1] at cA
        have HF := HN.out (by rw [h1]; simp)
        clear h1 HN cB cY
        go_wp2_with fail
        refine cA.mono ?_
        rintro e w' ⟨rfl, rfl⟩
        clear cA
        go_wp2_with fail
        go_round
        case rel => exact ⟨i + 1, by go_num, by omega, HF⟩
        case measure => simp [RowKit.intOf]; omega
      rw [h1] at cA
      cases h2 : hasI b v
      · rw [h2] at cB
        have HF := HN.out (by rw [h2]; simp)
        clear h1 h2 HN cY
        go_wp2_with fail
        refine cA.mono ?_
        rintro e w' ⟨rfl, rfl⟩
        clear cA
        go_wp2_with fail
        refine cB.mono ?_
        rintro e w' ⟨rfl, rfl⟩
        clear cB
        go_wp2_with fail
        go_round
        case rel => exact ⟨i + 1, by go_num, by omega, HF⟩
        case measure => simp [RowKit.intOf]; omega
      rw [h2] at cB
      cases h3 : hasI y v
      · rw [h3] at cY
        have HF := HN.out (by rw [h3]; simp)
        clear h1 h2 h3 HN
        go_wp2_with fail
        refine cA.mono ?_
        rintro e w' ⟨rfl, rfl⟩
        clear cA
        go_wp2_with fail
        refine cB.mono ?_
        rintro e w' ⟨rfl, rfl⟩
        clear cB
        go_wp2_with fail
        refine cY.mono ?_
        rintro e w' ⟨rfl, rfl⟩
        clear cY
        go_wp2_with fail
        go_round
        case rel => exact ⟨i + 1, by go_num, by omega, HF⟩
        case measure => simp [RowKit.intOf]; omega
      rw [h3] at cY
      clear h1 h2 h3 HN
      go_wp2_with fail
      refine cA.mono ?_
      rintro e w' ⟨rfl, rfl⟩
      clear cA
      go_wp2_with fail
      refine cB.mono ?_
      rintro e w' ⟨rfl, rfl⟩
      clear cB
      go_wp2_with fail
      refine cY.mono ?_
      rintro e w' ⟨rfl, rfl⟩
      clear cY
      go_wp2_with fail
      go_ret
      exact ⟨rfl, HB2.out⟩
    · exfalso
      obtain ⟨v, hv, hh⟩ := HV.out
      obtain ⟨j, hj⟩ := List.mem_iff_getElem?.1 hv
      exact hs.out j v (by have := (List.getElem?_eq_some_iff.1 hj).1; omega) hj hh
set_option maxHeartbeats 4000000 in
set_option maxRecDepth 100000 in
theorem meets_walk (cW : ∀ W, Calls Try.prog 23 #[] W fun e w' => e = .returned (.bool true) ∧ Below W.heap.size W w') (x a b : List Int) (vx va vb : Value) (s : Int) (w : World) (hx : inR.N w Any vx x) (ha : inR.N w Any va a) (hb : inR.N w Any vb b) (hxl : x.length ≤ 17592186044416) (hal : a.length ≤ 17592186044416) (hbl : b.length ≤ 17592186044416) (wa : ∀ v ∈ a, I6 v) (wb : ∀ v ∈ b, I6 v) :
    Calls Try.prog 10 #[vx, .int .i64 s, va, vb] w fun e w' => e = .returned (.bool true) ∧ Below w.heap.size w w' := by
  obtain ⟨Ax, cx, rfl, -, -⟩ := hx.slice
  obtain ⟨Aa, ca, rfl, -, -⟩ := ha.slice
  obtain ⟨Ab, cb, rfl, -, -⟩ := hb.slice
  have H := Lib.hid (And.intro hx (And.intro ha (And.intro hb (And.intro wa wb))))
  have cW0 := cW w
  clear hx ha hb wa wb
  go_enter Try.func10, Try.ntmps10
  go_wp2_with fail
  refine cW0.mono ?_
  rintro e w1 ⟨rfl, hb1⟩
  clear cW0
  have HB1 := Lib.hid hb1
  clear hb1
  have cL := long_any a b Aa Ab ca cb w1 hal hbl
  go_wp2_with fail
  refine cL.mono ?_
  rintro e w' ⟨rfl, rfl⟩
  clear cL
  have hdone : ∀ w1', Below w.heap.size w w1' → Calls Try.prog 23 #[] w1' fun e w' => e = .returned (.bool true) ∧ Below w.heap.size w w' := fun w1' hb => (cW w1').mono fun e w' ⟨he, hb'⟩ => ⟨he, hb.trans (Joins.below_le hb' hb.size)⟩
  have cF := hdone w1 HB1.out
  clear hdone cW
  cases hlong : longB a b
  case true =>
    clear hlong
    go_wp2_with fail
    refine cF.mono ?_
    rintro e w2 ⟨rfl, hb2⟩
    clear cF
    have HF := Lib.hid hb2
    clear hb2
    go_wp2_with fail
    go_ret
    exact ⟨rfl, HF.out⟩
  have hlg : ¬ ((a.length : Int) > 200 ∨ (b.length : Int) > 200) := of_decide_eq_false hlong
  have la : a.length ≤ 1000 := by omega
  have lb : b.length ≤ 1000 := by omega
  clear hlong hlg
  have cC := check_any x _ w1 (H.out.1.grow HB1.out)
  cases hk : chk x
  · rw [hk] at cC
    clear hk
    go_wp2_with fail
    refine cC.mono ?_
    rintro e w' ⟨rfl, rfl⟩
    clear cC
    go_wp2_with fail
    refine cF.mono ?_
    rintro e w2 ⟨rfl, hb2⟩
    clear cF
    have HF := Lib.hid hb2
    clear hb2
    go_wp2_with fail
    go_ret
    exact ⟨rfl, HF.out⟩
  rw [hk] at cC
  obtain ⟨k0, k5, kr⟩ := chk_len hk
  obtain ⟨sm, hs4, hsm⟩ : ∃ sm : Nat, sm ≤ 4 ∧ (IntKind.u64.wrap s).tmod 5 = (sm : Int) := by
    have hw : 0 ≤ IntKind.u64.wrap s := by rw [show IntKind.u64.wrap s = s % 18446744073709551616 by simp [IntKind.wrap, IntKind.bits, IntKind.signed]]; omega
    have h1 := Int.tmod_lt_of_pos (IntKind.u64.wrap s) (show (0 : Int) < 5 by omega)
    have h2 := Int.tmod_nonneg (5 : Int) hw
    exact ⟨((IntKind.u64.wrap s).tmod 5).toNat, by omega, by omega⟩
  have hsf : wrap64 (1 + wrap64 ((IntKind.u64.wrap s).tmod 5)) = ((sm + 1 : Nat) : Int) := by
    rw [hsm]
    unfold wrap64
    omega
  obtain ⟨st, hst⟩ : ∃ st : Int, st = ((sm + 1 : Nat) : Int) := ⟨_, rfl⟩
  rw [← hst] at hsf
  have hsS : isS st = true := by simp [isS]; omega
  have HSF := Lib.hid hsf
  have cT := turn_any x st _ w1 (H.out.1.grow HB1.out) (by omega)
  have hall := near_all x (rise_all kr)
  obtain ⟨hxx, hxs⟩ := hall
  obtain ⟨hn1, hn2, hrs⟩ := hxs st (isS_mem hsS)
  have HO : Hid (turnO x st = turnL x st ∧ turnE x st = if turnL x st = [] then 50 else 0) := Lib.hid ⟨by unfold turnO; rw [hk, hsS]; rfl, by unfold turnE; rw [hk, hsS]; rfl⟩
  have HK := Lib.hid (And.intro kr (And.intro hxx (And.intro hn1 (And.intro hn2 hrs))))
  clear hk hs4 hsm hsf hst hsS kr hxx hxs hn1 hn2 hrs cF
  go_wp2_with fail
  refine cC.mono ?_
  rintro e w' ⟨rfl, rfl⟩
  clear cC
  go_wp2_with fail
  rw [HSF.out]
  clear HSF
  refine cT.mono ?_
  rintro e w2 hT
  clear cT
  obtain ⟨⟨A3, c3, rfl, ho3⟩, hb3⟩ := hT
  have HO3 := Lib.hid (And.intro ho3 (HB1.out.trans (Joins.below_le hb3 HB1.out.size)))
  have HX2 := Lib.hid ((H.out.1.grow HB1.out).grow hb3)
  obtain ⟨n, hn⟩ : ∃ n, n = (turnO x st).length := ⟨_, rfl⟩
  obtain ⟨en, hen⟩ : ∃ en, en = turnE x st := ⟨_, rfl⟩
  rw [← hn, ← hen]
  have HN := Lib.hid (And.intro hn hen)
  clear ho3 hb3 hn hen
  go_upto_if 35 with fail
  go_cut [9] (fun s9 wx => ∃ (y : List Int) (Ay : Option Addr) (cy : Nat), s9 = .slice Ay y.length cy ∧ wx = w2 ∧ Hid (inR.N w2 Any (.slice Ay y.length cy) y ∧ rise 0 y = true ∧ near x y = true ∧ near y x = true))
  case first =>
    by_cases h0 : turnL x st = []
    · have h1 : en = 50 := by rw [HN.out.2, HO.out.2, if_pos h0]
      have HF : Hid (inR.N w2 Any (.slice Ax x.length cx) x ∧ rise 0 x = true ∧ near x x = true ∧ near x x = true) := Lib.hid ⟨HX2.out, HK.out.1, HK.out.2.1, HK.out.2.1⟩
      clear h0
      subst h1
      go_wp2_with fail
      go_meet
      exact ⟨x, Ax, cx, rfl, rfl, HF⟩
    · have h1 : en = 0 := by rw [HN.out.2, HO.out.2, if_neg h0]
      have hn2 : n = (turnL x st).length := by rw [HN.out.1, HO.out.1]
      have HF : Hid (inR.N w2 Any (.slice A3 (turnL x st).length c3) (turnL x st) ∧ rise 0 (turnL x st) = true ∧ near x (turnL x st) = true ∧ near (turnL x st) x = true) := Lib.hid ⟨by have := HO3.out.1.n.any; rw [HO.out.1] at this; exact this, HK.out.2.2.2.2, HK.out.2.2.1, HK.out.2.2.2.1⟩
      have HN2 := Lib.hid hn2
      clear h0 hn2
      subst h1
      go_wp2_with fail
      go_meet
      exact ⟨turnL x st, A3, c3, by rw [HN2.out], rfl, HF⟩
  case rest =>
    obtain ⟨y, Ay, cy, rfl, hwc, hy⟩ := hcut
    obtain ⟨wy, hwy⟩ : ∃ wy : World, wy = wc := ⟨_, rfl⟩
    rw [← hwy] at hwc ⊢
    subst hwc
    clear hwy HN HO
    have ly := rise_len hy.out.2.1
    have HB2 := Lib.hid HO3.out.2
    have HA2 : Hid (inR.N wy Any (.slice Aa a.length ca) a ∧ inR.N wy Any (.slice Ab b.length cb) b) := Lib.hid ⟨H.out.2.1.kept (fun _ _ h => trivial) HB2.out.size (fun b _ hb => HB2.out.block b hb), H.out.2.2.1.kept (fun _ _ h => trivial) HB2.out.size (fun b _ hb => HB2.out.block b hb)⟩
    clear HO3
    have ry := rise_i6 hy.out.2.1
    have rx := rise_i6 HK.out.1
    have RXY := Lib.hid (And.intro rx ry)
    clear rx ry
    have c1 := near_any x y _ _ wy HX2.out hy.out.1 (by omega) (by omega) RXY.out.1 RXY.out.2
    rw [hy.out.2.2.1] at c1
    go_wp2_with fail
    refine c1.mono ?_
    rintro e w3 ⟨rfl, hb3⟩
    clear c1
    have HB3 := Lib.hid hb3
    clear hb3
    have c1 := near_any y x _ _ w3 (hy.out.1.grow HB3.out) (HX2.out.grow HB3.out) (by omega) (by omega) RXY.out.2 RXY.out.1
    rw [hy.out.2.2.2] at c1
    go_wp2_with fail
    refine c1.mono ?_
    rintro e w4 ⟨rfl, hb4⟩
    clear c1
    have HB4 := Lib.hid (HB3.out.trans (Joins.below_le hb4 HB3.out.size))
    clear hb4 HB3
    have c1 := near_any x x _ _ w4 (HX2.out.grow HB4.out) (HX2.out.grow HB4.out) (by omega) (by omega) RXY.out.1 RXY.out.1
    rw [HK.out.2.1] at c1
    go_wp2_with fail
    refine c1.mono ?_
    rintro e w5 ⟨rfl, hb5⟩
    clear c1
    have HB5 := Lib.hid (HB4.out.trans (Joins.below_le hb5 HB4.out.size))
    clear hb5 HB4
    have c1 := meet_any x x a b _ _ _ _ w5 (HX2.out.grow HB5.out) (HX2.out.grow HB5.out) (HA2.out.1.grow HB5.out) (HA2.out.2.grow HB5.out) HK.out.1 HK.out.1 HK.out.2.1 la lb H.out.2.2.2.1 H.out.2.2.2.2
    go_wp2_with fail
    refine c1.mono ?_
    rintro e w6 ⟨rfl, hb6⟩
    clear c1
    have HB6 := Lib.hid (HB5.out.trans (Joins.below_le hb6 HB5.out.size))
    clear hb6 HB5
    have c1 := meet_any x y a b _ _ _ _ w6 (HX2.out.grow HB6.out) (hy.out.1.grow HB6.out) (HA2.out.1.grow HB6.out) (HA2.out.2.grow HB6.out) HK.out.1 hy.out.2.1 hy.out.2.2.1 la lb H.out.2.2.2.1 H.out.2.2.2.2
    go_wp2_with fail
    refine c1.mono ?_
    rintro e w7 ⟨rfl, hb7⟩
    clear c1
    have HB7 := Lib.hid (HB6.out.trans (Joins.below_le hb7 HB6.out.size))
    clear hb7 HB6
    have c1 := meet_any y x a b _ _ _ _ w7 (hy.out.1.grow HB7.out) (HX2.out.grow HB7.out) (HA2.out.1.grow HB7.out) (HA2.out.2.grow HB7.out) hy.out.2.1 HK.out.1 hy.out.2.2.2 la lb H.out.2.2.2.1 H.out.2.2.2.2
    go_wp2_with fail
    refine c1.mono ?_
    rintro e w8 ⟨rfl, hb8⟩
    clear c1
    have HF := Lib.hid (HB2.out.trans (Joins.below_le (HB7.out.trans (Joins.below_le hb8 HB7.out.size)) HB2.out.size))
    clear hb8 HB7
    go_wp2_with fail
    go_ret
    exact ⟨rfl, HF.out⟩
end Go.Proofs.Ytblbcoknefgcaaa
