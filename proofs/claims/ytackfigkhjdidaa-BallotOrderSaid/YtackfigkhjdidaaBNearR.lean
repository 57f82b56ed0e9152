/-
  Whether two lists are unlike by one at most, and are the same: the document's. No statement is proved here. No condition.
-/
import Derived.Test.YtackfigkhjdidaaBNear
namespace Go.Proofs.Ytackfigkhjdidaa
open Go.RowKit

/-- how many of a list others have not -/
def cntNo (r l : List Int) : Nat := (l.filter fun x => !hasI r x).length
theorem cntNo_le (r l : List Int) : cntNo r l ≤ l.length := List.length_filter_le _ _
theorem cntNo_snoc {r l : List Int} {k : Nat} {x : Int} (h : l[k]? = some x) : cntNo r (l.take (k + 1)) = cntNo r (l.take k) + (if hasI r x = true then 0 else 1) := by
  unfold cntNo
  rw [filter_snoc _ h]
  cases hasI r x <;> rfl
theorem cntNo_lack (a b : List Int) : cntNo (wo [] b) (wo [] a) = lack a b := lack_count a b
set_option maxHeartbeats 4000000 in
theorem nearR_any (l m : List Int) (a b : Value) (w : World) (ha : inR.N w Any a l) (hb : inR.N w Any b m) (hl : l.length ≤ 1000) (hm : m.length ≤ 1000) :
    Calls Try.prog 44 #[a, b] w fun e w' => e = .returned (.bool (near l m)) ∧ Below w.heap.size w w' := by
  have c1 := onceR_any l a w ha hl
  have H := Lib.hid (And.intro ha hb)
  have HF0 : Hid (near l m = decide ((cntNo (wo [] m) (wo [] l) : Int) + (cntNo (wo [] l) (wo [] m) : Int) < 2)) := Lib.hid (by
    rw [cntNo_lack, cntNo_lack]
    unfold near
    rw [Bool.eq_iff_iff]
    simp only [decide_eq_true_eq]
    omega)
  clear ha hb
  go_enter Try.func44, Try.ntmps44
  go_wp2_with fail
  refine c1.mono ?_
  rintro e w1 ⟨v1, rfl, ho1, hb1⟩
  clear c1
  obtain ⟨A1, k1, rfl⟩ := ho1.slice
  have c2 := onceR_any m b w1 (H.out.2.grow hb1) hm
  have HB1 := Lib.hid (And.intro ho1 hb1)
  have hl1 : (wo [] l).length ≤ 1000 := Nat.le_trans (wo_len _ _) hl
  clear hb1 ho1
  go_wp2_with fail
  refine c2.mono ?_
  rintro e w2 ⟨v2, rfl, ho2, hb2⟩
  clear c2
  obtain ⟨A2, k2, rfl⟩ := ho2.slice
  have HB := Lib.hid (HB1.out.2.trans (Joins.below_le hb2 HB1.out.2.size))
  have HX := Lib.hid (HB1.out.1.n.any.grow hb2)
  have HY := Lib.hid ho2.n.any
  have hl2 : (wo [] m).length ≤ 1000 := Nat.le_trans (wo_len _ _) hm
  obtain ⟨r, hr⟩ : ∃ r, r = wo [] l := ⟨_, rfl⟩
  obtain ⟨s, hs⟩ : ∃ s, s = wo [] m := ⟨_, rfl⟩
  rw [← hr, ← hs] at HF0
  rw [← hr] at hl1 HX ⊢
  rw [← hs] at hl2 HY ⊢
  clear hb2 ho2 HB1 hr hs
  go_wp2_with fail
  go_loop [5, 8] (fun s5 s8 => ∃ i : Nat, s8 = .int .i64 (i : Int) ∧ s5 = .int .i64 (cntNo s (r.take i) : Int) ∧ i ≤ r.length) (fun _ s8 => r.length - (RowKit.intOf s8).toNat)
  case atStart => exact ⟨0, rfl, rfl, Nat.zero_le _⟩
  case round =>
    obtain ⟨i, rfl, rfl, hi⟩ := hrel
    obtain ⟨cn, hcn⟩ : ∃ cn, cn = cntNo s (r.take i) := ⟨_, rfl⟩
    have hcl : cn ≤ 1000 := by rw [hcn]; exact Nat.le_trans (cntNo_le _ _) (by rw [List.length_take]; omega)
    rw [← hcn]
    have HCN := Lib.hid hcn
    clear hcn
    by_cases hil : i < r.length
    · have a1 : (i : Int) < (r.length : Int) := by omega
      have a0 : (0 : Int) ≤ (i : Int) := by omega
      obtain ⟨x, hx⟩ : ∃ x, r[i]? = some x := ⟨_, List.getElem?_eq_getElem hil⟩
      obtain ⟨g, o, rfl, y0⟩ := in_cell HX.out hx
      have cH := hasR_any s _ x w2 HY.out
      have hst := cntNo_snoc (r := s) hx
      rw [← HCN.out] at hst
      have HST := Lib.hid hst
      clear hx hst
      go_wp2_with fail
      refine cH.mono ?_
      rintro e w' ⟨rfl, rfl⟩
      clear cH
      cases hc : hasI s x
      · have HL : Hid (cntNo s (r.take (i + 1)) = cn + 1) := Lib.hid (by rw [HST.out, hc]; rfl)
        clear hc
        go_wp2_with fail
        go_round
        case rel => exact ⟨i + 1, by go_num, by rw [HL.out]; go_num, by omega⟩
        case measure => simp [RowKit.intOf]; omega
      · have HL : Hid (cntNo s (r.take (i + 1)) = cn) := Lib.hid (by rw [HST.out, hc]; rfl)
        clear hc
        go_wp2_with fail
        go_round
        case rel => exact ⟨i + 1, by go_num, by rw [HL.out], by omega⟩
        case measure => simp [RowKit.intOf]; omega
    · have a1 : ¬ (i : Int) < (r.length : Int) := by omega
      have HC2 : Hid (cn = cntNo s r) := Lib.hid (by rw [HCN.out, List.take_of_length_le (by omega)])
      clear hi hil
      go_wp2_with fail
      go_loop [5, 9] (fun s5 s9 => ∃ i : Nat, s9 = .int .i64 (i : Int) ∧ s5 = .int .i64 ((cn + cntNo r (s.take i) : Nat) : Int) ∧ i ≤ s.length) (fun _ s9 => s.length - (RowKit.intOf s9).toNat)
      case atStart => exact ⟨0, rfl, rfl, Nat.zero_le _⟩
      case round =>
        obtain ⟨k, rfl, rfl, hk⟩ := hrel
        obtain ⟨dn, hdn⟩ : ∃ dn, dn = cn + cntNo r (s.take k) := ⟨_, rfl⟩
        have hdl : dn ≤ 2000 := by rw [hdn]; have := Nat.le_trans (cntNo_le r (s.take k)) (by rw [List.length_take]; exact Nat.min_le_right _ _); omega
        rw [← hdn]
        have HDN := Lib.hid hdn
        clear hdn
        by_cases hkl : k < s.length
        · have a1 : (k : Int) < (s.length : Int) := by omega
          have a0 : (0 : Int) ≤ (k : Int) := by omega
          obtain ⟨x, hx⟩ : ∃ x, s[k]? = some x := ⟨_, List.getElem?_eq_getElem hkl⟩
          obtain ⟨g, o, rfl, y0⟩ := in_cell HY.out hx
          have cH := hasR_any r _ x w2 HX.out
          have hst := cntNo_snoc (r := r) hx
          have HST := Lib.hid hst
          clear hx hst
          go_wp2_with fail
          refine cH.mono ?_
          rintro e w' ⟨rfl, rfl⟩
          clear cH
          cases hc : hasI r x
          · have HL : Hid (cn + cntNo r (s.take (k + 1)) = dn + 1) := Lib.hid (by rw [HST.out, hc, HDN.out]; rfl)
            clear hc
            go_wp2_with fail
            go_round
            case rel => exact ⟨k + 1, by go_num, by rw [HL.out]; go_num, by omega⟩
            case measure => simp [RowKit.intOf]; omega
          · have HL : Hid (cn + cntNo r (s.take (k + 1)) = dn) := Lib.hid (by rw [HST.out, hc, HDN.out]; rfl)
            clear hc
            go_wp2_with fail
            go_round
            case rel => exact ⟨k + 1, by go_num, by rw [HL.out], by omega⟩
            case measure => simp [RowKit.intOf]; omega
        · have a1 : ¬ (k : Int) < (s.length : Int) := by omega
          have HL : Hid (near l m = decide ((dn : Int) < 2)) := Lib.hid (by
            rw [HF0.out, HDN.out, List.take_of_length_le (by omega), HC2.out]
            push_cast
            rfl)
          go_wp2_with fail
          go_ret
          exact ⟨by rw [HL.out] <;> rfl, HB.out⟩
/-- are two lists the same -/
def sameI (l m : List Int) : Bool := decide (l = m)
set_option maxHeartbeats 1000000 in
theorem intsR_any (l m : List Int) (a b : Value) (w : World) (ha : inR.N w Any a l) (hb : inR.N w Any b m) :
    Calls Try.prog 42 #[a, b] w fun e w' => e = .returned (.bool (sameI l m)) ∧ Below w.heap.size w w' := by
  obtain ⟨A, c, rfl, hlc, hcm⟩ := ha.slice
  obtain ⟨A2, c2, rfl, hlc2, hcm2⟩ := hb.slice
  have hl : l.length ≤ maxLen := Nat.le_trans hlc hcm
  unfold maxLen at hl
  have HA := Lib.hid ha
  have HB := Lib.hid hb
  have HB0 : Hid (Below w.heap.size w w) := Lib.hid (Below.refl _ _)
  clear ha hb hlc hcm hlc2 hcm2
  by_cases hlen : l.length = m.length
  case neg =>
    have n2 : ((l.length : Int) != (m.length : Int)) = true := by simp; omega
    have HF : Hid (sameI l m = false) := Lib.hid (by unfold sameI; rw [decide_eq_false_iff_not]; intro e; exact hlen (by rw [e]))
    have n3 : ¬ (l.length : Int) = (m.length : Int) := by omega
    clear hlen
    go_enter Try.func42, Try.ntmps42
    go_wp2_with fail
    go_ret
    exact ⟨by rw [HF.out] <;> rfl, HB0.out⟩
  have HLN := Lib.hid hlen
  rw [← hlen] at HB ⊢
  clear hlen
  go_enter Try.func42, Try.ntmps42
  go_wp2_with fail
  go_loopw [5] (fun s5 wr => ∃ i : Nat, s5 = .int .i64 (i : Int) ∧ i ≤ l.length ∧ Hid (l.take i = m.take i ∧ Below w.heap.size w wr)) (fun s5 _ => l.length - (RowKit.intOf s5).toNat)
  case atStart => exact ⟨0, rfl, Nat.zero_le _, Lib.hid ⟨rfl, HB0.out⟩⟩
  case round =>
    clear HB0
    obtain ⟨i, rfl, hi, hs⟩ := hrel
    obtain ⟨wz, hwz⟩ : ∃ wz : World, wz = wr := ⟨_, rfl⟩
    subst hwz
    by_cases hil : i < l.length
    · have a1 : (i : Int) < (l.length : Int) := by omega
      have a0 : (0 : Int) ≤ (i : Int) := by omega
      obtain ⟨x, hx⟩ : ∃ x, l[i]? = some x := ⟨_, List.getElem?_eq_getElem hil⟩
      obtain ⟨y, hy⟩ : ∃ y, m[i]? = some y := ⟨_, List.getElem?_eq_getElem (by rw [← HLN.out]; exact hil)⟩
      obtain ⟨g, o, rfl, y0⟩ := in_cell (HA.out.grow hs.out.2) hx
      have hbz : inR.N wz Any (.slice A2 m.length c2) m := by have := HB.out.grow hs.out.2; rw [HLN.out] at this; exact this
      obtain ⟨g', o', rfl, z0⟩ := in_cell hbz hy
      have HXY := Lib.hid (And.intro hx hy)
      clear hx hy hbz
      by_cases hxy : x = y
      · have q1 : (x != y) = false := by simpa using hxy
        have HN : Hid (l.take (i + 1) = m.take (i + 1)) := Lib.hid (by rw [take_snoc HXY.out.1, take_snoc HXY.out.2, hs.out.1, hxy])
        have HD := Lib.hid hs.out.2
        clear hxy hs
        go_upto_region 6 with fail
        go_quiet (fail)
        have HN2 : Hid (l.take (i + 1) = m.take (i + 1) ∧ Below w.heap.size w (wz.drewN nq)) := Lib.hid ⟨HN.out, drewB _ HD.out⟩
        go_wp2_with fail
        exact ⟨⟨i + 1, by go_num, by omega, HN2⟩, by simp [RowKit.intOf]; omega⟩
      · have q1 : (x != y) = true := by simpa using hxy
        have HF : Hid (sameI l m = false) := Lib.hid (by
          unfold sameI
          rw [decide_eq_false_iff_not]
          intro e
          have := HXY.out
          rw [e] at this
          exact hxy (Option.some.inj (this.1.symm.trans this.2)))
        have HD := Lib.hid hs.out.2
        clear hxy hs
        go_upto_region 6 with fail
        go_quiet (fail)
        have HN2 : Hid (Below w.heap.size w (wz.drewN nq)) := Lib.hid (drewB _ HD.out)
        go_wp2_with fail
        go_ret
        exact ⟨by rw [HF.out] <;> rfl, HN2.out⟩
    · have a1 : ¬ (i : Int) < (l.length : Int) := by omega
      have HF : Hid (sameI l m = true) := Lib.hid (by
        unfold sameI
        rw [decide_eq_true_eq]
        have := hs.out.1
        rwa [List.take_of_length_le (by omega), List.take_of_length_le (by have := HLN.out; omega)] at this)
      go_wp2_with fail
      go_ret
      exact ⟨by rw [HF.out] <;> rfl, hs.out.2⟩
end Go.Proofs.Ytackfigkhjdidaa
