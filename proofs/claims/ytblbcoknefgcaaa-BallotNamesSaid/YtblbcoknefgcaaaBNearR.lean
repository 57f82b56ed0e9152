/-
  Whether two lists are unlike by one at most, and are the same: the document's. No statement is proved here. No condition.
-/
import Derived.Test.YtblbcoknefgcaaaBNear
namespace Go.Proofs.Ytblbcoknefgcaaa
open Go.RowKit

/-- how many of a list others have not -/
def cntNo (r l : List Int) : Nat := (l.filter fun x => !hasI r x).length
theorem cntNo_le (r l : List Int) : cntNo r l ≤ l.length := List.length_filter_le _ _
theorem cntNo_snoc {r l : List Int} {k : Nat} {x : Int} (h : l[k]? = some x) : cntNo r (l.take (k + 1)) = cntNo r (l.take k) + (if hasI r x = true then 0 else 1) := by
  unfold cntNo
  rw [filter_snoc _ h]
  cases hasI r x <;> rfl
theorem cntNo_lack (a b : List Int) : cntNo (wo [] b) (wo [] a) = lack a b := lack_count a b
/-- are two lists the same -/
def sameI (l m : List Int) : Bool := decide (l = m)
set_option maxHeartbeats 1000000 in
theorem intsR_any (l m : List Int) (a b : Value) (w : World) (ha : inR.N w Any a l) (hb : inR.N w Any b m) :
    Calls Try.prog 35 #[a, b] w fun e w' => e = .returned (.bool (sameI l m)) ∧ Below w.heap.size w w' := by
  obtain ⟨A, c, rfl, hlc, hcm⟩ := ha.slice
  obtain ⟨A2, c2, rfl, hlc2, hcm2⟩ := hb.slice
  have hl : l.length ≤ maxLen := Nat.le_trans hlc hcm
  unfold maxLen at hl
  have HA := Lib.hid ha
  have HB := Lib.hid hb
  have HB0 : Hid (Below w.heap.size w w) := Lib.hid (Below.refl _ _)
  clear ha hb hlc hcm hlc2 hcm2
  by_cases hlen : l.length = m.length
  case neg =>
    have n2 : ((l.length : Int) != (m.length : Int)) = true := by simp; omega
    have HF : Hid (sameI l m = false) := Lib.hid (by unfold sameI; rw [decide_eq_false_iff_not]; intro e; exact hlen (by rw [e]))
    have n3 : ¬ (l.length : Int) = (m.length : Int) := by omega
    clear hlen
    go_enter Try.func35, Try.ntmps35
    go_wp2_with fail
    go_ret
    exact ⟨by rw [HF.out] <;> rfl, HB0.out⟩
  have HLN := Lib.hid hlen
  rw [← hlen] at HB ⊢
  clear hlen
  go_enter Try.func35, Try.ntmps35
  go_wp2_with fail
  go_loopw [5] (fun s5 wr => ∃ i : Nat, s5 = .int .i64 (i : Int) ∧ i ≤ l.length ∧ Hid (l.take i = m.take i ∧ Below w.heap.size w wr)) (fun s5 _ => l.length - (RowKit.intOf s5).toNat)
  case atStart => exact ⟨0, rfl, Nat.zero_le _, Lib.hid ⟨rfl, HB0.out⟩⟩
  case round =>
    clear HB0
    obtain ⟨i, rfl, hi, hs⟩ := hrel
    obtain ⟨wz, hwz⟩ : ∃ wz : World, wz = wr := ⟨_, rfl⟩
    subst hwz
    by_cases hil : i < l.length
    · have a1 : (i : Int) < (l.length : Int) := by omega
      have a0 : (0 : Int) ≤ (i : Int) := by omega
      obtain ⟨x, hx⟩ : ∃ x, l[i]? = some x := ⟨_, List.getElem?_eq_getElem hil⟩
      obtain ⟨y, hy⟩ : ∃ y, m[i]? = some y := ⟨_, List.getElem?_eq_getElem (by rw [← HLN.out]; exact hil)⟩
      obtain ⟨g, o, rfl, y0⟩ := in_cell (HA.out.grow hs.out.2) hx
      have hbz : inR.N wz Any (.slice A2 m.length c2) m := by have := HB.out.grow hs.out.2; rw [HLN.out] at this; exact this
      obtain ⟨g', o', rfl, z0⟩ := in_cell hbz hy
      have HXY := Lib.hid (And.intro hx hy)
      clear hx hy hbz
      by_cases hxy : x = y
      · have q1 : (x != y) = false := by simpa using hxy
        have HN : Hid (l.take (i + 1) = m.take (i + 1)) := Lib.hid (by rw [take_snoc HXY.out.1, take_snoc HXY.out.2, hs.out.1, hxy])
        have HD := Lib.hid hs.out.2
        clear hxy hs
        go_upto_region 6 with fail
        go_quiet (fail)
        have HN2 : Hid (l.take (i + 1) = m.take (i + 1) ∧ Below w.heap.size w (wz.drewN nq)) := Lib.hid ⟨HN.out, drewB _ HD.out⟩
        go_wp2_with fail
        exact ⟨⟨i + 1, by go_num, by omega, HN2⟩, by simp [RowKit.intOf]; omega⟩
      · have q1 : (x != y) = true := by simpa using hxy
        have HF : Hid (sameI l m = false) := Lib.hid (by
          unfold sameI
          rw [decide_eq_false_iff_not]
          intro e
          have := HXY.out
          rw [e] at this
          exact hxy (Option.some.inj (this.1.symm.trans this.2)))
        have HD := Lib.hid hs.out.2
        clear hxy hs
        go_upto_region 6 with fail
        go_quiet (fail)
        have HN2 : Hid (Below w.heap.size w (wz.drewN nq)) := Lib.hid (drewB _ HD.out)
        go_wp2_with fail
        go_ret
        exact ⟨by rw [HF.out] <;> rfl, HN2.out⟩
    · have a1 : ¬ (i : Int) < (l.length : Int) := by omega
      have HF : Hid (sameI l m = true) := Lib.hid (by
        unfold sameI
        rw [decide_eq_true_eq]
        have := hs.out.1
        rwa [List.take_of_length_le (by omega), List.take_of_length_le (by have := HLN.out; omega)] at this)
      go_wp2_with fail
      go_ret
      exact ⟨by rw [HF.out] <;> rfl, hs.out.2⟩
end Go.Proofs.Ytblbcoknefgcaaa
