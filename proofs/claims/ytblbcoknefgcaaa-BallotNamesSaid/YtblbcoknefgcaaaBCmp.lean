/-
  Numbers and rows of them, held against each other. No statement is proved here. No condition.
-/
import Derived.Test.YtblbcoknefgcaaaBPlain
import Derived.Test.YtblbcoknefgcaaaMPlain
import Derived.BigQuiet
namespace Go.Proofs.Ytblbcoknefgcaaa
open Go.RowKit

def cmpI (x y : Int) : Int := if x < y then -1 else if x > y then 1 else 0
def cmpL : List Int → List Int → Int
  | [], [] => 0
  | [], _ :: _ => -1
  | _ :: _, [] => 1
  | x :: l, y :: m => if x < y then -1 else if x > y then 1 else cmpL l m
theorem cmpL_step {l m : List Int} {i : Nat} {x y : Int} (hx : l[i]? = some x) (hy : m[i]? = some y) : cmpL (l.drop i) (m.drop i) = if x < y then -1 else if x > y then 1 else cmpL (l.drop (i + 1)) (m.drop (i + 1)) := by
  obtain ⟨h1, rfl⟩ := List.getElem?_eq_some_iff.1 hx
  obtain ⟨h2, rfl⟩ := List.getElem?_eq_some_iff.1 hy
  rw [List.drop_eq_getElem_cons h1, List.drop_eq_getElem_cons h2]
  rfl
theorem cmpL_over {l m : List Int} {i : Nat} (h1 : i < l.length) (h2 : m.length ≤ i) : cmpL (l.drop i) (m.drop i) = 1 := by
  rw [List.drop_eq_getElem_cons h1, List.drop_of_length_le h2]
  rfl
theorem cmpL_under {l m : List Int} {i : Nat} (h1 : l.length ≤ i) (h2 : i < m.length) : cmpL (l.drop i) (m.drop i) = -1 := by
  rw [List.drop_eq_getElem_cons h2, List.drop_of_length_le h1]
  rfl
theorem cmpL_done {l m : List Int} {i : Nat} (h1 : l.length ≤ i) (h2 : m.length ≤ i) : cmpL (l.drop i) (m.drop i) = 0 := by
  rw [List.drop_of_length_le h1, List.drop_of_length_le h2]
  rfl
theorem nan_any (x : Int) (w : World) : Calls Try.prog 111 #[.int .i64 x] w fun e w' => e = .returned (.bool false) ∧ w = w' := by
  go_enter Try.func111, Try.ntmps111
  go_wp2_with fail
  go_ret
  exact ⟨by simp, rfl⟩
theorem nanS_any (x : Int) (w : World) : Calls Try.prog 103 #[.int .i64 x] w fun e w' => e = .returned (.bool false) ∧ w = w' := by
  go_enter Try.func103, Try.ntmps103
  go_wp2_with fail
  go_ret
  exact ⟨by simp, rfl⟩
theorem cmpI_any (x y : Int) (w : World) : Calls Try.prog 109 #[.int .i64 x, .int .i64 y] w fun e w' => e = .returned (.int .i64 (cmpI x y)) ∧ w = w' := by
  go_enter Try.func109, Try.ntmps109
  go_wp2_with fail
  refine (nan_any _ _).mono ?_
  rintro e w' ⟨rfl, rfl⟩
  go_wp2_with fail
  refine (nan_any _ _).mono ?_
  rintro e w' ⟨rfl, rfl⟩
  by_cases h1 : x < y
  · have HF := Lib.hid (show cmpI x y = -1 by unfold cmpI; rw [if_pos h1])
    go_wp2_with fail
    go_ret
    exact ⟨by rw [HF.out] <;> rfl, rfl⟩
  · by_cases h2 : x > y
    · have HF := Lib.hid (show cmpI x y = 1 by unfold cmpI; rw [if_neg h1, if_pos h2])
      go_wp2_with fail
      go_ret
      exact ⟨by rw [HF.out] <;> rfl, rfl⟩
    · have HF := Lib.hid (show cmpI x y = 0 by unfold cmpI; rw [if_neg h1, if_neg h2])
      go_wp2_with fail
      go_ret
      exact ⟨by rw [HF.out] <;> rfl, rfl⟩
theorem less_any (x y : Int) (w : World) : Calls Try.prog 102 #[.int .i64 x, .int .i64 y] w fun e w' => e = .returned (.bool (decide (x < y))) ∧ w = w' := by
  by_cases h1 : x < y
  · have HF := Lib.hid (show decide (x < y) = true by simpa using h1)
    go_enter Try.func102, Try.ntmps102
    go_wp2_with (refine (nan_any _ _).mono ?_; rintro e w' ⟨rfl, rfl⟩)
    go_ret
    exact ⟨by rw [HF.out] <;> rfl, rfl⟩
  · have HF := Lib.hid (show decide (x < y) = false by simpa using h1)
    go_enter Try.func102, Try.ntmps102
    go_wp2_with (refine (nan_any _ _).mono ?_; rintro e w' ⟨rfl, rfl⟩)
    go_ret
    exact ⟨by rw [HF.out] <;> rfl, rfl⟩
set_option maxHeartbeats 1000000 in
theorem compare_any (l m : List Int) (a b : Value) (w : World) (ha : inR.N w Any a l) (hb : inR.N w Any b m) :
    Calls Try.prog 76 #[a, b] w fun e w' => e = .returned (.int .i64 (cmpL l m)) ∧ w = w' := by
  obtain ⟨A, c, rfl, hlc, hcm⟩ := ha.slice
  obtain ⟨A2, c2, rfl, hlc2, hcm2⟩ := hb.slice
  have hl : l.length ≤ maxLen := Nat.le_trans hlc hcm
  have hm : m.length ≤ maxLen := Nat.le_trans hlc2 hcm2
  unfold maxLen at hl hm
  have HA := Lib.hid ha
  have HB := Lib.hid hb
  clear ha hb hlc hcm hlc2 hcm2
  go_enter Try.func76, Try.ntmps76
  go_wp2_with fail
  go_loop [5, 6, 7, 8, 11] (fun s5 s6 s7 s8 s11 => ∃ i : Nat, s11 = .int .i64 (i : Int) ∧ i ≤ l.length ∧ i ≤ m.length ∧ Hid (cmpL (l.drop i) (m.drop i) = cmpL l m)) (fun _ _ _ _ s11 => l.length - (intOf s11).toNat)
  case atStart => exact ⟨0, rfl, Nat.zero_le _, Nat.zero_le _, Lib.hid rfl⟩
  case round =>
    obtain ⟨i, rfl, hi, hi2, hs⟩ := hrel
    by_cases hil : i < l.length
    · have a1 : (i : Int) < (l.length : Int) := by omega
      have a0 : (0 : Int) ≤ (i : Int) := by omega
      obtain ⟨x, hx⟩ : ∃ x, l[i]? = some x := ⟨_, List.getElem?_eq_getElem hil⟩
      obtain ⟨g1, o1, n1, k1, hv, -, hg1, hc1⟩ := HA.out.cell hx
      injection hv with v1 v2 v3
      subst v1 v2 v3
      have y0 : w.cell? ⟨g1, o1 + i, none⟩ = some (.int .i64 x) := by simpa [inR] using hc1 0 _ rfl
      have HX := Lib.hid hx
      clear hc1 hx hg1
      by_cases him : i < m.length
      · have b1 : ¬ (i : Int) ≥ (m.length : Int) := by omega
        have b2 : (i : Int) < (m.length : Int) := by omega
        obtain ⟨y, hy⟩ : ∃ y, m[i]? = some y := ⟨_, List.getElem?_eq_getElem him⟩
        obtain ⟨g2, o2, n2, k2, hv, -, hg2, hc2⟩ := HB.out.cell hy
        injection hv with v1 v2 v3
        subst v1 v2 v3
        have z0 : w.cell? ⟨g2, o2 + i, none⟩ = some (.int .i64 y) := by simpa [inR] using hc2 0 _ rfl
        have hst := cmpL_step HX.out hy
        rw [hs.out] at hst
        have HST := Lib.hid hst
        clear hc2 hy hg2 hst hs
        go_wp2_with fail
        refine (cmpI_any _ _ _).mono ?_
        rintro e w' ⟨rfl, rfl⟩
        by_cases h1 : x < y
        · have hc : cmpI x y = -1 := by unfold cmpI; rw [if_pos h1]
          rw [hc]
          have HF := Lib.hid (show cmpL l m = -1 by rw [HST.out, if_pos h1])
          clear hc
          go_wp2_with fail
          go_ret
          exact ⟨by rw [HF.out] <;> rfl, rfl⟩
        · by_cases h2 : x > y
          · have hc : cmpI x y = 1 := by unfold cmpI; rw [if_neg h1, if_pos h2]
            rw [hc]
            have HF := Lib.hid (show cmpL l m = 1 by rw [HST.out, if_neg h1, if_pos h2])
            clear hc
            go_wp2_with fail
            go_ret
            exact ⟨by rw [HF.out] <;> rfl, rfl⟩
          · have hc : cmpI x y = 0 := by unfold cmpI; rw [if_neg h1, if_neg h2]
            rw [hc]
            have HF : Hid (cmpL (l.drop (i + 1)) (m.drop (i + 1)) = cmpL l m) := Lib.hid (by rw [HST.out, if_neg h1, if_neg h2])
            clear hc
            go_wp2_with fail
            go_round
            case rel => exact ⟨i + 1, by go_num, by omega, by omega, HF⟩
            case measure => simp [intOf]; omega
      · have b1 : (i : Int) ≥ (m.length : Int) := by omega
        have HF := Lib.hid (show cmpL l m = 1 by rw [← hs.out]; exact cmpL_over hil (by omega))
        go_wp2_with fail
        go_ret
        exact ⟨by rw [HF.out] <;> rfl, rfl⟩
    · have a1 : ¬ (i : Int) < (l.length : Int) := by omega
      by_cases him : l.length < m.length
      · have b1 : (l.length : Int) < (m.length : Int) := by omega
        have HF := Lib.hid (show cmpL l m = -1 by rw [← hs.out]; exact cmpL_under (by omega) (by omega))
        clear him
        go_wp2_with fail
        go_ret
        exact ⟨by rw [HF.out] <;> rfl, rfl⟩
      · have b1 : ¬ (l.length : Int) < (m.length : Int) := by omega
        have HF := Lib.hid (show cmpL l m = 0 by rw [← hs.out]; exact cmpL_done (by omega) (by omega))
        clear him
        go_wp2_with fail
        go_ret
        exact ⟨by rw [HF.out] <;> rfl, rfl⟩
end Go.Proofs.Ytblbcoknefgcaaa
