/-
  Where a number is in a list that rises: the program's slices.BinarySearch. No statement is proved here. No condition.
-/
import Derived.Test.YtblbcoknefgcaaaBScan
namespace Go.Proofs.Ytblbcoknefgcaaa
open Go.RowKit

set_option maxHeartbeats 1000000 in
theorem search_any (l : List Int) (s : Int) (a : Value) (w : World) (ha : inR.N w Any a l) (hl : l.length ≤ 1000) (hp : l.Pairwise (· < ·)) :
    Calls Try.prog 67 #[a, .int .i64 s] w fun e w' => e = .returned (.tuple #[.int .i64 (place l s : Int), .bool (hasI l s)]) ∧ w = w' := by
  obtain ⟨A, c, rfl, hlc, hcm⟩ := ha.slice
  have HA := Lib.hid ha
  have HP := Lib.hid hp
  have hple := place_le l s
  obtain ⟨p, hpn⟩ : ∃ p, p = place l s := ⟨_, rfl⟩
  rw [← hpn] at hple ⊢
  have HPN := Lib.hid hpn
  clear ha hlc hcm hp hpn
  go_enter Try.func67, Try.ntmps67
  go_wp2_with fail
  go_loop [7, 8, 9] (fun s7 s8 s9 => ∃ i j : Nat, s7 = .int .i64 (i : Int) ∧ s8 = .int .i64 (j : Int) ∧ i ≤ p ∧ p ≤ j ∧ j ≤ l.length) (fun s7 s8 s9 => ((RowKit.intOf s8) - (RowKit.intOf s7)).toNat)
  case atStart => exact ⟨0, l.length, rfl, rfl, Nat.zero_le _, hple, Nat.le_refl _⟩
  case round =>
    obtain ⟨i, j, rfl, rfl, h1, h2, h3⟩ := hrel
    by_cases hij : i < j
    · have a1 : (i : Int) < (j : Int) := by omega
      have a0 : (0 : Int) ≤ (i : Int) := by omega
      obtain ⟨h, hh⟩ : ∃ h : Nat, ((i : Int) + (j : Int)) / 2 = (h : Int) := ⟨(i + j) / 2, by omega⟩
      have b1 : i ≤ h := by omega
      have b2 : h < j := by omega
      have HH := Lib.hid hh
      clear hh
      go_upto_region 5 with fail
      rw [HH.out]
      clear HH
      obtain ⟨x, hx⟩ : ∃ x, l[h]? = some x := ⟨_, List.getElem?_eq_getElem (by omega)⟩
      obtain ⟨g, o, rfl, y0⟩ := in_cell HA.out hx
      have hiff : x < s ↔ h < p := by rw [HPN.out]; exact place_iff HP.out hx
      have HI := Lib.hid hiff
      have e0 : (0 : Int) ≤ (h : Int) := by omega
      have e1 : (h : Int) < (l.length : Int) := by omega
      clear hx hiff
      go_wp2_with fail
      refine (less_any _ _ _).mono ?_
      rintro e w' ⟨rfl, rfl⟩
      by_cases hxs : x < s
      · have hd : decide (x < s) = true := by simpa using hxs
        have b3 := HI.out.1 hxs
        rw [hd]
        clear hd hxs HI
        go_wp2_with fail
        go_round
        case rel => exact ⟨h + 1, j, by go_num, rfl, by omega, by omega, by omega⟩
        case measure => simp [RowKit.intOf]; omega
      · have hd : decide (x < s) = false := by simpa using hxs
        have b3 := (not_congr HI.out).1 hxs
        rw [hd]
        clear hd hxs HI
        go_wp2_with fail
        go_round
        case rel => exact ⟨i, h, rfl, rfl, by omega, by omega, by omega⟩
        case measure => simp [RowKit.intOf]; omega
    · have a1 : ¬ (i : Int) < (j : Int) := by omega
      have hip : i = p := by omega
      clear h1 h2 h3 hij
      subst hip
      by_cases hil : i < l.length
      · have a2 : (i : Int) < (l.length : Int) := by omega
        have a0 : (0 : Int) ≤ (i : Int) := by omega
        obtain ⟨x, hx⟩ : ∃ x, l[i]? = some x := ⟨_, List.getElem?_eq_getElem (by omega)⟩
        obtain ⟨g, o, rfl, y0⟩ := in_cell HA.out hx
        have hf : hasI l s = (x == s) := place_found HP.out (by rw [← HPN.out]; exact hx)
        have HF := Lib.hid hf
        clear hx hf
        cases hq : (x == s)
        · have HF2 := Lib.hid (HF.out.trans hq)
          have hq2 : ¬ x = s := by simpa using hq
          go_wp2_with fail
          refine (nanS_any _ _).mono ?_
          rintro e w' ⟨rfl, rfl⟩
          go_wp2_with fail
          go_ret2
          exact ⟨by rw [HF2.out] <;> rfl, rfl⟩
        · have HF2 := Lib.hid (HF.out.trans hq)
          have hq2 : x = s := by simpa using hq
          go_wp2_with fail
          go_ret2
          exact ⟨by rw [HF2.out] <;> rfl, rfl⟩
      · have a2 : ¬ (i : Int) < (l.length : Int) := by omega
        have HF : Hid (hasI l s = false) := Lib.hid (place_none HP.out (by rw [← HPN.out]; omega))
        go_wp2_with fail
        go_ret2
        exact ⟨by rw [HF.out] <;> rfl, rfl⟩
end Go.Proofs.Ytblbcoknefgcaaa
