/-
  The document's Same and SameLasts of lists that are the same; its Seen (package butteryref09). No statement is proved here. No condition.
-/
import Derived.Test.YtlgjidoehnhnoaaENote
namespace Go.Proofs.Ytlgjidoehnhnoaa
open Go.RowKit

set_option maxHeartbeats 2000000 in
set_option maxRecDepth 100000 in
theorem rsame_yes (l : List PP) (u v : Value) (w : World) (hu : pairR.N w Any u l) (hv : pairR.N w Any v l) :
    Calls Try.prog 20 #[u, v] w fun e w' => e = .returned (.bool true) ∧ Below w.heap.size w w' := by
  obtain ⟨A, c, rfl, hlc, hcm⟩ := hu.slice
  obtain ⟨A2, c2, rfl, hlc2, hcm2⟩ := hv.slice
  have HU := Lib.hid hu
  have HV := Lib.hid hv
  unfold maxLen at hcm
  clear hu hv hlc2 hcm2
  go_enter Try.func20, Try.ntmps20
  go_wp2_with fail
  go_loopw [4, 5] (fun _ s5 wr => ∃ i : Nat, s5 = .int .i64 (i : Int) ∧ i ≤ l.length ∧ Hid (Below w.heap.size w wr)) (fun _ s5 _ => l.length - (intOf s5).toNat)
  case atStart => exact ⟨0, rfl, Nat.zero_le _, Lib.hid (Below.refl _ _)⟩
  case round =>
    obtain ⟨i, rfl, hi, hB⟩ := hrel
    by_cases hil : i < l.length
    · have a1 : (i : Int) < (l.length : Int) := by omega
      have a0 : (0 : Int) ≤ (i : Int) := by omega
      obtain ⟨q, hqi⟩ : ∃ q, l[i]? = some q := ⟨_, List.getElem?_eq_getElem hil⟩
      obtain ⟨b, o, n', k', hv, -, -, f0, f1⟩ := pair_cell (HU.out.grow hB.out) hqi
      injection hv with e1 e2 e3
      subst e1 e2 e3
      obtain ⟨b2, o2, n2', k2', hv2, -, -, g0, g1⟩ := pair_cell (HV.out.grow hB.out) hqi
      injection hv2 with e1 e2 e3
      subst e1 e2 e3
      have hk1 := eqS_yes (rfl : q.key = q.key)
      have hk2 := eqS_yes (rfl : q.val = q.val)
      go_upto_region 6 with fail
      go_quiet (fail)
      go_wp2_with fail
      exact ⟨⟨i + 1, by go_num, hil, Lib.hid (below_drewN hB.out _)⟩, by simp [intOf]; omega⟩
    · have a1 : ¬ (i : Int) < (l.length : Int) := by omega
      go_wp2_with fail
      go_ret
      exact ⟨rfl, hB.out⟩

set_option maxHeartbeats 2000000 in
set_option maxRecDepth 100000 in
theorem rsameL_yes (l : List PL) (u v : Value) (w : World) (hu : lastR.N w Any u l) (hv : lastR.N w Any v l) :
    Calls Try.prog 24 #[u, v] w fun e w' => e = .returned (.bool true) ∧ Below w.heap.size w w' := by
  obtain ⟨A, c, rfl, hlc, hcm⟩ := hu.slice
  obtain ⟨A2, c2, rfl, hlc2, hcm2⟩ := hv.slice
  have HU := Lib.hid hu
  have HV := Lib.hid hv
  unfold maxLen at hcm
  clear hu hv hlc2 hcm2
  go_enter Try.func24, Try.ntmps24
  go_wp2_with fail
  go_loopw [4, 5] (fun _ s5 wr => ∃ i : Nat, s5 = .int .i64 (i : Int) ∧ i ≤ l.length ∧ Hid (Below w.heap.size w wr)) (fun _ s5 _ => l.length - (intOf s5).toNat)
  case atStart => exact ⟨0, rfl, Nat.zero_le _, Lib.hid (Below.refl _ _)⟩
  case round =>
    obtain ⟨i, rfl, hi, hB⟩ := hrel
    by_cases hil : i < l.length
    · have a1 : (i : Int) < (l.length : Int) := by omega
      have a0 : (0 : Int) ≤ (i : Int) := by omega
      obtain ⟨q, hqi⟩ : ∃ q, l[i]? = some q := ⟨_, List.getElem?_eq_getElem hil⟩
      obtain ⟨b, o, n', k', hv, -, -, f0, f1, f2, f3, f4⟩ := last_cell (HU.out.grow hB.out) hqi
      injection hv with e1 e2 e3
      subst e1 e2 e3
      obtain ⟨b2, o2, n2', k2', hv2, -, -, g0, g1, g2, g3, g4⟩ := last_cell (HV.out.grow hB.out) hqi
      injection hv2 with e1 e2 e3
      subst e1 e2 e3
      have hk1 := eqS_yes (rfl : q.res.val = q.res.val)
      go_upto_region 6 with fail
      go_quiet (fail)
      go_wp2_with fail
      exact ⟨⟨i + 1, by go_num, hil, Lib.hid (below_drewN hB.out _)⟩, by simp [intOf]; omega⟩
    · have a1 : ¬ (i : Int) < (l.length : Int) := by omega
      go_wp2_with fail
      go_ret
      exact ⟨rfl, hB.out⟩
end Go.Proofs.Ytlgjidoehnhnoaa
