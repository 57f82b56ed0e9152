/-
  The document's ring (butteryref04): Pieces. No statement is proved here. Conditions: none but that the numbers fit.
-/
import Derived.Test.YtplpfhgdanclhaaRCalls
import Derived.Test.YtplpfhgdanclhaaMem
import Derived.Test.YtplpfhgdanclhaaPlain
namespace Go.Proofs.Ytplpfhgdanclhaa
open Go.RowKit

set_option maxHeartbeats 400000 in
theorem xpieces_any (n : Nat) (w : World) (hn : n ≤ 9223372036854775807) :
    Calls Try.prog 42 #[.int .i64 (n : Int)] w fun e w' => e = .returned (.int .i64 ((pieces n : Nat) : Int)) ∧ w = w' := by
  have a0 : ¬ (n : Int) < 0 := by omega
  by_cases h : 0 < n ∧ n % 501 = 0
  · have h0 : (0 : Int) < (n : Int) := by omega
    have h1 : (n : Int) % 501 = 0 := by omega
    have e : pieces n = n / 501 := by unfold pieces; rw [if_pos h]
    go_enter Try.func42, Try.ntmps42
    go_wp2
    go_ret
    exact ⟨ret_int (by first | rfl | omega | (rw [e]; omega)), rfl⟩
  · have e : pieces n = n / 501 + 1 := by unfold pieces; rw [if_neg h]
    by_cases h0 : (0 : Int) < (n : Int)
    · have h1 : ¬ (n : Int) % 501 = 0 := by omega
      go_enter Try.func42, Try.ntmps42
      go_wp2
      go_ret
      exact ⟨ret_int (by first | rfl | omega | (rw [e]; omega)), rfl⟩
    · go_enter Try.func42, Try.ntmps42
      go_wp2
      go_ret
      exact ⟨ret_int (by first | rfl | omega | (rw [e]; omega)), rfl⟩
theorem xpieces_no (n : Int) (w : World) (hn : n < 0) :
    Calls Try.prog 42 #[.int .i64 n] w fun e w' => e = .returned (.int .i64 0) ∧ w = w' := by
  go_enter Try.func42, Try.ntmps42
  go_wp2
  go_ret
  exact ⟨rfl, rfl⟩
end Go.Proofs.Ytplpfhgdanclhaa
