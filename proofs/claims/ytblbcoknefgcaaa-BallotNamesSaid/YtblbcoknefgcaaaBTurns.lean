/-
  The law of turns, walked. No statement is proved here. No condition.
-/
import Derived.Test.YtblbcoknefgcaaaBMem
import Derived.Test.YtblbcoknefgcaaaBTurnR
import Derived.Test.YtblbcoknefgcaaaBNearR
namespace Go.Proofs.Ytblbcoknefgcaaa
open Go.RowKit

def longB (l m : List Int) : Bool := decide ((l.length : Int) > 200 ∨ (m.length : Int) > 200)
theorem turnO_len (l : List Int) (s : Int) : (turnO l s).length ≤ 5 := by
  unfold turnO
  split
  · exact Nat.le_trans (List.length_filter_le _ _) (by decide)
  · simp
theorem long_any (l m : List Int) (A A2 : Option Addr) (c c2 : Nat) (w : World) (hl : l.length ≤ 17592186044416) (hm : m.length ≤ 17592186044416) :
    Calls Try.prog 31 #[.slice A l.length c, .slice A2 m.length c2] w fun e w' => e = .returned (.bool (longB l m)) ∧ w = w' := by
  by_cases h1 : (l.length : Int) > 200
  · have HF := Lib.hid (show longB l m = true from decide_eq_true (.inl h1))
    go_enter Try.func31, Try.ntmps31
    go_wp2_with fail
    go_ret
    exact ⟨by rw [HF.out] <;> rfl, rfl⟩
  · by_cases h2 : (m.length : Int) > 200
    · have HF := Lib.hid (show longB l m = true from decide_eq_true (.inr h2))
      go_enter Try.func31, Try.ntmps31
      go_wp2_with fail
      go_ret
      exact ⟨by rw [HF.out] <;> rfl, rfl⟩
    · have HF := Lib.hid (show longB l m = false from decide_eq_false (by omega))
      go_enter Try.func31, Try.ntmps31
      go_wp2_with fail
      go_ret
      exact ⟨by rw [HF.out] <;> rfl, rfl⟩
end Go.Proofs.Ytblbcoknefgcaaa
