/-
  RingPlays: the refusals, walked. No condition but that its arguments lie in memory.
-/
import Derived.Test.YtlokehekkllbeaaGDuo
namespace Go.Proofs.Ytlokehekkllbeaa
open Go.RowKit

set_option maxHeartbeats 8000000 in
set_option maxRecDepth 100000 in
theorem ringplays_no (zf zc zb : Int) (l : List StepP) (a : Value) (w : World) (ha : RdP w a l) (_hl : l.length ≤ 9223372036854775807) (hf : zf < 9223372036854775808) (hbad : zf < 0 ∨ zc < 1 ∨ (12 : Int) - zf < zc ∨ zb < 0 ∨ 4611686018427387904 < zb) :
    Calls Try.prog 3 #[.int .i64 zf, .int .i64 zc, .int .i64 zb, a] w fun e w' => e = .returned (.bool true) ∧ Below w.heap.size w w' := by
  obtain ⟨A, ca, rfl, hcell⟩ := ha
  have HC := Lib.hid hcell
  clear hcell
  have f0 : Fit (DS.new 12) 0 := Fit.new (by omega)
  have hll : (DS.new 12).lasts.length = 12 := List.length_replicate
  have cN := pNew_yes 12 w (by omega) (by omega)
  · obtain ⟨D0, hD0⟩ : ∃ D0, D0 = DS.new 12 := ⟨_, rfl⟩
    rw [← hD0] at f0 hll cN
    clear hD0
    have HBAD := Lib.hid hbad
    have HLL := Lib.hid hll
    clear hbad hll
    go_enter Try.func3, Try.ntmps3
    go_wp2_with fail
    refine cN.mono ?_
    rintro e w1 ⟨hb1, q, rfl, hd1⟩
    clear cN
    have cO := popen_arg hd1 (by rw [HLL.out]; omega) zf zc zb hf (by rw [HLL.out]; exact HBAD.out)
    have HB1 := Lib.hid hb1
    clear hd1 hb1
    go_wp2_with fail
    refine cO.mono ?_
    rintro e w2 ⟨rfl, rfl⟩
    clear cO
    have cA := awake_any w1
    have key : zf < 0 ∨ (¬ zf < 0 ∧ zc < 1) ∨ (¬ zf < 0 ∧ ¬ zc < 1 ∧ (12 : Int) < zc) ∨ (¬ zf < 0 ∧ ¬ zc < 1 ∧ ¬ (12 : Int) < zc ∧ (12 : Int) - zc < zf) ∨ (¬ zf < 0 ∧ ¬ zc < 1 ∧ ¬ (12 : Int) < zc ∧ ¬ (12 : Int) - zc < zf ∧ zb < 0) ∨ (¬ zf < 0 ∧ ¬ zc < 1 ∧ ¬ (12 : Int) < zc ∧ ¬ (12 : Int) - zc < zf ∧ ¬ zb < 0 ∧ (4611686018427387904 : Int) < zb) := by
      have := HBAD.out
      omega
    go_upto_region 5 with fail
    go_cut [68] (fun s wx => wx = w1 ∧ s = .bool true)
    case first =>
      rcases key with h1 | ⟨h1, h2⟩ | ⟨h1, h2, h3⟩ | ⟨h1, h2, h3, h4⟩ | ⟨h1, h2, h3, h4, h5⟩ | ⟨h1, h2, h3, h4, h5, h6⟩
      all_goals go_wp2_with fail
      all_goals go_meet
      all_goals exact ⟨rfl, rfl⟩
    case rest =>
      obtain ⟨hwc, rfl⟩ := hcut
      have hwd := hwc.symm
      clear hwc
      subst hwd
      go_wp2_with fail
      refine cA.mono ?_
      rintro e w3 ⟨rfl, hb3⟩
      have hbf : Below w.heap.size w w3 := HB1.out.trans (Joins.below_le hb3 HB1.out.size)
      have HBF := Lib.hid hbf
      clear hbf hb3 cA
      go_wp2_with fail
      go_ret
      exact ⟨rfl, HBF.out⟩
end Go.Proofs.Ytlokehekkllbeaa
