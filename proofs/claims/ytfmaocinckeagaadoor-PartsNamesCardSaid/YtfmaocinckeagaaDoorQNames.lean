/-
  PartsNames: what its calls come to. No statement is proved here. No condition.
-/
import Derived.Test.YtfmaocinckeagaaDoorQNothing
import Derived.Test.YtfmaocinckeagaaDoorQPoke
namespace Go.Proofs.YtfmaocinckeagaaDoor
open Go.RowKit

set_option maxHeartbeats 1000000 in
set_option maxRecDepth 100000 in
theorem ptake_nil (frm : Int) (v : Value) (w : World) : Calls Tryd.prog 13 #[.pointer none, .int .i64 frm, v] w fun r w' => r = .returned (.tuple #[.slice none 0 0, .bool false, .int .i64 2]) ∧ w' = w := by
  go_enter Tryd.func13, Tryd.ntmps13
  go_wp2_with fail
  go_ret3
  exact ⟨rfl, rfl⟩
set_option maxHeartbeats 1000000 in
set_option maxRecDepth 100000 in
theorem plen_nil (w : World) : Calls Tryd.prog 14 #[.pointer none] w fun r w' => r = .returned (.int .i64 0) ∧ w' = w := by
  go_enter Tryd.func14, Tryd.ntmps14
  go_wp2_with fail
  go_ret
  exact ⟨rfl, rfl⟩
def zz400 : List UInt8 := List.replicate 400 0
theorem zz400_len : zz400.length = 400 := List.length_replicate
theorem zz400_many : many zz400 = 2 := by unfold many; rw [zz400_len]; rfl
/-- the joiner behind k messages' first parts -/
def jN : Nat → List KP
  | 0 => []
  | k + 1 => (stepJ (jN k) (1, (k : Int)) ⟨k, 0, 2, piece zz400 0⟩).2
def jX : List KP := (stepJ (jN 17) (1, 1) ⟨1, 1, 2, piece zz400 1⟩).2
def jY : List KP := (stepJ jX (1, 0) ⟨0, 1, 2, piece zz400 1⟩).2
theorem n_facts : (stepJ (jN 17) (1, 1) ⟨1, 1, 2, piece zz400 1⟩).1.isSome = true ∧ (stepJ jX (1, 0) ⟨0, 1, 2, piece zz400 1⟩).1.isSome = false ∧ jY.length = 16 := by decide +kernel
theorem zz400_read (k i : Nat) (hk : k ≤ 100) (h : i < 2) : readP (pkt k i 2 (piece zz400 i)) = (0, some ⟨k, i, 2, piece zz400 i⟩) := by
  have := read_cut (l := zz400) (n := k) (i := i) (by omega) (by rw [zz400_len]; omega) (by rw [zz400_many]; exact h)
  rw [zz400_many] at this
  exact this
theorem zz400_small (k i : Nat) (hk : k ≤ 100) (h : i < 2) : (pkt k i 2 (piece zz400 i)).length ≤ 400 := pkt_small (by omega) (by omega) (by omega) (piece_length _ _)
theorem zz400_cut (k : Nat) (hk : k ≤ 100) : cutErr (k : Int) zz400 = 0 ∧ cutP (k : Int) zz400 = [pkt k 0 2 (piece zz400 0), pkt k 1 2 (piece zz400 1)] := by
  have h := cutErr_ok (n := k) (l := zz400) (by omega) (by rw [zz400_len]; omega)
  refine ⟨h, ?_⟩
  unfold cutP
  rw [if_pos h, zz400_many]
  rfl
theorem nil_many : many [] = 1 := rfl
theorem nil_cut : cutErr 0 [] = 0 ∧ cutP 0 [] = [pkt 0 0 1 []] := ⟨by decide, by unfold cutP; rw [if_pos (by decide)]; rfl⟩
theorem nil_read : readP (pkt 0 0 1 []) = (0, some ⟨0, 0, 1, []⟩) := read_cut (l := []) (n := 0) (i := 0) (by omega) (by simp) (by rw [nil_many]; omega)
theorem nil_step : stepJ [] (1, 0) ⟨0, 0, 1, []⟩ = (some [], []) := rfl
theorem nil_len : (pkt 0 0 1 []).length = 11 := by decide +kernel
theorem bad_read : readP ((pkt 0 0 1 []).set 3 77) = (30, none) := by
  have h : (openedOf ((pkt 0 0 1 []).set 3 77)).1 = 30 := by decide +kernel
  unfold readP
  rw [h]
  rfl
theorem x_read : readP [120] = (4, none) := by
  have h : (openedOf [120]).1 = 4 := by decide +kernel
  unfold readP
  rw [h]
  rfl
theorem cut_a : cutErr (-1) [] = 1 := by decide
theorem cut_b : cutErr 2147483648 [] = 1 := by decide
theorem cut_c : cutErr 0 (List.replicate 8193 0) = 40 := by unfold cutErr; rw [List.length_replicate]; rfl
theorem cut_d : cutErr 2147483647 (List.replicate 8192 0) = 0 ∧ (cutP 2147483647 (List.replicate 8192 0)).length = 22 := by
  have h := cutErr_ok (n := 2147483647) (l := List.replicate 8192 0) (by omega) (by rw [List.length_replicate]; omega)
  refine ⟨h, ?_⟩
  have := (cutP_ok (n := 2147483647) (l := List.replicate 8192 0) (by omega) (by rw [List.length_replicate]; omega)).1
  have hm : many (List.replicate 8192 (0 : UInt8)) = 22 := by unfold many; rw [List.length_replicate]; rfl
  rw [hm] at this
  exact this
end Go.Proofs.YtfmaocinckeagaaDoor
