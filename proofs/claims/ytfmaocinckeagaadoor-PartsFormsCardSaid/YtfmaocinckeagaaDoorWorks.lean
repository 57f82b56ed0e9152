/-
  The law's own helper 'works' returns true, and turns nothing that was there. No condition.
-/
import Derived.Test.YtfmaocinckeagaaDoorReaderC
namespace Go.Proofs.YtfmaocinckeagaaDoor
open Go.RowKit

/-- '[]byte(s)': a new slice that reads as the string's bytes -/
theorem conv_bytes (bs : ByteArray) (W : World) (hs : bs.size ≤ 140737488355328) : ∃ A c W', (convert 9 27 (.string bs)).run Tryd.prog W = .ok (.slice A bs.size c) W' ∧
    Rd W' W'.heap.size (.slice A bs.size c) bs.data.toList ∧ W.grownBy W' none ∧ W'.heap.size = W.heap.size + 1 := by
  have hrun := run_bytes_of_string (P := Tryd.prog) W 9 27 5 bs Tryd.underlying9 Tryd.underlying27 Tryd.underlying5
  refine ⟨_, _, _, hrun, ?_, ?_, by simp⟩
  · have hl : bs.data.toList.length = bs.size := by simp
    refine ⟨_, _, by rw [hl], by rw [hl]; exact grownCap_ge _ _ _ _, grownCap_le_maxLen _ _ _ _ (by unfold maxLen; omega), (fun h => by cases h), fun _ => ⟨W.heap.size, 0, rfl, by simp, fun i x hx => ?_⟩⟩
    have h1 := World.cell?_alloc_mark W.drew (bytesRow bs (grownCap W bs.size 0 5)) 5 ((bytesRow bs (grownCap W bs.size 0 5)).size, (bytesRow bs (grownCap W bs.size 0 5)).size + 1) i
    have hi : i < bs.size := by
      rw [← hl]
      exact (List.getElem?_eq_some_iff.1 hx).1
    have h2 : (bytesRow bs (grownCap W bs.size 0 5))[i]? = some (.int .u8 (x.toNat : Int)) := by
      unfold bytesRow
      rw [Array.getElem?_append_left (by simpa using hi), Array.getElem?_map]
      have : bs.data[i]? = some x := by rw [← hx]; simp
      rw [this]
      rfl
    rw [Nat.zero_add]
    exact h1.trans h2
  · exact ⟨rfl, rfl, rfl, by simp, fun k hk _ => heap_alloc_old W.drew _ hk⟩

/-! ### Of nil -/
theorem tell_nil_int (w : World) (f : Value) : Calls Tryd.prog 56 #[.pointer none, f] w fun e w' => e = .returned (.int .i64 0) ∧ w = w' := by
  go_enter Tryd.func56, Tryd.ntmps56
  go_wp2_with fail
  refine (ok_nil _).mono ?_
  rintro e w1 ⟨rfl, rfl⟩
  go_wp2_with fail
  go_ret
  exact ⟨rfl, rfl⟩
theorem tell_nil_str (w : World) (f : Value) : Calls Tryd.prog 59 #[.pointer none, f] w fun e w' => e = .returned (.string ByteArray.empty) ∧ w = w' := by
  go_enter Tryd.func59, Tryd.ntmps59
  go_wp2_with fail
  refine (ok_nil _).mono ?_
  rintro e w1 ⟨rfl, rfl⟩
  go_wp2_with fail
  go_ret
  exact ⟨rfl, rfl⟩
theorem Count_nil (n : Int) (w : World) : Calls Tryd.prog 37 #[.pointer none, .int .i64 n] w fun e w' => e = .returned (.int .i64 0) ∧ Below w.heap.size w w' := by
  go_enter Tryd.func37, Tryd.ntmps37
  go_wp2_with fail
  refine (tell_nil_int _ _).mono ?_
  rintro e w1 ⟨rfl, rfl⟩
  go_wp2_with fail
  go_ret
  exact ⟨rfl, (Below.refl _ _).alloc (Nat.le_refl _) _⟩
theorem Str_nil (n : Int) (w : World) : Calls Tryd.prog 38 #[.pointer none, .int .i64 n] w fun e w' => e = .returned (.string ByteArray.empty) ∧ Below w.heap.size w w' := by
  go_enter Tryd.func38, Tryd.ntmps38
  go_wp2_with fail
  refine (tell_nil_str _ _).mono ?_
  rintro e w1 ⟨rfl, rfl⟩
  go_wp2_with fail
  go_ret
  exact ⟨rfl, (Below.refl _ _).alloc (Nat.le_refl _) _⟩

theorem uv_128 : uv 128 = [128, 1] := by rw [uv_large (by omega), uv_small (by omega)]; rfl
theorem uv_1 : uv 1 = [1] := by rw [uv_small (by omega)]; rfl
theorem uv_2 : uv 2 = [2] := by rw [uv_small (by omega)]; rfl
theorem works_bytes : ((([] ++ uv 128) ++ uv (zz (-1))) ++ tv [97, 98]) ++ fv true = [128, 1, 1, 2, 97, 98, 1] := by
  have e : zz (-1) = 1 := by decide
  unfold tv fv
  rw [uv_128, e, uv_1, show ([97, 98] : List UInt8).length = 2 from rfl, uv_2]
  rfl

end Go.Proofs.YtfmaocinckeagaaDoor
