/-
  The law's own helper 'works' returns true, and turns nothing that was there. No condition.
-/
import Derived.Test.YtfpammdpnccciaaReaderC
namespace Go.Proofs.Ytfpammdpnccciaa
open Go.RowKit

/-- '[]byte(s)': a new slice that reads as the string's bytes -/
theorem conv_bytes (bs : ByteArray) (W : World) (hs : bs.size ≤ 140737488355328) : ∃ A c W', (convert 9 23 (.string bs)).run Try.prog W = .ok (.slice A bs.size c) W' ∧
    Rd W' W'.heap.size (.slice A bs.size c) bs.data.toList ∧ W.grownBy W' none ∧ W'.heap.size = W.heap.size + 1 := by
  have hrun := run_bytes_of_string (P := Try.prog) W 9 23 5 bs Try.underlying9 Try.underlying23 Try.underlying5
  refine ⟨_, _, _, hrun, ?_, ?_, by simp⟩
  · have hl : bs.data.toList.length = bs.size := by simp
    refine ⟨_, _, by rw [hl], by rw [hl]; exact grownCap_ge _ _ _ _, grownCap_le_maxLen _ _ _ _ (by unfold maxLen; omega), (fun h => by cases h), fun _ => ⟨W.heap.size, 0, rfl, by simp, fun i x hx => ?_⟩⟩
    have h1 := World.cell?_alloc_mark W.drew (bytesRow bs (grownCap W bs.size 0 5)) 5 ((bytesRow bs (grownCap W bs.size 0 5)).size, (bytesRow bs (grownCap W bs.size 0 5)).size + 1) i
    have hi : i < bs.size := by
      rw [← hl]
      exact (List.getElem?_eq_some_iff.1 hx).1
    have h2 : (bytesRow bs (grownCap W bs.size 0 5))[i]? = some (.int .u8 (x.toNat : Int)) := by
      unfold bytesRow
      rw [Array.getElem?_append_left (by simpa using hi), Array.getElem?_map]
      have : bs.data[i]? = some x := by rw [← hx]; simp
      rw [this]
      rfl
    rw [Nat.zero_add]
    exact h1.trans h2
  · exact ⟨rfl, rfl, rfl, by simp, fun k hk _ => heap_alloc_old W.drew _ hk⟩

/-! ### Of nil -/
theorem tell_nil_i64 (w : World) (f : Value) : Calls Try.prog 33 #[.pointer none, f] w fun e w' => e = .returned (.int .i64 0) ∧ w = w' := by
  go_enter Try.func33, Try.ntmps33
  go_wp2_with fail
  refine (ok_nil _).mono ?_
  rintro e w1 ⟨rfl, rfl⟩
  go_wp2_with fail
  go_ret
  exact ⟨rfl, rfl⟩
theorem tell_nil_int (w : World) (f : Value) : Calls Try.prog 35 #[.pointer none, f] w fun e w' => e = .returned (.int .i64 0) ∧ w = w' := by
  go_enter Try.func35, Try.ntmps35
  go_wp2_with fail
  refine (ok_nil _).mono ?_
  rintro e w1 ⟨rfl, rfl⟩
  go_wp2_with fail
  go_ret
  exact ⟨rfl, rfl⟩
theorem tell_nil_str (w : World) (f : Value) : Calls Try.prog 38 #[.pointer none, f] w fun e w' => e = .returned (.string ByteArray.empty) ∧ w = w' := by
  go_enter Try.func38, Try.ntmps38
  go_wp2_with fail
  refine (ok_nil _).mono ?_
  rintro e w1 ⟨rfl, rfl⟩
  go_wp2_with fail
  go_ret
  exact ⟨rfl, rfl⟩
theorem tell_nil_bool (w : World) (f : Value) : Calls Try.prog 41 #[.pointer none, f] w fun e w' => e = .returned (.bool false) ∧ w = w' := by
  go_enter Try.func41, Try.ntmps41
  go_wp2_with fail
  refine (ok_nil _).mono ?_
  rintro e w1 ⟨rfl, rfl⟩
  go_wp2_with fail
  go_ret
  exact ⟨rfl, rfl⟩
theorem Num_nil (w : World) : Calls Try.prog 13 #[.pointer none] w fun e w' => e = .returned (.int .i64 0) ∧ Below w.heap.size w w' := by
  go_enter Try.func13, Try.ntmps13
  go_wp2_with fail
  refine (tell_nil_i64 _ _).mono ?_
  rintro e w1 ⟨rfl, rfl⟩
  go_wp2_with fail
  go_ret
  exact ⟨rfl, Below.refl _ _⟩
theorem Flag_nil (w : World) : Calls Try.prog 16 #[.pointer none] w fun e w' => e = .returned (.bool false) ∧ Below w.heap.size w w' := by
  go_enter Try.func16, Try.ntmps16
  go_wp2_with fail
  refine (tell_nil_bool _ _).mono ?_
  rintro e w1 ⟨rfl, rfl⟩
  go_wp2_with fail
  go_ret
  exact ⟨rfl, Below.refl _ _⟩
theorem Count_nil (n : Int) (w : World) : Calls Try.prog 14 #[.pointer none, .int .i64 n] w fun e w' => e = .returned (.int .i64 0) ∧ Below w.heap.size w w' := by
  go_enter Try.func14, Try.ntmps14
  go_wp2_with fail
  refine (tell_nil_int _ _).mono ?_
  rintro e w1 ⟨rfl, rfl⟩
  go_wp2_with fail
  go_ret
  exact ⟨rfl, (Below.refl _ _).alloc (Nat.le_refl _) _⟩
theorem Str_nil (n : Int) (w : World) : Calls Try.prog 15 #[.pointer none, .int .i64 n] w fun e w' => e = .returned (.string ByteArray.empty) ∧ Below w.heap.size w w' := by
  go_enter Try.func15, Try.ntmps15
  go_wp2_with fail
  refine (tell_nil_str _ _).mono ?_
  rintro e w1 ⟨rfl, rfl⟩
  go_wp2_with fail
  go_ret
  exact ⟨rfl, (Below.refl _ _).alloc (Nat.le_refl _) _⟩

theorem uv_128 : uv 128 = [128, 1] := by rw [uv_large (by omega), uv_small (by omega)]; rfl
theorem uv_1 : uv 1 = [1] := by rw [uv_small (by omega)]; rfl
theorem uv_2 : uv 2 = [2] := by rw [uv_small (by omega)]; rfl
theorem works_bytes : ((([] ++ uv 128) ++ uv (zz (-1))) ++ tv [97, 98]) ++ fv true = [128, 1, 1, 2, 97, 98, 1] := by
  have e : zz (-1) = 1 := by decide
  unfold tv fv
  rw [uv_128, e, uv_1, show ([97, 98] : List UInt8).length = 2 from rfl, uv_2]
  rfl

set_option maxHeartbeats 400000 in
theorem works_any (w : World) : Calls Try.prog 9 #[] w fun e w' => e = .returned (.bool true) ∧ Below w.heap.size w w' := by
  go_enter Try.func9, Try.ntmps9
  go_wp2_with fail
  refine (count_any [] (.slice none 0 0) 128 _ (Rd.nil _ _) (by omega) (by omega) (by simp)).mono ?_
  rintro e w1 ⟨v1, rfl, ho1, hb1⟩
  have hz1 := hb1.size
  have hr1 := Rd.own ho1
  go_wp2_with fail
  refine (num_any _ v1 (-1) _ hr1 (by unfold I64; omega) (by simp [uv_128])).mono ?_
  rintro e w2 ⟨v2, rfl, ho2, hb2⟩
  have hb2' := hb1.trans (hb2.mono hz1)
  have hr2 := Rd.own ho2
  go_wp2_with fail
  refine (str_any _ v2 ⟨#[97, 98]⟩ _ hr2 (by decide) (by rw [show (⟨#[97, 98]⟩ : ByteArray).size = 2 from rfl]; simp [uv_128, show zz (-1) = 1 by decide, uv_1])).mono ?_
  rintro e w3 ⟨v3, rfl, ho3, hb3⟩
  have hb3' := hb2'.trans (hb3.mono hb2'.size)
  have hr3 := Rd.own ho3
  go_wp2_with fail
  refine (flag_any _ v3 true _ hr3 (by simp [uv_128, show zz (-1) = 1 by decide, uv_1, tv, uv_2])).mono ?_
  rintro e w4 ⟨v4, rfl, ho4, hb4⟩
  have hb4' := hb3'.trans (hb4.mono hb3'.size)
  have hr4 := Rd.own ho4
  have hL : ((([] ++ uv (128 : Int).toNat) ++ uv (zz (-1))) ++ tv (⟨#[97, 98]⟩ : ByteArray).data.toList) ++ fv true = [128, 1, 1, 2, 97, 98, 1] := works_bytes
  rw [hL] at hr4
  clear ho1 ho2 ho3 ho4 hr1 hr2 hr3 hb1 hb2 hb3 hb4 hb2' hb3' hz1 hL
  go_wp2_with fail
  refine (New_any _ v4 _ hr4 (by simp)).mono ?_
  rintro e w5 ⟨R, rfl, hR, hd, hb5⟩
  have hb5' := hb4'.trans (hb5.mono hb4'.size)
  have hr5 := hr4.below hb5 hb5.size
  have hcv := conv_str hr5
  have hRw : w.heap.size ≤ R := Nat.le_trans hb4'.size hR
  clear hr4 hr5
  go_wp2_with fail
  have c1 := Count_any R 200 _ _ hd
  rw [show told 0 (gCount 200) (some [128, 1, 1, 2, 97, 98, 1]) = (128, some [1, 2, 97, 98, 1]) by decide] at c1
  refine c1.mono ?_
  rintro e w6 ⟨rfl, hg6, hd6⟩
  clear c1 hcv
  go_wp2_with fail
  have c1 := Num_any R _ _ hd6
  rw [show told 0 gNum (some [1, 2, 97, 98, 1]) = (-1, some [2, 97, 98, 1]) by decide] at c1
  refine c1.mono ?_
  rintro e w7 ⟨rfl, hg7, hd7⟩
  clear c1
  go_wp2_with fail
  have c1 := Str_any R 2 _ _ hd7
  rw [show told [] (gStr 2) (some [2, 97, 98, 1]) = ([97, 98], some [1]) by decide] at c1
  refine c1.mono ?_
  rintro e w8 ⟨rfl, hg8, hd8⟩
  clear c1
  go_wp2_with fail
  refine (done_any R _ _ hd8).mono ?_
  rintro e w9 ⟨rfl, rfl⟩
  go_wp2_with fail
  have c1 := Flag_any R _ _ hd8
  rw [show told false gFlag (some [1]) = (true, some []) by decide] at c1
  refine c1.mono ?_
  rintro e w9 ⟨rfl, hg9, hd9⟩
  clear c1
  go_wp2_with fail
  refine (done_any R _ _ hd9).mono ?_
  rintro e w10 ⟨rfl, rfl⟩
  go_wp2_with fail
  go_ret
  have hg := grown_trans (grown_trans hg6 hg7) (grown_trans hg8 hg9)
  exact ⟨rfl, hb5'.grown hg hb5'.size fun k hk => by injection hk with hk; omega⟩
end Go.Proofs.Ytfpammdpnccciaa
