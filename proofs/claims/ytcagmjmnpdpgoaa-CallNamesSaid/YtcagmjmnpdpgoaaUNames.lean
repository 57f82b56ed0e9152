/-
  CallNames: nobody's calls, the limits. No statement is proved here. No condition.
-/
import Derived.Test.YtcagmjmnpdpgoaaUAwake
namespace Go.Proofs.Ytcagmjmnpdpgoaa
open Go.RowKit Go.Maps

theorem old_all {L : List WT} {now most : Int} (h : ∀ x ∈ L, oldA now most x = some x) : L.filterMap (oldA now most) = L := by
  induction L with
  | nil => rfl
  | cons a L ih =>
    rw [List.filterMap_cons, h a (by simp)]
    simp [ih fun x hx => h x (List.mem_cons_of_mem _ hx)]
theorem old_none {M : List (Nat × WT)} {now most : Int} (h : ∀ x ∈ M, oldA now most x.2 = some x.2) : M.filterMap (leftF true (oldA now most)) = [] := by
  rw [List.filterMap_eq_nil_iff]
  intro m hm
  unfold leftF
  rw [h m hm]
  rfl
theorem ago_max : agoB 0 1 4611686018427387904 = true := by kernel_rfl
theorem k_sum (k : Nat) (h : k ≤ 1048575) : ∃ N0 Nn : Int, Nn = 2047 * 1048576 + (k : Int) + 1 ∧ wrap64 (2146435072 + (k : Int)) = N0 ∧ IntKind.i64.wrap (2146435072 + (k : Int)) = N0 ∧ wrap64 (N0 + 1) = Nn ∧ IntKind.i64.wrap (N0 + 1) = Nn := by
  obtain ⟨N0, hN0⟩ : ∃ N0 : Int, N0 = 2146435072 + (k : Int) := ⟨_, rfl⟩
  obtain ⟨Nn, hN⟩ : ∃ Nn : Int, Nn = N0 + 1 := ⟨_, rfl⟩
  refine ⟨N0, Nn, by omega, ?_, ?_, ?_, ?_⟩
  · rw [← hN0]; unfold wrap64; omega
  · rw [← hN0]; exact IntWalk.i64_in _ (by omega)
  · rw [← hN]; unfold wrap64; omega
  · rw [← hN]; exact IntWalk.i64_in _ (by omega)
set_option maxHeartbeats 4000000 in
set_option maxRecDepth 100000 in
theorem names_any (w : World) : Calls Try.prog 4 #[] w fun e w' => e = .returned (.bool true) ∧ Below w.heap.size w w' := by
  go_enter Try.func4, Try.ntmps4
  go_wp2_with fail
  refine (ask_nil _ _ _ _ _).mono ?_
  rintro e w1 ⟨rfl, rfl⟩
  go_wp2_with fail
  refine (tell_nil _ _).mono ?_
  rintro e w2 ⟨he, hb2⟩
  have he : e = .returned (.tuple #[.agg #[.int .i64 0, .string ⟨#[]⟩, .int .i64 0, .int .i64 0, .int .i64 0, .int .i64 0, .bool false], .bool false]) := he
  subst he
  have HB2 : Hid (Below w1.heap.size w1 (w2.alloc (.cells #[.int .i64 0, .string ⟨#[]⟩, .int .i64 0, .int .i64 0, .int .i64 0, .int .i64 0, .bool false] 37))) := Lib.hid (hb2.alloc hb2.size _)
  obtain ⟨w3, hw3⟩ : ∃ w3, w3 = w2.alloc (.cells #[.int .i64 0, .string ⟨#[]⟩, .int .i64 0, .int .i64 0, .int .i64 0, .int .i64 0, .bool false] 37) := ⟨_, rfl⟩
  rw [← hw3] at HB2
  have HW3 := Lib.hid hw3
  clear hw3 hb2
  go_upto_region 4 with fail
  rw [← HW3.out]
  clear HW3
  go_wp2_with fail
  refine (look_nil _ _).mono ?_
  rintro e w4 ⟨he, hb4⟩
  have he : e = .returned (.tuple #[.agg #[.int .i64 0, .string ⟨#[]⟩, .int .i64 0, .int .i64 0, .int .i64 0, .int .i64 0, .bool false], .bool false]) := he
  subst he
  have hb4' := HB2.out.trans (Joins.below_le hb4 HB2.out.size)
  have HB4 : Hid (Below w1.heap.size w1 (w4.alloc (.cells #[.int .i64 0, .string ⟨#[]⟩, .int .i64 0, .int .i64 0, .int .i64 0, .int .i64 0, .bool false] 37))) := Lib.hid (hb4'.alloc hb4'.size _)
  obtain ⟨w5, hw5⟩ : ∃ w5, w5 = w4.alloc (.cells #[.int .i64 0, .string ⟨#[]⟩, .int .i64 0, .int .i64 0, .int .i64 0, .int .i64 0, .bool false] 37) := ⟨_, rfl⟩
  rw [← hw5] at HB4
  have HW5 := Lib.hid hw5
  clear hw5 hb4 hb4' HB2
  go_upto_region 5 with fail
  rw [← HW5.out]
  clear HW5
  go_wp2_with fail
  refine (pnew_no 0 _ (.inl (by decide))).mono ?_
  rintro e w6 ⟨rfl, rfl⟩
  go_wp2_with fail
  refine (pnew_no 2048 _ (.inr (by decide))).mono ?_
  rintro e w7 ⟨rfl, rfl⟩
  go_wp2_with fail
  refine (pnew_ex 2047 _ (by decide) (by decide)).mono ?_
  rintro e w8 ⟨p, b, hp, hb, rfl, hs8, hb8⟩
  obtain ⟨B, hB⟩ : ∃ B, B = w1.heap.size := ⟨_, rfl⟩
  rw [← hB] at HB4
  have hsz4 := HB4.out.size
  have hp : B ≤ p := by omega
  have hb : B ≤ b := by omega
  have HS0 : Hid (SC w8 p b 2047 ((0 : Nat) : Int) []) := Lib.hid hs8
  have HB0 := Lib.hid (HB4.out.trans (Joins.below_le hb8 (by omega)))
  have hB1 : B ≤ w1.heap.size := by omega
  have HBE := Lib.hid hB
  clear hs8 hb8 HB4 hB hsz4
  go_wp2_with fail
  go_loopw [14, 15, 16, 17] (fun s14 s15 _ _ wr => ∃ (i : Nat) (L : Int) (M : List (Nat × WT)), s15 = .int .i64 (i : Int) ∧ s14 = .int .i64 L ∧ i ≤ 64 ∧ L ≤ 2146435072 + (i : Int) ∧ M.length = i ∧ Hid (∀ m ∈ M, B ≤ m.1 ∧ m.2.first = 0) ∧ Hid (SC wr p b 2047 (i : Int) M) ∧ Hid (Below B w1 wr)) (fun _ s15 _ _ _ => 64 - (intOf s15).toNat)
  case atStart => exact ⟨0, 0, [], rfl, rfl, by omega, by omega, rfl, Lib.hid (by simp), HS0, HB0⟩
  case round =>
    clear HS0 HB0
    obtain ⟨i, L, M, rfl, rfl, hi, hL, hM, hF, hS, hBw⟩ := hrel
    obtain ⟨wz, hwz⟩ : ∃ wz : World, wz = wr := ⟨_, rfl⟩
    subst hwz
    by_cases hil : i < 64
    · have a1 : (i : Int) < 64 := by omega
      have cA := pask_yes hS.out ⟨#[107]⟩ 1 (i : Int) 0 (by decide) (by omega) (by omega)
      obtain ⟨Nn, hN⟩ : ∃ Nn : Int, Nn = 2047 * 1048576 + (i : Int) + 1 := ⟨_, rfl⟩
      rw [← hN] at cA
      have a2 : ¬ Nn ≤ L := by omega
      have HN := Lib.hid hN
      clear hN
      go_wp2_with fail
      refine cA.mono ?_
      rintro e w9 ⟨rfl, q, hq, hs9, hk9⟩
      clear cA
      have hqB : B ≤ q := Nat.le_trans (Nat.le_trans hB1 hBw.out.size) hq
      have HS9 : Hid (SC w9 p b 2047 ((i + 1 : Nat) : Int) (M ++ [(q, ⟨Nn, ⟨#[107]⟩, 1, (i : Int), 0, 0, false⟩)])) := Lib.hid (by push_cast; exact hs9)
      have HB9 := Lib.hid (below_kept hBw.out hk9 hB1 fun n hn => by rcases hn with rfl | rfl <;> assumption)
      have HF9 : Hid (∀ m ∈ M ++ [(q, (⟨Nn, ⟨#[107]⟩, 1, (i : Int), 0, 0, false⟩ : WT))], B ≤ m.1 ∧ m.2.first = 0) := Lib.hid fun m hm => by
        rcases List.mem_append.1 hm with hm | hm
        · exact hF.out m hm
        · rw [List.mem_singleton.1 hm]; exact ⟨hqB, rfl⟩
      have hN2 : Nn ≤ 2146435072 + ((i + 1 : Nat) : Int) := by have := HN.out; omega
      clear hs9 hk9 hF hS hBw
      go_wp2_with fail
      exact ⟨⟨i + 1, Nn, _, by go_num, rfl, by omega, hN2, by simp [hM], HF9, HS9, HB9⟩, by simp [intOf]; omega⟩
    · have hie : i = 64 := by omega
      subst hie
      have cN := pask_no hS.out ⟨#[107]⟩ 1 1 0 (.inr (.inl (by omega)))
      rw [if_neg (by decide), if_pos (by omega)] at cN
      go_wp2_with fail
      refine cN.mono ?_
      rintro e wy ⟨rfl, rfl⟩
      clear cN
      have cO := pold_any hS.out 4611686018427387904 1
      have e1 : (M.map (·.2)).filterMap (oldA 4611686018427387904 1) = M.map (·.2) := old_all fun x hx => by
        obtain ⟨m, hm, rfl⟩ := List.mem_map.1 hx
        unfold oldA
        rw [(hF.out m hm).2, if_pos ago_max]
      have e2 : M.filterMap (leftF true (oldA 4611686018427387904 1)) = [] := old_none fun m hm => by
        unfold oldA
        rw [(hF.out m hm).2, if_pos ago_max]
      rw [e1, e2, List.length_map, hM] at cO
      clear e1 e2
      go_wp2_with fail
      refine cO.mono ?_
      rintro e wx ⟨A, c, rfl, -, hsx, hkx⟩
      clear cO
      have HBX := Lib.hid (below_kept hBw.out hkx hB1 fun n hn => by
        rcases hn with rfl | ⟨m, hm, rfl⟩
        · exact hb
        · exact (hF.out m hm).1)
      have HSX : Hid (SC wx p b 2047 (((64 : Nat)) : Int) []) := Lib.hid hsx
      have cN := pask_no HSX.out ⟨#[107]⟩ 1 1 (-1) (.inl (by decide))
      rw [if_pos (by decide)] at cN
      clear hsx hkx hF hS hBw
      go_wp2_with fail
      refine cN.mono ?_
      rintro e wv ⟨rfl, rfl⟩
      clear cN
      go_wp2_with fail
      go_loopw [23, 24, 25, 26, 27] (fun s23 _ _ _ _ wr => ∃ (k : Nat), s23 = .int .i64 (k : Int) ∧ 64 ≤ k ∧ k ≤ 1048575 ∧ Hid (SC wr p b 2047 (k : Int) []) ∧ Hid (Below B w1 wr)) (fun s23 _ _ _ _ _ => 1048575 - (intOf s23).toNat)
      case atStart => exact ⟨64, rfl, by omega, by omega, HSX, HBX⟩
      case round =>
        clear HSX HBX
        obtain ⟨k, rfl, hk1, hk2, hS, hBw⟩ := hrel
        obtain ⟨wz, hwz⟩ : ∃ wz : World, wz = wr := ⟨_, rfl⟩
        subst hwz
        by_cases hkl : k < 1048575
        · have a1 : (k : Int) < 1048575 := by omega
          have cA := pask_yes hS.out ⟨#[107]⟩ 1 (k : Int) 0 (by decide) (by simp) (by omega)
          obtain ⟨N0, Nn, hN, b1, b2, b3, b4⟩ := k_sum k hk2
          rw [← hN] at cA
          clear hN
          go_wp2_with fail
          refine cA.mono ?_
          rintro e w9 ⟨rfl, q, hq, hs9, hk9⟩
          clear cA
          have hqB : B ≤ q := Nat.le_trans (Nat.le_trans hB1 hBw.out.size) hq
          have HB9 := Lib.hid (below_kept hBw.out hk9 hB1 fun n hn => by rcases hn with rfl | rfl <;> assumption)
          have cT := ptell_yes (pre := []) (post := []) hs9
          clear hs9 hk9 hS hBw
          dsimp only at cT
          go_wp2_with fail
          refine cT.mono ?_
          rintro e w10 ⟨he, hs10, hk10⟩
          have he : e = .returned (.tuple #[.agg #[.int .i64 Nn, .string ⟨#[107]⟩, .int .i64 1, .int .i64 (k : Int), .int .i64 0, .int .i64 0, .bool false], .bool true]) := he
          subst he
          clear cT
          obtain ⟨w11, hw11⟩ : ∃ w11, w11 = w10.alloc (.cells #[.int .i64 Nn, .string ⟨#[107]⟩, .int .i64 1, .int .i64 (k : Int), .int .i64 0, .int .i64 0, .bool false] 37) := ⟨_, rfl⟩
          have hb11 : Below w10.heap.size w10 w11 := by rw [hw11]; exact (Below.refl _ _).alloc (Nat.le_refl _) _
          have HS11 : Hid (SC w11 p b 2047 ((k + 1 : Nat) : Int) []) := Lib.hid (by push_cast; exact hs10.below hb11)
          have hb10 := below_kept HB9.out hk10 hB1 fun n hn => by rw [hn]; exact hb
          have HB11 := Lib.hid (hb10.trans (Joins.below_le hb11 (Nat.le_trans hB1 hb10.size)))
          have HW11 := Lib.hid hw11
          clear hw11 hb11 hs10 hk10 hb10 HB9
          go_upto_region 26 with fail
          rw [← HW11.out]
          clear HW11
          go_wp2_with fail
          exact ⟨⟨k + 1, by go_num, by omega, by omega, HS11, HB11⟩, by simp [intOf]; omega⟩
        · have hke : k = 1048575 := by omega
          subst hke
          have cN := pask_no hS.out ⟨#[107]⟩ 1 1 0 (.inr (.inr (by decide)))
          rw [if_neg (by decide), if_neg (by simp)] at cN
          go_wp2_with fail
          refine cN.mono ?_
          rintro e wy ⟨rfl, rfl⟩
          clear cN
          go_wp2_with fail
          refine (mark_nil _ _).mono ?_
          rintro e v1 ⟨rfl, hv1⟩
          have HV1 := Lib.hid (hBw.out.trans (Joins.below_le hv1 (Nat.le_trans hB1 hBw.out.size)))
          clear hv1 hS hBw
          go_wp2_with fail
          refine (due_nil _ _ _).mono ?_
          rintro e v2 ⟨rfl, hv2⟩
          have HV2 := Lib.hid (HV1.out.trans (Joins.below_le hv2 (Nat.le_trans hB1 HV1.out.size)))
          clear hv2 HV1
          go_wp2_with fail
          refine (old_nil _ _ _).mono ?_
          rintro e v3 ⟨rfl, hv3⟩
          have HV3 := Lib.hid (HV2.out.trans (Joins.below_le hv3 (Nat.le_trans hB1 HV2.out.size)))
          clear hv3 HV2
          go_wp2_with fail
          refine (all_nil _).mono ?_
          rintro e v4 ⟨rfl, rfl⟩
          go_wp2_with fail
          refine (awake_any _).mono ?_
          rintro e v5 ⟨rfl, hv5⟩
          have HV5 := Lib.hid (HV3.out.trans (Joins.below_le hv5 (Nat.le_trans hB1 HV3.out.size)))
          clear hv5 HV3
          go_wp2_with fail
          go_ret
          exact ⟨rfl, by rw [← HBE.out]; exact HV5.out⟩
end Go.Proofs.Ytcagmjmnpdpgoaa
