/-
  Whether an entry may be: the document's. No statement is proved here. No condition.
-/
import Derived.Test.YtackfigkhjdidaaLChk
import Derived.Test.YtackfigkhjdidaaLSame
namespace Go.Proofs.Ytackfigkhjdidaa
open Go.RowKit

theorem rising_last : ∀ (l : List Int) (t : Int), rising t l = true → t ≤ (l.getLast?).getD t
  | [], t, _ => Int.le_refl t
  | a :: l, t, h => by
    simp only [rising, Bool.and_eq_true, decide_eq_true_eq] at h
    have := rising_last l a h.2
    rw [List.getLast?_cons]
    simp only [Option.getD_some]
    omega
set_option maxHeartbeats 4000000 in
set_option maxRecDepth 100000 in
theorem checkD_any (e : EN) (v : Value) (w : World) (h : inR.N w Any v e.list) :
    Calls Try.prog 32 #[e.agg v] w fun r w' => r = .returned (.bool e.may) ∧ Below w.heap.size w w' := by
  obtain ⟨A, c, rfl, hlc, hcm⟩ := h.slice
  unfold maxLen at hcm
  unfold EN.agg
  obtain ⟨term, kind, data, list⟩ := e
  dsimp only at h hlc ⊢
  obtain ⟨w1, hw1⟩ : ∃ w1, w1 = w.alloc (.cells #[.int .i64 term, .int .u8 kind, .string data, .slice A list.length c] 50) := ⟨_, rfl⟩
  have hb : Below w.heap.size w w1 := by rw [hw1]; exact (Below.refl _ _).alloc (Nat.le_refl _) _
  have hq : w1.heap[w.heap.size]? = some (.cells #[.int .i64 term, .int .u8 kind, .string data, .slice A list.length c] 50 (0, 0)) := by rw [hw1]; exact heap_alloc_new w _
  obtain ⟨q0, q1, q2, q3⟩ : w1.cell? ⟨w.heap.size, 0, none⟩ = some (.int .i64 term) ∧ w1.cell? ⟨w.heap.size, 1, none⟩ = some (.int .u8 kind) ∧ w1.cell? ⟨w.heap.size, 2, none⟩ = some (.string data) ∧ w1.cell? ⟨w.heap.size, 3, none⟩ = some (.slice A list.length c) := ⟨(blk_cells hq).1 0, (blk_cells hq).1 1, (blk_cells hq).1 2, (blk_cells hq).1 3⟩
  have HB := Lib.hid hb
  have HW1 := Lib.hid hw1
  have HN := Lib.hid (h.grow hb)
  obtain ⟨q, hqq⟩ : ∃ q, q = w.heap.size := ⟨_, rfl⟩
  rw [← hqq] at q0 q1 q2 q3
  have HQ := Lib.hid hqq
  clear h hb hq hw1 hqq
  go_enter Try.func32, Try.ntmps32
  by_cases h1 : term < 1
  · go_upto_region 1 with fail
    rw [← HW1.out, ← HQ.out]
    go_wp2_with fail
    go_ret
    refine ⟨ret_b ?_, HB.out⟩
    unfold EN.may
    dsimp only
    rw [decide_eq_false (by omega), Bool.false_and]
  by_cases h2 : term > 2147483647
  · go_upto_region 1 with fail
    rw [← HW1.out, ← HQ.out]
    go_wp2_with fail
    go_ret
    refine ⟨ret_b ?_, HB.out⟩
    unfold EN.may
    dsimp only
    rw [decide_eq_false (by omega), Bool.false_and]
  have hm : EN.may ⟨term, kind, data, list⟩ = (if kind = 1 then decide (data.size = 0) && list.isEmpty else if kind = 2 then decide (data.size ≤ 256) && list.isEmpty else if kind = 3 then decide (data.size = 0) && voters list else false) := by
    unfold EN.may
    dsimp only
    rw [decide_eq_true (by omega), Bool.true_and]
  by_cases k1 : kind = 1
  · rw [if_pos k1] at hm
    subst k1
    by_cases hd : data.toList = []
    · rw [decide_eq_true (tl_nil.1 hd), Bool.true_and] at hm
      have HM := Lib.hid hm
      clear hm
      go_upto_region 1 with fail
      rw [← HW1.out, ← HQ.out]
      go_wp2_with fail
      go_ret
      refine ⟨ret_b ?_, HB.out⟩
      rw [HM.out]
      cases list <;> first | rfl | simp
    · rw [decide_eq_false (fun h => hd (tl_nil.2 h)), Bool.false_and] at hm
      have HM := Lib.hid hm
      clear hm
      go_upto_region 1 with fail
      rw [← HW1.out, ← HQ.out]
      go_wp2_with fail
      go_ret
      exact ⟨ret_b (by rw [HM.out]), HB.out⟩
  rw [if_neg k1] at hm
  by_cases k2 : kind = 2
  · rw [if_pos k2] at hm
    subst k2
    by_cases hd : (data.size : Int) ≤ 256
    · rw [decide_eq_true (by omega), Bool.true_and] at hm
      have HM := Lib.hid hm
      clear hm
      go_upto_region 1 with fail
      rw [← HW1.out, ← HQ.out]
      go_wp2_with fail
      go_ret
      refine ⟨ret_b ?_, HB.out⟩
      rw [HM.out]
      cases list <;> first | rfl | simp
    · rw [decide_eq_false (by omega), Bool.false_and] at hm
      have HM := Lib.hid hm
      clear hm
      go_upto_region 1 with fail
      rw [← HW1.out, ← HQ.out]
      go_wp2_with fail
      go_ret
      exact ⟨ret_b (by rw [HM.out]), HB.out⟩
  rw [if_neg k2] at hm
  by_cases k3 : kind = 3
  · rw [if_pos k3] at hm
    subst k3
    have HM := Lib.hid hm
    clear hm
    go_upto_region 1 with fail
    rw [← HW1.out, ← HQ.out]
    go_wp2_with fail
    go_loopw [3] (fun s3 wr => ∃ i : Nat, s3 = .int .i64 (i : Int) ∧ i ≤ list.length ∧ Hid (rising 0 (list.take i) = true ∧ ∃ n, wr = w1.drewN n)) (fun s3 _ => list.length - (intOf s3).toNat)
    case atStart => exact ⟨0, rfl, Nat.zero_le _, Lib.hid ⟨rfl, 0, rfl⟩⟩
    case round =>
      obtain ⟨i, rfl, hi, hs⟩ := hrel
      obtain ⟨wz, hwz⟩ : ∃ wz : World, wz = wr := ⟨_, rfl⟩
      subst hwz
      obtain ⟨d0, d1, d2, d3⟩ : wz.cell? ⟨q, 0, none⟩ = some (.int .i64 term) ∧ wz.cell? ⟨q, 1, none⟩ = some (.int .u8 3) ∧ wz.cell? ⟨q, 2, none⟩ = some (.string data) ∧ wz.cell? ⟨q, 3, none⟩ = some (.slice A list.length c) := by obtain ⟨n, hn⟩ := hs.out.2; rw [hn]; exact ⟨q0, q1, q2, q3⟩
      have hBz : Below w.heap.size w wz := by obtain ⟨n, hn⟩ := hs.out.2; rw [hn]; exact HB.out.trans ⟨rfl, rfl, rfl, Nat.le_refl _, fun _ _ => rfl⟩
      have HBZ := Lib.hid hBz
      clear hBz
      by_cases hil : i < list.length
      · have a1 : (i : Int) < (list.length : Int) := by omega
        have a0 : (0 : Int) ≤ (i : Int) := by omega
        obtain ⟨x, hx⟩ : ∃ x, list[i]? = some x := ⟨_, List.getElem?_eq_getElem hil⟩
        have hN : inR.N wz Any (.slice A list.length c) list := by obtain ⟨n, hn⟩ := hs.out.2; rw [hn]; exact HN.out
        obtain ⟨b, o, m, k, hv, -, -, y0⟩ := int_cell hN hx
        injection hv with v1 v2 v3
        subst v1 v2 v3
        have hsn := rising_snoc (list.take i) 0 x
        rw [← getLast_take hx, hs.out.1, Bool.true_and] at hsn
        obtain ⟨y, hy⟩ : ∃ y, y = ((list.take i).getLast?).getD 0 := ⟨_, rfl⟩
        rw [← hy] at hsn
        have hno : rising 0 (list.take (i + 1)) = false → Hid (EN.may ⟨term, 3, data, list⟩ = false) := fun hf => Lib.hid (by
          rw [HM.out]
          unfold voters
          rw [rising_take hf, Bool.false_and, Bool.and_false])
        have HSN := Lib.hid hsn
        have HX := Lib.hid hx
        have HN2 := Lib.hid hN
        have HY := Lib.hid hy
        clear hx hN hsn hy
        have ends : ∀ nq, Hid (∃ n, wz.drewN nq = w1.drewN n) := fun nq => Lib.hid (by obtain ⟨n0, hn0⟩ := hs.out.2; exact ⟨_, by rw [hn0, World.drewN_drewN]⟩)
        have ends2 : ∀ nq, Hid (Below w.heap.size w (wz.drewN nq)) := fun nq => Lib.hid (HBZ.out.trans ⟨rfl, rfl, rfl, Nat.le_refl _, fun _ _ => rfl⟩)
        have hy0 : 0 ≤ y := by rw [HY.out]; exact rising_last _ _ hs.out.1
        have HS := Lib.hid hs.out.1
        clear hs
        by_cases c1 : x < 1
        · have HF := hno (by rw [HSN.out]; simp; omega)
          clear hno hy0
          go_upto_region 12 with fail
          go_quiet (fail)
          have HE := ends2 nq
          clear ends ends2
          go_wp2_with fail
          go_ret
          exact ⟨ret_b (by rw [HF.out]), HE.out⟩
        by_cases c2 : x > 5
        · have HF := hno (by rw [HSN.out]; simp; omega)
          clear hno hy0
          go_upto_region 12 with fail
          go_quiet (fail)
          have HE := ends2 nq
          clear ends ends2
          go_wp2_with fail
          go_ret
          exact ⟨ret_b (by rw [HF.out]), HE.out⟩
        by_cases hi0 : i = 0
        · have HF : Hid (rising 0 (list.take (i + 1)) = true) := Lib.hid (by
            have hyz : y = 0 := by rw [HY.out, hi0]; rfl
            rw [HSN.out, hyz]
            simp
            omega)
          subst hi0
          rw [Nat.add_zero] at y0
          clear hno hy0
          go_upto_region 12 with fail
          go_quiet (fail)
          have HE := ends nq
          have HD : Hid (rising 0 (list.take 1) = true ∧ ∃ n, wz.drewN nq = w1.drewN n) := Lib.hid ⟨HF.out, HE.out⟩
          clear ends ends2 HE
          go_wp2_with fail
          exact ⟨⟨1, rfl, by omega, HD⟩, by simp [intOf]; omega⟩
        obtain ⟨k', hk⟩ : ∃ k, i = k + 1 := ⟨i - 1, by omega⟩
        obtain ⟨y', hy'⟩ : ∃ y', list[k']? = some y' := ⟨_, List.getElem?_eq_getElem (by omega)⟩
        obtain ⟨b', o', m', k9, hv, -, -, y1⟩ := int_cell HN2.out hy'
        injection hv with v1 v2 v3
        injection v1 with v1
        injection v1 with v1 v4
        subst v1 v2 v3 v4
        have hyy : y' = y := by rw [HY.out, hk, getLast_take hy', List.getLast?_concat]; rfl
        subst hyy
        have b0 : 0 < i := by omega
        have b1 : (0 : Int) ≤ (k' : Int) := by omega
        have b2 : (k' : Int) < (list.length : Int) := by omega
        have b3 : IntKind.i64.wrap ((i : Int) - 1) = (k' : Int) := by rw [IntKind.wrap_i64]; omega
        clear hy' hk hi0
        by_cases c3 : y' ≥ x
        · have HF := hno (by rw [HSN.out]; simp; omega)
          clear hno hy0
          go_upto_region 12 with fail
          go_quiet (fail)
          have HE := ends2 nq
          clear ends ends2
          go_wp2_with fail
          go_ret
          exact ⟨ret_b (by rw [HF.out]), HE.out⟩
        · have HF : Hid (rising 0 (list.take (i + 1)) = true) := Lib.hid (by rw [HSN.out]; simp; omega)
          clear hno hy0
          go_upto_region 12 with fail
          go_quiet (fail)
          have HE := ends nq
          have HD : Hid (rising 0 (list.take (i + 1)) = true ∧ ∃ n, wz.drewN nq = w1.drewN n) := Lib.hid ⟨HF.out, HE.out⟩
          clear ends ends2 HE
          go_wp2_with fail
          exact ⟨⟨i + 1, by go_num, by omega, HD⟩, by simp [intOf]; omega⟩
      · have a1 : ¬ (i : Int) < (list.length : Int) := by omega
        have hr : rising 0 list = true := by have := hs.out.1; rwa [List.take_of_length_le (by omega)] at this
        have hmm : EN.may ⟨term, 3, data, list⟩ = (decide (data.size = 0) && !list.isEmpty) := by rw [HM.out]; unfold voters; rw [hr, Bool.true_and]
        clear hs hr
        by_cases hd : data.toList = []
        · rw [decide_eq_true (tl_nil.1 hd), Bool.true_and] at hmm
          have HMM := Lib.hid hmm
          clear hmm
          go_wp2_with fail
          go_ret
          refine ⟨ret_b ?_, HBZ.out⟩
          rw [HMM.out]
          cases list <;> first | rfl | simp
        · rw [decide_eq_false (fun h => hd (tl_nil.2 h)), Bool.false_and] at hmm
          have HMM := Lib.hid hmm
          clear hmm
          go_wp2_with fail
          go_ret
          exact ⟨ret_b (by rw [HMM.out]), HBZ.out⟩
  rw [if_neg k3] at hm
  have HM := Lib.hid hm
  clear hm
  go_upto_region 1 with fail
  rw [← HW1.out, ← HQ.out]
  go_wp2_with fail
  go_ret
  exact ⟨ret_b (by rw [HM.out]), HB.out⟩
end Go.Proofs.Ytackfigkhjdidaa
