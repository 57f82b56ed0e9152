/-
  Plain facts of frames: what is sealed is opened as it was; what is opened is sealed as it was. No program in sight.
-/
import Derived.Test.YtfmaocinckeagaaDoorOpen
namespace Go.Proofs.YtfmaocinckeagaaDoor

theorem byteAt_app {l m : List UInt8} {i : Nat} (h : i < l.length) : byteAt (l ++ m) i = byteAt l i := by
  unfold byteAt
  simp [List.getD, List.getElem?_append, h]
theorem toNat_of (n : Nat) : (UInt8.ofNat n).toNat = n % 256 := by rw [UInt8.toNat_ofNat']
theorem fourAt_le4u {S : Nat} (h : S < 4294967296) : fourAt (le4u S) = S := by
  show (UInt8.ofNat (S % 256)).toNat + 256 * (UInt8.ofNat (S / 256 % 256)).toNat + 65536 * (UInt8.ofNat (S / 65536 % 256)).toNat + 16777216 * (UInt8.ofNat (S / 16777216)).toNat = S
  rw [toNat_of, toNat_of, toNat_of, toNat_of]
  omega
theorem bareOf_at (k : UInt8) (l : List UInt8) : (bareOf k l).getD 0 0 = k ∧ byteAt (bareOf k l) 1 = l.length % 256 ∧ byteAt (bareOf k l) 2 = l.length / 256 % 256 := by
  refine ⟨rfl, ?_, ?_⟩
  · show (UInt8.ofNat (l.length % 256)).toNat = _
    rw [toNat_of]; omega
  · show (UInt8.ofNat (l.length / 256 % 256)).toNat = _
    rw [toNat_of]; omega

theorem opened_frame (k : UInt8) (l : List UInt8) (h : l.length ≤ 8192) : openedOf (frame k l) = (0, k, l) := by
  have hlen := frame_length k l
  have hb := bareOf_length k l
  have hS := sumN_lt (s := 0) (bareOf k l) (by decide)
  have h4 := le4u_length (sumN 0 (bareOf k l))
  obtain ⟨a0, a1, a2⟩ := bareOf_at k l
  have e1 : byteAt (frame k l) 1 = l.length % 256 := by unfold frame; rw [byteAt_app (by omega), a1]
  have e2 : byteAt (frame k l) 2 = l.length / 256 % 256 := by unfold frame; rw [byteAt_app (by omega), a2]
  have e0 : (frame k l).getD 0 0 = k := rfl
  have hf : formOf (frame k l) = true := by
    unfold formOf
    rw [hlen, e1, e2]
    simp
    omega
  have hs : summed (frame k l) = true := by
    unfold summed
    rw [hlen, show l.length + 7 - 4 = (bareOf k l).length by omega]
    unfold frame
    rw [List.take_left, List.drop_left, fourAt_le4u hS]
    simp
  have hbody : bodyOf (frame k l) = l := by
    unfold bodyOf
    rw [hlen, show l.length + 7 - 7 = l.length by omega]
    unfold frame bareOf
    rw [List.append_assoc, show (3 : Nat) = (headOf k l.length).length from rfl, List.drop_left, List.take_left]
  unfold openedOf
  rw [hf, hs, hbody, e0]
  rfl

theorem u8_eq {a : UInt8} {n : Nat} (h : a.toNat = n % 256) : UInt8.ofNat n = a := by
  apply UInt8.toNat_inj.1
  rw [toNat_of, h]

theorem frame_opened {b l : List UInt8} {k : UInt8} (h : openedOf b = (0, k, l)) : l.length ≤ 8192 ∧ frame k l = b := by
  unfold openedOf at h
  by_cases hf : formOf b = true
  · rw [if_pos hf] at h
    by_cases hs : summed b = true
    · rw [if_pos hs] at h
      simp only [Prod.mk.injEq, true_and] at h
      obtain ⟨rfl, rfl⟩ := h
      unfold formOf at hf
      simp only [Bool.and_eq_true, decide_eq_true_eq] at hf
      obtain ⟨⟨h7, h8⟩, hn⟩ := hf
      match b, h7 with
      | x0 :: x1 :: x2 :: r, h7 =>
        have hr : r.length + 3 = (x0 :: x1 :: x2 :: r).length := rfl
        have hbody : bodyOf (x0 :: x1 :: x2 :: r) = r.take (r.length - 4) := by
          show r.take (r.length + 1 + 1 + 1 - 7) = _
          congr 1
        have hbl : (r.take (r.length - 4)).length = r.length - 4 := by rw [List.length_take]; omega
        have e1 : byteAt (x0 :: x1 :: x2 :: r) 1 = x1.toNat := rfl
        have e2 : byteAt (x0 :: x1 :: x2 :: r) 2 = x2.toNat := rfl
        rw [e1, e2] at hn
        have l1 := x1.toNat_lt
        have l2 := x2.toNat_lt
        unfold summed at hs
        rw [decide_eq_true_eq] at hs
        have ht : (x0 :: x1 :: x2 :: r).take ((x0 :: x1 :: x2 :: r).length - 4) = x0 :: x1 :: x2 :: r.take (r.length - 4) := by
          rw [← hr, show r.length + 3 - 4 = (r.length - 4) + 3 by omega]
          rfl
        have hd : (x0 :: x1 :: x2 :: r).drop ((x0 :: x1 :: x2 :: r).length - 4) = r.drop (r.length - 4) := by
          rw [← hr, show r.length + 3 - 4 = (r.length - 4) + 3 by omega]
          rfl
        rw [ht, hd] at hs
        have hbare : bareOf x0 (r.take (r.length - 4)) = x0 :: x1 :: x2 :: r.take (r.length - 4) := by
          unfold bareOf headOf
          rw [hbl, u8_eq (a := x1) (by omega), u8_eq (a := x2) (by omega)]
          rfl
        refine ⟨by rw [hbody, hbl]; omega, ?_⟩
        show frame x0 (bodyOf (x0 :: x1 :: x2 :: r)) = _
        rw [hbody]
        unfold frame
        rw [hbare, hs]
        have hdl : (r.drop (r.length - 4)).length = 4 := by rw [List.length_drop]; omega
        have h4 : le4u (fourAt (r.drop (r.length - 4))) = r.drop (r.length - 4) := by
          match hq : r.drop (r.length - 4), hdl with
          | [y0, y1, y2, y3], _ =>
            have m0 := y0.toNat_lt
            have m1 := y1.toNat_lt
            have m2 := y2.toNat_lt
            have m3 := y3.toNat_lt
            have ef : fourAt [y0, y1, y2, y3] = y0.toNat + 256 * y1.toNat + 65536 * y2.toNat + 16777216 * y3.toNat := rfl
            show [UInt8.ofNat (fourAt [y0, y1, y2, y3] % 256), UInt8.ofNat (fourAt [y0, y1, y2, y3] / 256 % 256), UInt8.ofNat (fourAt [y0, y1, y2, y3] / 65536 % 256), UInt8.ofNat (fourAt [y0, y1, y2, y3] / 16777216)] = _
            rw [ef, u8_eq (a := y0) (by omega), u8_eq (a := y1) (by omega), u8_eq (a := y2) (by omega), u8_eq (a := y3) (by omega)]
        rw [h4]
        show x0 :: x1 :: x2 :: (r.take (r.length - 4) ++ r.drop (r.length - 4)) = _
        rw [List.take_append_drop]
    · rw [if_neg hs] at h
      simp at h
  · rw [if_neg hf] at h
    simp at h
end Go.Proofs.YtfmaocinckeagaaDoor
