/-
  The document's own sum (butteryref02: on, Sum, More) and its Same come to the same plain functions. Conditions: the bytes lie in memory.
-/
import Derived.Test.YtfmaocinckeagaaDoorSum
import Derived.Laws.ShiftsVarLaws
namespace Go.Proofs.YtfmaocinckeagaaDoor
open Go.RowKit

theorem bits_low1 (r : Nat) (h : r < 4294967296) : bits .and .u32 (r : Int) 1 = ((r % 2 : Nat) : Int) := by
  have h2 : (BitVec.ofInt 32 (1 : Int)).toNat = 1 := by decide
  show IntKind.u32.wrap ((BitVec.ofInt 32 (r : Int) &&& BitVec.ofInt 32 (1 : Int)).toNat : Int) = _
  rw [BitVec.toNat_and, ofInt_u32 r h, h2, IntKind.wrap_u32', show (1 : Nat) = 2 ^ 1 - 1 from rfl, Nat.and_two_pow_sub_one_eq_mod]
  omega

/-- one bit of the sum, the byte not taken in at once but bit by bit -/
theorem st1_late (r y : Nat) : st1 (r ^^^ y) = (if (r ^^^ y) % 2 = 1 then (r / 2) ^^^ 3988292384 else r / 2) ^^^ (y / 2) := by
  unfold st1
  rw [xor_half]
  split
  · rw [Nat.xor_assoc, Nat.xor_comm (y / 2), ← Nat.xor_assoc]
  · rfl

set_option maxHeartbeats 1000000 in
theorem refon_any (l : List UInt8) (v : Value) (s : Nat) (w : World) (hs : s < 4294967296) (hv : Rd w w.heap.size v l) (hl : l.length ≤ 140737488355328) :
    Calls Tryd.prog 45 #[.int .u32 (s : Int), v] w fun e w' => e = .returned (.int .u32 ((on s l : Nat) : Int)) ∧ w = w' := by
  obtain ⟨A, c, rfl, h1c, h2c, h3c, h4c⟩ := hv
  go_enter Tryd.func45, Tryd.ntmps45
  go_wp2_with fail
  go_loop [0, 5] (fun r i => ∃ q k : Nat, r = .int .u32 q ∧ q < 4294967296 ∧ i = .int .i64 k ∧ k ≤ l.length ∧ Hid (on q (l.drop k) = on s l)) (fun _ i => l.length - (intOf i).toNat)
  case atStart => exact ⟨s, 0, rfl, hs, rfl, by omega, rfl⟩
  case round =>
    obtain ⟨q, k, rfl, hq, rfl, hk, ho⟩ := hrel
    by_cases hlt : k < l.length
    · obtain ⟨g, o, rfl, hg, hc⟩ := h4c (fun h => by subst h; exact absurd hlt (Nat.not_lt_zero _))
      have hlt2 : (k : Int) < (l.length : Int) := by omega
      have hck : w.cell? ⟨g, o + k, none⟩ = some (.int .u8 (l[k].toNat : Int)) := hc k _ (List.getElem?_eq_getElem hlt)
      have hdr : on q (l.drop k) = on (crcB q l[k].toNat) (l.drop (k + 1)) := by rw [List.drop_eq_getElem_cons hlt, on_cons]
      rw [ho.out] at hdr
      obtain ⟨x, hxx⟩ : ∃ x, x = l[k].toNat := ⟨_, rfl⟩
      have hx256 : x < 256 := by rw [hxx]; exact l[k].toNat_lt
      rw [← hxx] at hck hdr
      have HD := Lib.hid hdr
      clear hdr hc hxx ho
      go_wp2_with fail
      go_loop [0, 6] (fun r j => ∃ p m : Nat, r = .int .u32 p ∧ p < 4294967296 ∧ j = .int .i64 m ∧ m ≤ 8 ∧ Hid (stN (8 - m) (p ^^^ x / 2 ^ m) = crcB q x)) (fun _ i => 8 - (intOf i).toNat)
      case atStart => exact ⟨q, 0, rfl, hq, rfl, by omega, by unfold Hid crcB; simp⟩
      case round =>
        obtain ⟨p, m, rfl, hp, rfl, hm, hi⟩ := hrel
        by_cases hm8 : m < 8
        · have hm2 : (m : Int) < 8 := by omega
          have hm0 : ¬ (m : Int) < 0 := by omega
          have hy : x / 2 ^ m < 256 := Nat.lt_of_le_of_lt (Nat.div_le_self _ _) hx256
          have hxy : (x : Int) / 2 ^ m % 4294967296 = ((x / 2 ^ m : Nat) : Int) := by
            have e : (x : Int) / 2 ^ m = ((x / 2 ^ m : Nat) : Int) := by simp
            rw [e]
            exact Int.emod_eq_of_lt (Int.natCast_nonneg _) (by have : ((x / 2 ^ m : Nat) : Int) < 256 := Int.ofNat_lt.2 hy; exact Int.lt_trans this (by decide))
          have hsucc : x / 2 ^ (m + 1) = x / 2 ^ m / 2 := by rw [Nat.pow_succ, Nat.div_div_eq_div_mul]
          have hlate := st1_late p (x / 2 ^ m)
          have hst : stN (8 - m) (p ^^^ x / 2 ^ m) = stN (8 - (m + 1)) (st1 (p ^^^ x / 2 ^ m)) := by rw [show 8 - m = (8 - (m + 1)) + 1 by omega]; rfl
          rw [hi.out, hlate, ← hsucc] at hst
          obtain ⟨y, hyy⟩ : ∃ y, y = x / 2 ^ m := ⟨_, rfl⟩
          rw [← hyy] at hy hxy hst
          have hz : p ^^^ y < 4294967296 := Nat.xor_lt_two_pow (n := 32) hp (by omega)
          have hb1 := bits_xor_u32 p y hp (by omega)
          have hb2 := bits_low1 _ hz
          have hC : bits .xor .u32 ((p : Int) / 2) 3988292384 = ((p / 2 ^^^ 3988292384 : Nat) : Int) := by
            rw [show (p : Int) / 2 = ((p / 2 : Nat) : Int) by omega]
            exact bits_xor_u32 (p / 2) 3988292384 (by omega) (by decide)
          obtain ⟨z, hzz⟩ : ∃ z, z = p ^^^ y := ⟨_, rfl⟩
          rw [← hzz] at hz hb1 hb2 hst
          have hClt : p / 2 ^^^ 3988292384 < 4294967296 := Nat.xor_lt_two_pow (n := 32) (by omega) (by decide)
          clear hi hyy hzz hsucc hlate
          by_cases hbit : z % 2 = 1
          · have hb3 : ((((z % 2 : Nat) : Int)) == 1) = true := by rw [hbit]; rfl
            rw [if_pos hbit] at hst
            have HS := Lib.hid hst.symm
            obtain ⟨c1, hc1⟩ : ∃ c1, c1 = p / 2 ^^^ 3988292384 := ⟨_, rfl⟩
            have HC1 := Lib.hid hc1
            rw [← hc1] at hC hClt
            clear hst hc1 hbit
            go_wp2_with fail
            refine ⟨⟨c1, m + 1, rfl, hClt, by go_num, hm8, ?_⟩, by simp [intOf]; omega⟩
            rw [HC1.out]
            exact HS
          · have hb3 : ((((z % 2 : Nat) : Int)) == 1) = false := by simp; omega
            rw [if_neg hbit] at hst
            have HS := Lib.hid hst.symm
            clear hst hbit
            go_wp2_with fail
            exact ⟨⟨p / 2, m + 1, by go_num, by omega, by go_num, hm8, HS⟩, by simp [intOf]; omega⟩
        · have hm2 : ¬ (m : Int) < 8 := by omega
          obtain rfl : m = 8 := by omega
          have hpe : p = crcB q x := by
            have := hi.out
            rw [show x / 2 ^ 8 = 0 by omega, Nat.xor_zero] at this
            exact this
          have HP := Lib.hid hpe
          clear hpe hi
          go_wp2_with fail
          refine ⟨⟨p, k + 1, rfl, hp, by go_num, hlt, ?_⟩, by simp [intOf]; omega⟩
          rw [HP.out]
          exact HD.out.symm
    · have hlt2 : ¬ (k : Int) < (l.length : Int) := by omega
      obtain rfl : k = l.length := by omega
      have hqe : q = on s l := by
        have := ho.out
        rw [List.drop_length] at this
        exact this
      subst hqe
      go_wp2_with fail
      go_ret
      exact ⟨rfl, rfl⟩

theorem refsum_any (l : List UInt8) (v : Value) (w : World) (hv : Rd w w.heap.size v l) (hl : l.length ≤ 140737488355328) :
    Calls Tryd.prog 29 #[v] w fun e w' => e = .returned (.int .u32 ((sumN 0 l : Nat) : Int)) ∧ w = w' := by
  have h2 := no_u32 _ (on_lt 4294967295 l (by decide))
  have hfin : noN (on 4294967295 l) = sumN 0 l := rfl
  rw [hfin] at h2
  have h3 := refon_any l v 4294967295 w (by decide) hv hl
  go_enter Tryd.func29, Tryd.ntmps29
  go_wp2_with fail
  refine h3.mono ?_
  rintro e w1 ⟨rfl, rfl⟩
  go_wp2_with fail
  go_ret
  exact ⟨rfl, rfl⟩

end Go.Proofs.YtfmaocinckeagaaDoor
