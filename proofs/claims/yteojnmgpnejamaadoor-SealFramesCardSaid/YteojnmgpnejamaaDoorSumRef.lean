/-
  The document's own sum (butteryref02: on, Sum, More) and its Same come to the same plain functions. Conditions: the bytes lie in memory.
-/
import Derived.Test.YteojnmgpnejamaaDoorSum
import Derived.Laws.ShiftsVarLaws
namespace Go.Proofs.YteojnmgpnejamaaDoor
open Go.RowKit

theorem bits_low1 (r : Nat) (h : r < 4294967296) : bits .and .u32 (r : Int) 1 = ((r % 2 : Nat) : Int) := by
  have h2 : (BitVec.ofInt 32 (1 : Int)).toNat = 1 := by decide
  show IntKind.u32.wrap ((BitVec.ofInt 32 (r : Int) &&& BitVec.ofInt 32 (1 : Int)).toNat : Int) = _
  rw [BitVec.toNat_and, ofInt_u32 r h, h2, IntKind.wrap_u32', show (1 : Nat) = 2 ^ 1 - 1 from rfl, Nat.and_two_pow_sub_one_eq_mod]
  omega

/-- one bit of the sum, the byte not taken in at once but bit by bit -/
theorem st1_late (r y : Nat) : st1 (r ^^^ y) = (if (r ^^^ y) % 2 = 1 then (r / 2) ^^^ 3988292384 else r / 2) ^^^ (y / 2) := by
  unfold st1
  rw [xor_half]
  split
  · rw [Nat.xor_assoc, Nat.xor_comm (y / 2), ← Nat.xor_assoc]
  · rfl

set_option maxHeartbeats 1000000 in
theorem refon_any (l : List UInt8) (v : Value) (s : Nat) (w : World) (hs : s < 4294967296) (hv : Rd w w.heap.size v l) (hl : l.length ≤ 140737488355328) :
    Calls Tryd.prog 19 #[.int .u32 (s : Int), v] w fun e w' => e = .returned (.int .u32 ((on s l : Nat) : Int)) ∧ w = w' := by
  obtain ⟨A, c, rfl, h1c, h2c, h3c, h4c⟩ := hv
  go_enter Tryd.func19, Tryd.ntmps19
  go_wp2_with fail
  go_loop [0, 5] (fun r i => ∃ q k : Nat, r = .int .u32 q ∧ q < 4294967296 ∧ i = .int .i64 k ∧ k ≤ l.length ∧ Hid (on q (l.drop k) = on s l)) (fun _ i => l.length - (intOf i).toNat)
  case atStart => exact ⟨s, 0, rfl, hs, rfl, by omega, rfl⟩
  case round =>
    obtain ⟨q, k, rfl, hq, rfl, hk, ho⟩ := hrel
    by_cases hlt : k < l.length
    · obtain ⟨g, o, rfl, hg, hc⟩ := h4c (fun h => by subst h; exact absurd hlt (Nat.not_lt_zero _))
      have hlt2 : (k : Int) < (l.length : Int) := by omega
      have hck : w.cell? ⟨g, o + k, none⟩ = some (.int .u8 (l[k].toNat : Int)) := hc k _ (List.getElem?_eq_getElem hlt)
      have hdr : on q (l.drop k) = on (crcB q l[k].toNat) (l.drop (k + 1)) := by rw [List.drop_eq_getElem_cons hlt, on_cons]
      rw [ho.out] at hdr
      obtain ⟨x, hxx⟩ : ∃ x, x = l[k].toNat := ⟨_, rfl⟩
      have hx256 : x < 256 := by rw [hxx]; exact l[k].toNat_lt
      rw [← hxx] at hck hdr
      have HD := Lib.hid hdr
      clear hdr hc hxx ho
      go_wp2_with fail
      go_loop [0, 6] (fun r j => ∃ p m : Nat, r = .int .u32 p ∧ p < 4294967296 ∧ j = .int .i64 m ∧ m ≤ 8 ∧ Hid (stN (8 - m) (p ^^^ x / 2 ^ m) = crcB q x)) (fun _ i => 8 - (intOf i).toNat)
      case atStart => exact ⟨q, 0, rfl, hq, rfl, by omega, by unfold Hid crcB; simp⟩
      case round =>
        obtain ⟨p, m, rfl, hp, rfl, hm, hi⟩ := hrel
        by_cases hm8 : m < 8
        · have hm2 : (m : Int) < 8 := by omega
          have hm0 : ¬ (m : Int) < 0 := by omega
          have hy : x / 2 ^ m < 256 := Nat.lt_of_le_of_lt (Nat.div_le_self _ _) hx256
          have hxy : (x : Int) / 2 ^ m % 4294967296 = ((x / 2 ^ m : Nat) : Int) := by
            have e : (x : Int) / 2 ^ m = ((x / 2 ^ m : Nat) : Int) := by simp
            rw [e]
            exact Int.emod_eq_of_lt (Int.natCast_nonneg _) (by have : ((x / 2 ^ m : Nat) : Int) < 256 := Int.ofNat_lt.2 hy; exact Int.lt_trans this (by decide))
          have hsucc : x / 2 ^ (m + 1) = x / 2 ^ m / 2 := by rw [Nat.pow_succ, Nat.div_div_eq_div_mul]
          have hlate := st1_late p (x / 2 ^ m)
          have hst : stN (8 - m) (p ^^^ x / 2 ^ m) = stN (8 - (m + 1)) (st1 (p ^^^ x / 2 ^ m)) := by rw [show 8 - m = (8 - (m + 1)) + 1 by omega]; rfl
          rw [hi.out, hlate, ← hsucc] at hst
          obtain ⟨y, hyy⟩ : ∃ y, y = x / 2 ^ m := ⟨_, rfl⟩
          rw [← hyy] at hy hxy hst
          have hz : p ^^^ y < 4294967296 := Nat.xor_lt_two_pow (n := 32) hp (by omega)
          have hb1 := bits_xor_u32 p y hp (by omega)
          have hb2 := bits_low1 _ hz
          have hC : bits .xor .u32 ((p : Int) / 2) 3988292384 = ((p / 2 ^^^ 3988292384 : Nat) : Int) := by
            rw [show (p : Int) / 2 = ((p / 2 : Nat) : Int) by omega]
            exact bits_xor_u32 (p / 2) 3988292384 (by omega) (by decide)
          obtain ⟨z, hzz⟩ : ∃ z, z = p ^^^ y := ⟨_, rfl⟩
          rw [← hzz] at hz hb1 hb2 hst
          have hClt : p / 2 ^^^ 3988292384 < 4294967296 := Nat.xor_lt_two_pow (n := 32) (by omega) (by decide)
          clear hi hyy hzz hsucc hlate
          by_cases hbit : z % 2 = 1
          · have hb3 : ((((z % 2 : Nat) : Int)) == 1) = true := by rw [hbit]; rfl
            rw [if_pos hbit] at hst
            have HS := Lib.hid hst.symm
            obtain ⟨c1, hc1⟩ : ∃ c1, c1 = p / 2 ^^^ 3988292384 := ⟨_, rfl⟩
            have HC1 := Lib.hid hc1
            rw [← hc1] at hC hClt
            clear hst hc1 hbit
            go_wp2_with fail
            refine ⟨⟨c1, m + 1, rfl, hClt, by go_num, hm8, ?_⟩, by simp [intOf]; omega⟩
            rw [HC1.out]
            exact HS
          · have hb3 : ((((z % 2 : Nat) : Int)) == 1) = false := by simp; omega
            rw [if_neg hbit] at hst
            have HS := Lib.hid hst.symm
            clear hst hbit
            go_wp2_with fail
            exact ⟨⟨p / 2, m + 1, by go_num, by omega, by go_num, hm8, HS⟩, by simp [intOf]; omega⟩
        · have hm2 : ¬ (m : Int) < 8 := by omega
          obtain rfl : m = 8 := by omega
          have hpe : p = crcB q x := by
            have := hi.out
            rw [show x / 2 ^ 8 = 0 by omega, Nat.xor_zero] at this
            exact this
          have HP := Lib.hid hpe
          clear hpe hi
          go_wp2_with fail
          refine ⟨⟨p, k + 1, rfl, hp, by go_num, hlt, ?_⟩, by simp [intOf]; omega⟩
          rw [HP.out]
          exact HD.out.symm
    · have hlt2 : ¬ (k : Int) < (l.length : Int) := by omega
      obtain rfl : k = l.length := by omega
      have hqe : q = on s l := by
        have := ho.out
        rw [List.drop_length] at this
        exact this
      subst hqe
      go_wp2_with fail
      go_ret
      exact ⟨rfl, rfl⟩

theorem refmore_any (l : List UInt8) (v : Value) (s : Nat) (w : World) (hs : s < 4294967296) (hv : Rd w w.heap.size v l) (hl : l.length ≤ 140737488355328) :
    Calls Tryd.prog 13 #[.int .u32 (s : Int), v] w fun e w' => e = .returned (.int .u32 ((sumN s l : Nat) : Int)) ∧ w = w' := by
  have h1 := no_u32 s hs
  have hn := noN_lt hs
  have hfin : noN (on (noN s) l) = sumN s l := rfl
  obtain ⟨a, ha⟩ : ∃ a, a = noN s := ⟨_, rfl⟩
  rw [← ha] at h1 hn hfin
  have h2 := no_u32 _ (on_lt a l hn)
  rw [hfin] at h2
  clear ha hfin
  go_enter Tryd.func13, Tryd.ntmps13
  go_wp2_with fail
  refine (refon_any l v a _ hn hv hl).mono ?_
  rintro e w1 ⟨rfl, rfl⟩
  go_wp2_with fail
  go_ret
  exact ⟨rfl, rfl⟩

theorem refsum_any (l : List UInt8) (v : Value) (w : World) (hv : Rd w w.heap.size v l) (hl : l.length ≤ 140737488355328) :
    Calls Tryd.prog 11 #[v] w fun e w' => e = .returned (.int .u32 ((sumN 0 l : Nat) : Int)) ∧ w = w' := by
  have h2 := no_u32 _ (on_lt 4294967295 l (by decide))
  have hfin : noN (on 4294967295 l) = sumN 0 l := rfl
  rw [hfin] at h2
  have h3 := refon_any l v 4294967295 w (by decide) hv hl
  go_enter Tryd.func11, Tryd.ntmps11
  go_wp2_with fail
  refine h3.mono ?_
  rintro e w1 ⟨rfl, rfl⟩
  go_wp2_with fail
  go_ret
  exact ⟨rfl, rfl⟩

set_option maxHeartbeats 1000000 in
theorem same_any (l m : List UInt8) (v x : Value) (w : World) (hv : Rd w w.heap.size v l) (hx : Rd w w.heap.size x m) (hl : l.length ≤ 140737488355328) (hm : m.length ≤ 140737488355328) :
    Calls Tryd.prog 14 #[v, x] w fun e w' => e = .returned (.bool (decide (l = m))) ∧ Below w.heap.size w w' := by
  obtain ⟨A, c, rfl, -, -, -, h4⟩ := hv
  obtain ⟨A2, c2, rfl, -, -, -, k4⟩ := hx
  by_cases hlen : l.length = m.length
  · have hne : ((l.length : Int) != (m.length : Int)) = false := by rw [hlen]; simp
    have hne2 : ((m.length : Int) != (m.length : Int)) = false := by simp
    go_enter Tryd.func14, Tryd.ntmps14
    go_wp2_with fail
    go_loopw [5] (fun i wr => ∃ k : Nat, i = .int .i64 k ∧ k ≤ m.length ∧ Hid (l.take k = m.take k) ∧ Below w.heap.size w wr) (fun i _ => m.length - (intOf i).toNat)
    case atStart => exact ⟨0, rfl, by omega, rfl, Below.refl _ _⟩
    case round =>
      obtain ⟨k, rfl, hk, he, hb⟩ := hrel
      by_cases hlt : k < m.length
      · have hll : k < l.length := by omega
        obtain ⟨g, o, rfl, hg, hc⟩ := h4 (fun h => by subst h; exact absurd hll (Nat.not_lt_zero _))
        obtain ⟨g2, o2, rfl, hg2, hc2⟩ := k4 (fun h => by subst h; exact absurd hlt (Nat.not_lt_zero _))
        have hlt2 : (k : Int) < (m.length : Int) := by omega
        have hlt3 : (k : Int) < (l.length : Int) := by omega
        have hk0 : (0 : Int) ≤ (k : Int) := by omega
        have hx0 : wr.drew.cell? ⟨g, o + k, none⟩ = some (.int .u8 (l[k].toNat : Int)) := (hb.drew.cell (p := ⟨g, o + k, none⟩) hg).trans (hc k _ (List.getElem?_eq_getElem hll))
        have hy0 : wr.drew.cell? ⟨g2, o2 + k, none⟩ = some (.int .u8 (m[k].toNat : Int)) := (hb.drew.cell (p := ⟨g2, o2 + k, none⟩) hg2).trans (hc2 k _ (List.getElem?_eq_getElem hlt))
        have hbd := hb.drew
        by_cases hxy : l[k] = m[k]
        · have hcmp : ((l[k].toNat : Int) != (m[k].toNat : Int)) = false := by rw [hxy]; simp
          have hnext : Hid (l.take (k + 1) = m.take (k + 1)) := by
            have := he.out
            unfold Hid
            rw [← List.take_append_getElem (h := hll), ← List.take_append_getElem (h := hlt), this, hxy]
          obtain ⟨x1, hx1⟩ : ∃ x1, x1 = (l[k].toNat : Int) := ⟨_, rfl⟩
          obtain ⟨y1, hy1⟩ : ∃ y1, y1 = (m[k].toNat : Int) := ⟨_, rfl⟩
          rw [← hx1] at hx0 hcmp
          rw [← hy1] at hy0 hcmp
          clear hx1 hy1 hxy hc hc2 h4 k4 he
          go_wp2_with fail
          go_region
          all_goals go_wp2_with fail
          all_goals exact ⟨⟨k + 1, by go_num, hlt, hnext, hbd⟩, by simp [intOf]; omega⟩
        · have hcmp : ((l[k].toNat : Int) != (m[k].toNat : Int)) = true := by
            simp
            intro h
            exact hxy (UInt8.toNat_inj.1 (by omega))
          have hno : decide (l = m) = false := by
            refine decide_eq_false fun h => hxy ?_
            subst h
            rfl
          obtain ⟨x1, hx1⟩ : ∃ x1, x1 = (l[k].toNat : Int) := ⟨_, rfl⟩
          obtain ⟨y1, hy1⟩ : ∃ y1, y1 = (m[k].toNat : Int) := ⟨_, rfl⟩
          rw [← hx1] at hx0 hcmp
          rw [← hy1] at hy0 hcmp
          have HN := Lib.hid hno
          clear hx1 hy1 hxy hc hc2 h4 k4 he hno
          go_wp2_with fail
          go_region
          all_goals go_wp2_with fail
          all_goals go_ret
          all_goals exact ⟨congrArg (fun b => Ending.returned (.bool b)) HN.out.symm, hbd⟩
      · have hlt2 : ¬ (k : Int) < (m.length : Int) := by omega
        have hlt3 : ¬ (k : Int) < (l.length : Int) := by omega
        have hyes : decide (l = m) = true := by
          have := he.out
          rw [show k = m.length by omega, List.take_length, ← hlen, List.take_length] at this
          exact decide_eq_true this
        have HY := Lib.hid hyes
        clear hyes he
        go_wp2_with fail
        go_ret
        exact ⟨congrArg (fun b => Ending.returned (.bool b)) HY.out.symm, hb⟩
  · have hne : ((l.length : Int) != (m.length : Int)) = true := by simp; omega
    have hno : decide (l = m) = false := decide_eq_false fun h => hlen (by rw [h])
    have HN := Lib.hid hno
    clear hno
    go_enter Tryd.func14, Tryd.ntmps14
    go_wp2_with fail
    go_ret
    exact ⟨congrArg (fun b => Ending.returned (.bool b)) HN.out.symm, Below.refl _ _⟩
end Go.Proofs.YteojnmgpnejamaaDoor
