/-
  The program's ring: what a sector says, how many pieces, the numbers that a ring tells. No statement is proved here. No condition.
-/
import Derived.Test.YtplpfhgdanclhaaRPiece
import Derived.Test.YtplpfhgdanclhaaRSec
import Derived.Test.YtplpfhgdanclhaaPOne
namespace Go.Proofs.Ytplpfhgdanclhaa
open Go.RowKit

theorem or_apart (a b k : Nat) (h : a < 2 ^ k) : a ||| (2 ^ k * b) = a + 2 ^ k * b := by
  rw [Nat.or_comm, ← Nat.two_pow_add_eq_or_of_lt h, Nat.add_comm]
theorem bits_or_i64 (a b : Nat) (ha : a < 9223372036854775808) (hb : b < 9223372036854775808) : bits .or .i64 (a : Int) (b : Int) = ((a ||| b : Nat) : Int) := by
  have hx : a ||| b < 2 ^ 63 := Nat.or_lt_two_pow (by omega) (by omega)
  show IntKind.i64.wrap ((BitVec.ofInt 64 (a : Int) ||| BitVec.ofInt 64 (b : Int)).toNat : Int) = _
  rw [BitVec.toNat_or, ofInt_u64 a (by omega), ofInt_u64 b (by omega), IntKind.wrap_i64]
  omega
theorem bits_or_u64 (a b : Nat) (ha : a < 18446744073709551616) (hb : b < 18446744073709551616) : bits .or .u64 (a : Int) (b : Int) = ((a ||| b : Nat) : Int) := by
  have hx : a ||| b < 2 ^ 64 := Nat.or_lt_two_pow (by omega) (by omega)
  show IntKind.u64.wrap ((BitVec.ofInt 64 (a : Int) ||| BitVec.ofInt 64 (b : Int)).toNat : Int) = _
  rw [BitVec.toNat_or, ofInt_u64 a (by omega), ofInt_u64 b (by omega), IntKind.wrap_u64]
  omega

/-- a new block of a sector's bytes -/
def SecB (w : World) (g : Nat) (s : List UInt8) : Prop := w.heap[g]? = some (.cells (sec s) 102 (0, 0)) ∧ s.length = 512
theorem SecB.cell {w : World} {g : Nat} {s : List UInt8} (h : SecB w g s) {i : Nat} (hi : i < 512) : w.cell? ⟨g, i, none⟩ = some (.int .u8 ((s.getD i 0).toNat : Int)) := by
  have hl := h.2
  have e : w.cell? ⟨g, i, none⟩ = (sec s)[i]? := by
    unfold World.cell?
    rw [h.1]
    rfl
  rw [e]
  unfold sec BS
  rw [List.getElem?_toArray, List.getElem?_map, List.getElem?_eq_getElem (by omega), List.getD_eq_getElem?_getD, List.getElem?_eq_getElem (by omega)]
  rfl

set_option maxHeartbeats 1000000 in
theorem psize_any (g : Nat) (s : List UInt8) (w : World) (h : SecB w g s) :
    Calls Try.prog 62 #[.pointer (some ⟨g, 0, none⟩)] w fun e w' => e = .returned (.int .i64 (lenOf s : Int)) ∧ Below w.heap.size w w' := by
  have c1 := h.cell (i := 9) (by omega)
  have c2 := h.cell (i := 10) (by omega)
  have b1 := (s.getD 9 0).toNat_lt
  have b2 := (s.getD 10 0).toNat_lt
  have hor : bits .or .i64 (((s.getD 9 0).toNat : Nat) : Int) (((s.getD 10 0).toNat : Nat) * 256 : Int) = (lenOf s : Int) := by
    rw [show (((s.getD 10 0).toNat : Nat) * 256 : Int) = ((2 ^ 8 * (s.getD 10 0).toNat : Nat) : Int) by omega, bits_or_i64 _ _ (by omega) (by omega), or_apart _ _ _ (by omega)]
    rfl
  obtain ⟨x, hx⟩ : ∃ x, x = (s.getD 9 0).toNat := ⟨_, rfl⟩
  obtain ⟨y, hy⟩ : ∃ y, y = (s.getD 10 0).toNat := ⟨_, rfl⟩
  obtain ⟨z, hz⟩ : ∃ z, z = lenOf s := ⟨_, rfl⟩
  rw [← hz] at hor ⊢
  rw [← hx] at c1 b1 hor
  rw [← hy] at c2 b2 hor
  clear hx hy hz h
  go_enter Try.func62, Try.ntmps62
  go_wp2_with fail
  go_region
  all_goals go_wp2_with fail
  all_goals go_ret
  all_goals exact ⟨rfl, (Below.refl _ _).drew⟩

theorem val_snoc (l : List UInt8) (x : UInt8) : val (l ++ [x]) = val l + 256 ^ l.length * x.toNat := by
  induction l with
  | nil => simp [val]
  | cons y l ih => rw [List.cons_append, val, val, ih, List.length_cons, Nat.pow_succ, Nat.mul_add]; rw [← Nat.mul_assoc, Nat.mul_comm 256 (256 ^ l.length), Nat.add_assoc]

theorem val_or (s : List UInt8) (r : Nat) (hr : r < 8) (hs : s.length = 512) : bits .or .u64 ((val (s.take r) : Nat) : Int) (IntKind.u64.wrap (((s.getD r 0).toNat : Int) * 2 ^ (8 * r))) = ((val (s.take (r + 1)) : Nat) : Int) := by
  have hx := (s.getD r 0).toNat_lt
  have hv := val_lt (s.take r)
  have hv' := val_lt (s.take (r + 1))
  have hl : (s.take r).length = r := by rw [List.length_take]; omega
  have hl' : (s.take (r + 1)).length = r + 1 := by rw [List.length_take]; omega
  rw [hl] at hv
  rw [hl'] at hv'
  have e0 : s.take (r + 1) = s.take r ++ [s.getD r 0] := take_snoc (by rw [List.getD_eq_getElem?_getD, List.getElem?_eq_getElem (by omega)]; rfl)
  have e1 : val (s.take (r + 1)) = val (s.take r) + 256 ^ r * (s.getD r 0).toNat := by rw [e0, val_snoc, hl]
  have e2 : (256 : Nat) ^ r = 2 ^ (8 * r) := by rw [show (256 : Nat) = 2 ^ 8 from rfl, ← Nat.pow_mul]
  have h8 : (256 : Nat) ^ (r + 1) ≤ 256 ^ 8 := Nat.pow_le_pow_right (by omega) (by omega)
  have h9 : (256 : Nat) ^ 8 = 18446744073709551616 := rfl
  have e3 : ((s.getD r 0).toNat : Int) * 2 ^ (8 * r) = ((2 ^ (8 * r) * (s.getD r 0).toNat : Nat) : Int) := by
    rw [Int.natCast_mul, Int.natCast_pow, Int.mul_comm]
    rfl
  rw [e2] at e1 hv
  have h10 : 2 ^ (8 * r) * (s.getD r 0).toNat < 18446744073709551616 := by omega
  rw [e3, IntKind.wrap_u64, show ((2 ^ (8 * r) * (s.getD r 0).toNat : Nat) : Int) % 18446744073709551616 = ((2 ^ (8 * r) * (s.getD r 0).toNat : Nat) : Int) by omega, bits_or_u64 _ _ (by omega) h10, or_apart _ _ _ hv, e1]

set_option maxHeartbeats 1000000 in
theorem pnumber_any (g : Nat) (s : List UInt8) (w : World) (h : SecB w g s) :
    Calls Try.prog 61 #[.pointer (some ⟨g, 0, none⟩)] w fun e w' => e = .returned (.int .u64 (val (s.take 8) : Int)) ∧ w = w' := by
  have H := Lib.hid h
  clear h
  go_enter Try.func61, Try.ntmps61
  go_wp2_with fail
  go_loopw [3, 5] (fun n i wr => ∃ r : Nat, i = .int .i64 r ∧ r ≤ 8 ∧ n = .int .u64 (val (s.take r) : Int) ∧ w = wr) (fun _ i _ => 8 - (intOf i).toNat)
  case atStart => exact ⟨0, rfl, by omega, rfl, rfl⟩
  case round =>
    obtain ⟨r, rfl, hr, rfl, rfl⟩ := hrel
    by_cases hrl : r < 8
    · have i1 : (r : Int) < 8 := by omega
      have i0 : (0 : Int) ≤ (r : Int) := by omega
      have i5 : (r : Int) < 512 := by omega
      have c1 := H.out.cell (i := r) (by omega)
      have hor := val_or s r hrl H.out.2
      obtain ⟨x, hx⟩ : ∃ x, x = (s.getD r 0).toNat := ⟨_, rfl⟩
      rw [← hx] at c1 hor
      obtain ⟨y, hy⟩ : ∃ y, y = val (s.take r) := ⟨_, rfl⟩
      rw [← hy] at hor ⊢
      have hxl : x < 256 := by rw [hx]; exact UInt8.toNat_lt _
      clear hx hy
      go_wp2_with fail
      exact ⟨⟨r + 1, by go_num, hrl, rfl, trivial⟩, by simp [intOf]; omega⟩
    · have i1 : ¬ (r : Int) < 8 := by omega
      obtain rfl : r = 8 := by omega
      go_wp2_with fail
      go_ret
      exact ⟨rfl, rfl⟩
end Go.Proofs.Ytplpfhgdanclhaa
