/-
  THE PLAIN MATHEMATICS OF LAYER 1: a number's bytes, seven bits a byte, and what is read of bytes; no program in sight. No condition.
-/
import Derived.Test.YtblbcoknefgcaaaRows
import Derived.WalkKit
namespace Go.Proofs.Ytblbcoknefgcaaa
open Go.RowKit

/-- a number's bytes -/
def uv (u : Nat) : List UInt8 := if u < 128 then [UInt8.ofNat u] else UInt8.ofNat (u % 128 + 128) :: uv (u / 128)
termination_by u
decreasing_by omega

theorem uv_small {u : Nat} (h : u < 128) : uv u = [UInt8.ofNat u] := by rw [uv, if_pos h]
theorem uv_large {u : Nat} (h : 128 ≤ u) : uv u = UInt8.ofNat (u % 128 + 128) :: uv (u / 128) := by rw [uv, if_neg (by omega)]

/-- a number of 64 bits -/
def U64 (u : Nat) : Prop := u < 18446744073709551616

/-- a number's bytes are few -/
theorem uv_length (k u : Nat) (h : u < 128 ^ (k + 1)) : (uv u).length ≤ k + 1 := by
  induction k generalizing u with
  | zero => rw [uv_small (by simpa using h)]; simp
  | succ k ih =>
    by_cases hs : u < 128
    · rw [uv_small hs]; simp
    · rw [uv_large (by omega), List.length_cons]
      have := ih (u / 128) (by rw [Nat.div_lt_iff_lt_mul (by omega)]; calc u < 128 ^ (k + 1 + 1) := h
                                                                         _ = 128 ^ (k + 1) * 128 := by rw [Nat.pow_succ])
      omega
theorem uv_length64 (u : Nat) (h : U64 u) : (uv u).length ≤ 10 := uv_length 9 u (Nat.lt_of_lt_of_le h (by decide))
theorem uv_pos (u : Nat) : 1 ≤ (uv u).length := by
  by_cases hs : u < 128
  · rw [uv_small hs]; simp
  · rw [uv_large (by omega)]; simp

theorem or128_all : ∀ x : Fin 256, bits BinOp.or IntKind.u8 (x.val : Int) 128 = ((x.val % 128 + 128 : Nat) : Int) := by decide +kernel
/-- 'byte(u)|128' -/
theorem or128 (q : Nat) : bits BinOp.or IntKind.u8 ((q : Int) % 256) 128 = ((UInt8.ofNat (q % 128 + 128)).toNat : Int) := by
  have h := or128_all ⟨q % 256, Nat.mod_lt _ (by omega)⟩
  have e : ((q % 256 : Nat) : Int) = (q : Int) % 256 := by omega
  simp only [e] at h
  rw [h, UInt8.toNat_ofNat']
  omega
theorem byte_of (q : Nat) (h : q < 128) : (q : Int) = ((UInt8.ofNat q).toNat : Int) := by
  rw [UInt8.toNat_ofNat']
  omega

/-- an integer of 64 bits -/
def I64 (n : Int) : Prop := -9223372036854775808 ≤ n ∧ n ≤ 9223372036854775807
/-- a number's place among those that are not below 0 -/
def zz (n : Int) : Nat := if n < 0 then (-2 * n - 1).toNat else (2 * n).toNat
theorem zz_fits (n : Int) (h : I64 n) : U64 (zz n) := by unfold I64 at h; unfold U64 zz; split <;> omega

theorem wrapU64 (n : Int) : IntKind.u64.wrap n = n % 18446744073709551616 := by simp [IntKind.wrap, IntKind.bits, IntKind.signed]
theorem fold_neg (n : Int) (h : I64 n) (h0 : n < 0) : IntKind.u64.wrap (IntKind.u64.wrap (2 * IntKind.u64.wrap (wrap64 (-wrap64 (n + 1)))) + 1) = (zz n : Int) := by
  unfold I64 at h
  unfold zz
  rw [if_pos h0]
  simp only [wrapU64, wrap64]
  omega
theorem fold_pos (n : Int) (h : I64 n) (h0 : ¬ n < 0) : IntKind.u64.wrap (2 * IntKind.u64.wrap n) = (zz n : Int) := by
  unfold I64 at h
  unfold zz
  rw [if_neg h0]
  simp only [wrapU64]
  omega

/-- what is read of bytes from the i-th of a number's on, u being read -/
def getU : Nat → Nat → List UInt8 → Option (Nat × List UInt8)
  | _, _, [] => none
  | i, u, x :: t =>
    if i = 9 ∧ 1 < x.toNat then none
    else if x.toNat < 128 then (if 0 < x.toNat ∨ i = 0 then some (u + x.toNat % 128 * 128 ^ i, t) else none)
    else getU (i + 1) (u + x.toNat % 128 * 128 ^ i) t

theorem and127_all : ∀ x : Fin 256, bits BinOp.and IntKind.u8 (x.val : Int) 127 = ((x.val % 128 : Nat) : Int) := by decide +kernel
theorem and127 (x : Nat) (h : x < 256) : bits BinOp.and IntKind.u8 (x : Int) 127 = ((x % 128 : Nat) : Int) := and127_all ⟨x, h⟩

theorem two_seven (k : Nat) : (2 : Nat) ^ (7 * k) = 128 ^ k := by rw [Nat.pow_mul]

/-- 'u |= uint64(x&127) << (7 * i)' -/
theorem orU (q k x : Nat) (hq : q < 128 ^ k) (hk : k ≤ 9) (hx : x < 256) (h9 : k = 9 → x ≤ 1) :
    bits BinOp.or IntKind.u64 (q : Int) (IntKind.u64.wrap (IntKind.u64.wrap (bits BinOp.and IntKind.u8 (x : Int) 127) * 2 ^ (7 * k))) = ((q + x % 128 * 128 ^ k : Nat) : Int) := by
  rw [and127 x hx]
  have hp : x % 128 * 128 ^ k < 18446744073709551616 := by
    by_cases h : k = 9
    · have := h9 h
      subst h
      have h1 : x % 128 ≤ 1 := by omega
      have := Nat.mul_le_mul_right (128 ^ 9) h1
      omega
    · have h8 : k ≤ 8 := by omega
      have h1 : (128 : Nat) ^ k ≤ 128 ^ 8 := Nat.pow_le_pow_right (by omega) h8
      have h2 : x % 128 ≤ 127 := by omega
      have := Nat.mul_le_mul h2 h1
      omega
  have hq' : q < 18446744073709551616 := by
    have h1 : (128 : Nat) ^ k ≤ 128 ^ 9 := Nat.pow_le_pow_right (by omega) hk
    omega
  have e1 : IntKind.u64.wrap (((x % 128 : Nat) : Int)) = ((x % 128 : Nat) : Int) := by rw [wrapU64]; omega
  have e2 : ((x % 128 : Nat) : Int) * 2 ^ (7 * k) = ((x % 128 * 128 ^ k : Nat) : Int) := by
    rw [← two_seven]
    simp
  rw [e1, e2]
  have e3 : IntKind.u64.wrap ((x % 128 * 128 ^ k : Nat) : Int) = ((x % 128 * 128 ^ k : Nat) : Int) := by rw [wrapU64]; omega
  rw [e3]
  rw [(bits_nat .u64 64 (by decide) (fun n h0 h1 => by rw [wrapU64]; omega) q (x % 128 * 128 ^ k) hq' hp).2]
  have e4 : q ||| x % 128 * 128 ^ k = q + x % 128 * 128 ^ k := by
    rw [Nat.or_comm, ← two_seven, Nat.mul_comm, ← Nat.two_pow_add_eq_or_of_lt (by rw [two_seven]; exact hq), Nat.add_comm]
  rw [e4]

/-- the number that stands at a place -/
def unzz (u : Nat) : Int := if u % 2 = 1 then -(u / 2 : Int) - 1 else (u / 2 : Int)
theorem unzz_zz (n : Int) : unzz (zz n) = n := by unfold unzz zz; split <;> split <;> omega
theorem unzz_fits (u : Nat) (h : U64 u) : I64 (unzz u) := by unfold U64 at h; unfold I64 unzz; split <;> omega
theorem zz_unzz (u : Nat) : zz (unzz u) = u := by unfold unzz zz; split <;> split <;> omega

theorem unfold_odd (u : Nat) (h : U64 u) (h0 : u % 2 = 1) : wrap64 (wrap64 (-wrap64 (IntKind.u64.wrap ((u : Int) / 2))) - 1) = unzz u := by
  unfold U64 at h
  unfold unzz
  rw [if_pos h0]
  simp only [wrapU64, wrap64]
  omega
theorem unfold_even (u : Nat) (h : U64 u) (h0 : ¬ u % 2 = 1) : wrap64 (IntKind.u64.wrap ((u : Int) / 2)) = unzz u := by
  unfold U64 at h
  unfold unzz
  rw [if_neg h0]
  simp only [wrapU64, wrap64]
  omega

/-- what is read has 64 bits -/
theorem getU_fits (l : List UInt8) : ∀ (i u q : Nat) (t : List UInt8), i ≤ 9 → u < 128 ^ i → getU i u l = some (q, t) → U64 q := by
  induction l with
  | nil => intro i u q t _ _ h; cases h
  | cons x l ih =>
    intro i u q t hi hu h
    unfold getU at h
    have hx := UInt8.toNat_lt x
    by_cases h9 : i = 9 ∧ 1 < x.toNat
    · rw [if_pos h9] at h; cases h
    · rw [if_neg h9] at h
      have hm : x.toNat % 128 * 128 ^ i ≤ 127 * 128 ^ i := Nat.mul_le_mul_right _ (by omega)
      by_cases hs : x.toNat < 128
      · rw [if_pos hs] at h
        by_cases hz : 0 < x.toNat ∨ i = 0
        · rw [if_pos hz] at h
          simp only [Option.some.injEq, Prod.mk.injEq] at h
          obtain ⟨rfl, _⟩ := h
          unfold U64
          by_cases hi9 : i = 9
          · have h1 : x.toNat % 128 ≤ 1 := by omega
            subst hi9
            have := Nat.mul_le_mul_right (128 ^ 9) h1
            omega
          · have h2 : (128 : Nat) ^ i ≤ 128 ^ 8 := Nat.pow_le_pow_right (by omega) (by omega)
            omega
        · rw [if_neg hz] at h; cases h
      · rw [if_neg hs] at h
        have hi9 : i + 1 ≤ 9 := by
          rcases Nat.lt_or_ge i 9 with h' | h'
          · exact h'
          · exact absurd ⟨by omega, by omega⟩ h9
        refine ih (i + 1) _ q t hi9 ?_ h
        rw [Nat.pow_succ]
        omega

/-- What is told of what is left: 'r' reads; behind a failure zero, and nothing is left. -/
def told {α : Type} (z : α) (r : List UInt8 → Option (α × List UInt8)) : Option (List UInt8) → α × Option (List UInt8)
  | none => (z, none)
  | some l => match r l with
    | none => (z, none)
    | some p => (p.1, some p.2)
def gNum (l : List UInt8) : Option (Int × List UInt8) := match getU 0 0 l with
  | none => none
  | some p => some (unzz p.1, p.2)
def gCount (most : Int) (l : List UInt8) : Option (Int × List UInt8) := match getU 0 0 l with
  | none => none
  | some p => if most < 0 ∨ 2147483647 < p.1 ∨ most < (p.1 : Int) then none else some ((p.1 : Int), p.2)
def gStr (most : Int) (l : List UInt8) : Option (List UInt8 × List UInt8) := match gCount most l with
  | none => none
  | some p => if p.2.length < p.1.toNat then none else some (p.2.take p.1.toNat, p.2.drop p.1.toNat)
def gFlag (l : List UInt8) : Option (Bool × List UInt8) := match l with
  | [] => none
  | x :: t => if 1 < x.toNat then none else some (x.toNat == 1, t)
theorem gCount_nat {most : Int} {l : List UInt8} {n : Int} {t : List UInt8} (h : gCount most l = some (n, t)) : ∃ q : Nat, n = (q : Int) ∧ q ≤ 2147483647 ∧ (q : Int) ≤ most := by
  unfold gCount at h
  split at h
  · cases h
  · split at h
    · cases h
    · simp only [Option.some.injEq, Prod.mk.injEq] at h
      exact ⟨_, h.1.symm, by omega, by omega⟩
end Go.Proofs.Ytblbcoknefgcaaa
