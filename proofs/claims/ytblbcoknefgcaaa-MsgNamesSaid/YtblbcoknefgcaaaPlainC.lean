/-
  PLAIN MATHEMATICS: what was written is read so; what is read of the beginning of some bytes is read of the bytes; what is read has just the bytes that are written of it. No program in sight, no condition but those that the lemmas name.
-/
import Derived.Test.YtblbcoknefgcaaaPlain
namespace Go.Proofs.Ytblbcoknefgcaaa
open Go.RowKit

theorem byte_small {u : Nat} (h : u < 256) : (UInt8.ofNat u).toNat = u := by rw [UInt8.toNat_ofNat']; omega

/-- one more digit, read -/
theorem step_digit (u p : Nat) (q : Nat) : q + u % 128 * p + u / 128 * (p * 128) = q + u * p := by
  have h : u = 128 * (u / 128) + u % 128 := (Nat.div_add_mod u 128).symm
  have h2 : u / 128 * (p * 128) = 128 * (u / 128) * p := by
    rw [Nat.mul_comm p 128, ← Nat.mul_assoc, Nat.mul_comm (u / 128) 128]
  rw [h2, Nat.add_assoc, ← Nat.add_mul, Nat.add_comm (u % 128), ← h]

theorem getU_uv (k : Nat) : ∀ (u i q : Nat) (t : List UInt8), i + k = 9 → u * 128 ^ i < 18446744073709551616 → (0 < u ∨ i = 0) → getU i q (uv u ++ t) = some (q + u * 128 ^ i, t) := by
  induction k with
  | zero =>
    intro u i q t hi hu hz
    have h9 : i = 9 := by omega
    subst h9
    have hu1 : u ≤ 1 := by
      rcases Nat.lt_or_ge 1 u with h | h
      · have := Nat.mul_le_mul_right (128 ^ 9) h
        omega
      · exact h
    rw [uv_small (by omega)]
    show getU 9 q (UInt8.ofNat u :: t) = _
    unfold getU
    rw [byte_small (by omega), if_neg (by omega), if_pos (by omega), if_pos (by omega), Nat.mod_eq_of_lt (by omega)]
  | succ k ih =>
    intro u i q t hi hu hz
    by_cases hs : u < 128
    · rw [uv_small hs]
      show getU i q (UInt8.ofNat u :: t) = _
      unfold getU
      rw [byte_small (by omega), if_neg (by omega), if_pos hs, if_pos hz, Nat.mod_eq_of_lt hs]
    · rw [uv_large (by omega)]
      show getU i q (UInt8.ofNat (u % 128 + 128) :: (uv (u / 128) ++ t)) = _
      unfold getU
      rw [byte_small (by omega), if_neg (by omega), if_neg (by omega), show (u % 128 + 128) % 128 = u % 128 by omega]
      rw [ih (u / 128) (i + 1) _ t (by omega) ?_ (by omega), Nat.pow_succ, step_digit]
      have h := step_digit u (128 ^ i) 0
      rw [Nat.pow_succ]
      omega

theorem getU_of_uv (u : Nat) (t : List UInt8) (h : U64 u) : getU 0 0 (uv u ++ t) = some (u, t) := by
  have := getU_uv 9 u 0 0 t (by omega) (by unfold U64 at h; omega) (Or.inr rfl)
  simpa using this

theorem gNum_uv (n : Int) (t : List UInt8) (h : I64 n) : gNum (uv (zz n) ++ t) = some (n, t) := by
  unfold gNum
  rw [getU_of_uv _ _ (zz_fits n h)]
  simp only [unzz_zz]
theorem gCount_uv (most m : Int) (t : List UInt8) (h0 : 0 ≤ m) (h1 : m ≤ 2147483647) (h2 : m ≤ most) : gCount most (uv m.toNat ++ t) = some (m, t) := by
  unfold gCount
  rw [getU_of_uv _ _ (by unfold U64; omega)]
  simp only []
  rw [if_neg (by omega), show ((m.toNat : Nat) : Int) = m by omega]
theorem gStr_tv (most : Int) (s t : List UInt8) (h1 : s.length ≤ 2147483647) (h2 : (s.length : Int) ≤ most) : gStr most ((uv s.length ++ s) ++ t) = some (s, t) := by
  have hc := gCount_uv most (s.length : Int) (s ++ t) (by omega) (by omega) h2
  rw [show ((s.length : Int)).toNat = s.length by omega] at hc
  unfold gStr
  rw [List.append_assoc, hc]
  simp only []
  rw [if_neg (by simp)]
  simp
theorem gFlag_fv (b : Bool) (t : List UInt8) : gFlag ([if b then 1 else 0] ++ t) = some (b, t) := by cases b <;> rfl

/-! ### What is read of the beginning is read of the whole -/
theorem getU_ext (l x : List UInt8) : ∀ (i u q : Nat) (t : List UInt8), getU i u l = some (q, t) → getU i u (l ++ x) = some (q, t ++ x) := by
  induction l with
  | nil => intro i u q t h; cases h
  | cons y l ih =>
    intro i u q t h
    show getU i u (y :: (l ++ x)) = _
    unfold getU at h ⊢
    by_cases h9 : i = 9 ∧ 1 < y.toNat
    · rw [if_pos h9] at h; cases h
    · rw [if_neg h9] at h ⊢
      by_cases hs : y.toNat < 128
      · rw [if_pos hs] at h ⊢
        by_cases hz : 0 < y.toNat ∨ i = 0
        · rw [if_pos hz] at h ⊢
          simp only [Option.some.injEq, Prod.mk.injEq] at h ⊢
          exact ⟨h.1, by rw [h.2]⟩
        · rw [if_neg hz] at h; cases h
      · rw [if_neg hs] at h ⊢
        exact ih _ _ _ _ h

/-- a reading that goes on -/
def Ext {α : Type} (g : List UInt8 → Option (α × List UInt8)) : Prop := ∀ l x a t, g l = some (a, t) → g (l ++ x) = some (a, t ++ x)
theorem ext_num : Ext gNum := by
  intro l x a t h
  unfold gNum at h ⊢
  cases hg : getU 0 0 l with
  | none => rw [hg] at h; cases h
  | some p =>
    rw [hg] at h
    rw [getU_ext l x 0 0 p.1 p.2 hg]
    simp only [Option.some.injEq, Prod.mk.injEq] at h ⊢
    exact ⟨h.1, by rw [h.2]⟩
theorem ext_count (most : Int) : Ext (gCount most) := by
  intro l x a t h
  unfold gCount at h ⊢
  cases hg : getU 0 0 l with
  | none => rw [hg] at h; cases h
  | some p =>
    rw [hg] at h
    rw [getU_ext l x 0 0 p.1 p.2 hg]
    simp only [] at h ⊢
    split at h
    · cases h
    · rename_i hn
      rw [if_neg hn]
      simp only [Option.some.injEq, Prod.mk.injEq] at h ⊢
      exact ⟨h.1, by rw [h.2]⟩
theorem ext_str (most : Int) : Ext (gStr most) := by
  intro l x a t h
  unfold gStr at h ⊢
  cases hg : gCount most l with
  | none => rw [hg] at h; cases h
  | some p =>
    rw [hg] at h
    rw [ext_count most l x p.1 p.2 hg]
    simp only [] at h ⊢
    split at h
    · cases h
    · rename_i hn
      rw [if_neg (by rw [List.length_append]; omega)]
      simp only [Option.some.injEq, Prod.mk.injEq] at h ⊢
      rw [List.take_append_of_le_length (by omega), List.drop_append_of_le_length (by omega)]
      exact ⟨h.1, by rw [h.2]⟩
theorem ext_flag : Ext gFlag := by
  intro l x a t h
  cases l with
  | nil => cases h
  | cons y l =>
    unfold gFlag at h ⊢
    simp only [List.cons_append] at h ⊢
    split at h
    · cases h
    · rename_i hn
      rw [if_neg hn]
      simp only [Option.some.injEq, Prod.mk.injEq] at h ⊢
      exact ⟨h.1, by rw [h.2]⟩

/-- a step of telling, of the beginning and of the whole -/
theorem told_ext {α : Type} {z : α} {g : List UInt8 → Option (α × List UInt8)} (hg : Ext g) {l t : List UInt8} (x : List UInt8) (h : (told z g (some l)).2 = some t) : (told z g (some (l ++ x))).2 = some (t ++ x) := by
  unfold told at h ⊢
  simp only [] at h ⊢
  cases hl : g l with
  | none => rw [hl] at h; cases h
  | some p =>
    rw [hl] at h
    rw [hg l x p.1 p.2 hl]
    simp only [Option.some.injEq] at h ⊢
    rw [h]
theorem told_went {α : Type} {z : α} {g : List UInt8 → Option (α × List UInt8)} {st : Option (List UInt8)} {t : List UInt8} (h : (told z g st).2 = some t) : ∃ l, st = some l := by
  cases st with
  | none => cases h
  | some l => exact ⟨l, rfl⟩
end Go.Proofs.Ytblbcoknefgcaaa
