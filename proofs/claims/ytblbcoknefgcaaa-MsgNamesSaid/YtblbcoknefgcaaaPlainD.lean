/-
  PLAIN MATHEMATICS: what is read of bytes has just the bytes that are written of it. No program in sight, no condition but those that the lemmas name.
-/
import Derived.Test.YtblbcoknefgcaaaPlainC
namespace Go.Proofs.Ytblbcoknefgcaaa
open Go.RowKit

theorem byte_back {x : UInt8} {u : Nat} (h : x.toNat = u) : UInt8.ofNat u = x := by subst h; simp

theorem getU_only (l : List UInt8) : ∀ (i u q : Nat) (t : List UInt8), i ≤ 9 → getU i u l = some (q, t) → ∃ d, q = u + d * 128 ^ i ∧ l = uv d ++ t ∧ (0 < d ∨ i = 0) := by
  induction l with
  | nil => intro i u q t _ h; cases h
  | cons x l ih =>
    intro i u q t hi h
    unfold getU at h
    have hx := UInt8.toNat_lt x
    by_cases h9 : i = 9 ∧ 1 < x.toNat
    · rw [if_pos h9] at h; cases h
    · rw [if_neg h9] at h
      by_cases hs : x.toNat < 128
      · rw [if_pos hs] at h
        by_cases hz : 0 < x.toNat ∨ i = 0
        · rw [if_pos hz] at h
          simp only [Option.some.injEq, Prod.mk.injEq] at h
          refine ⟨x.toNat, ?_, ?_, hz⟩
          · rw [← h.1, Nat.mod_eq_of_lt hs]
          · rw [uv_small hs, h.2, byte_back rfl]; rfl
        · rw [if_neg hz] at h; cases h
      · rw [if_neg hs] at h
        have hi9 : i + 1 ≤ 9 := by
          rcases Nat.lt_or_ge i 9 with h' | h'
          · exact h'
          · exact absurd ⟨by omega, by omega⟩ h9
        obtain ⟨d, h1, h2, h3⟩ := ih _ _ _ _ hi9 h
        have hd : 0 < d := by omega
        refine ⟨128 * d + x.toNat % 128, ?_, ?_, Or.inl (by omega)⟩
        · rw [h1, Nat.pow_succ, Nat.add_assoc, Nat.add_mul, Nat.add_comm (128 * d * 128 ^ i)]
          congr 2
          rw [Nat.mul_comm (128 ^ i) 128, ← Nat.mul_assoc, Nat.mul_comm d 128]
        · rw [uv_large (by omega), show (128 * d + x.toNat % 128) / 128 = d by omega, show (128 * d + x.toNat % 128) % 128 + 128 = x.toNat by omega, byte_back rfl, h2]
          rfl

theorem getU_is (l : List UInt8) (q : Nat) (t : List UInt8) (h : getU 0 0 l = some (q, t)) : l = uv q ++ t := by
  obtain ⟨d, h1, h2, _⟩ := getU_only l 0 0 q t (by omega) h
  have : q = d := by simpa using h1
  rw [this]
  exact h2
theorem gNum_is {l t : List UInt8} {n : Int} (h : gNum l = some (n, t)) : l = uv (zz n) ++ t ∧ I64 n := by
  unfold gNum at h
  cases hg : getU 0 0 l with
  | none => rw [hg] at h; cases h
  | some p =>
    rw [hg] at h
    simp only [Option.some.injEq, Prod.mk.injEq] at h
    obtain ⟨h1, h2⟩ := h
    rw [← h1, zz_unzz, ← h2]
    exact ⟨getU_is l p.1 p.2 hg, unzz_fits _ (getU_fits l 0 0 p.1 p.2 (by omega) (by simp) hg)⟩
theorem gCount_is {most : Int} {l t : List UInt8} {n : Int} (h : gCount most l = some (n, t)) : l = uv n.toNat ++ t := by
  unfold gCount at h
  cases hg : getU 0 0 l with
  | none => rw [hg] at h; cases h
  | some p =>
    rw [hg] at h
    simp only [] at h
    split at h
    · cases h
    · simp only [Option.some.injEq, Prod.mk.injEq] at h
      obtain ⟨h1, h2⟩ := h
      rw [← h1, ← h2]
      exact getU_is l p.1 p.2 hg
theorem gStr_is {most : Int} {l t s : List UInt8} (h : gStr most l = some (s, t)) : l = (uv s.length ++ s) ++ t ∧ s.length ≤ 2147483647 := by
  unfold gStr at h
  cases hg : gCount most l with
  | none => rw [hg] at h; cases h
  | some p =>
    rw [hg] at h
    simp only [] at h
    split at h
    · cases h
    · rename_i hn
      simp only [Option.some.injEq, Prod.mk.injEq] at h
      obtain ⟨h1, h2⟩ := h
      have hl := gCount_is hg
      obtain ⟨q, hq, hq1, _⟩ := gCount_nat hg
      have hs : s.length = p.1.toNat := by rw [← h1, List.length_take]; omega
      refine ⟨?_, by omega⟩
      rw [hs, List.append_assoc, ← h1, ← h2, List.take_append_drop]
      exact hl
theorem gFlag_is {l t : List UInt8} {b : Bool} (h : gFlag l = some (b, t)) : l = [if b then 1 else 0] ++ t := by
  cases l with
  | nil => cases h
  | cons x l =>
    unfold gFlag at h
    simp only [] at h
    split at h
    · cases h
    · rename_i hn
      simp only [Option.some.injEq, Prod.mk.injEq] at h
      obtain ⟨h1, h2⟩ := h
      have hx : x.toNat = 0 ∨ x.toNat = 1 := by omega
      rw [← h2]
      rcases hx with hx | hx
      · have : x = 0 := by rw [← byte_back hx]; rfl
        subst this
        subst h1
        rfl
      · have : x = 1 := by rw [← byte_back hx]; rfl
        subst this
        subst h1
        rfl
end Go.Proofs.Ytblbcoknefgcaaa
