/-
  Two majorities meet, plainly. No statement is proved here. No condition.
-/
import Derived.Test.YtblbcoknefgcaaaBScan
namespace Go.Proofs.Ytblbcoknefgcaaa

def b1 (b : Bool) : Nat := if b = true then 1 else 0
def cU (p : Int → Bool) : Nat := (([1, 2, 3, 4, 5] : List Int).filter p).length
theorem cU_sum (p : Int → Bool) : cU p = b1 (p 1) + b1 (p 2) + b1 (p 3) + b1 (p 4) + b1 (p 5) := by
  unfold cU b1
  simp only [List.filter]
  cases p 1 <;> cases p 2 <;> cases p 3 <;> cases p 4 <;> cases p 5 <;> rfl
theorem once_rise {l : List Int} (h : rise 0 l = true) : wo [] l = l := by
  have hn : l.Nodup := (rise_sorted h).imp fun h => Int.ne_of_lt h
  clear h
  induction l using snoc_induction with
  | h0 => rfl
  | h1 l x ih =>
    rw [List.nodup_append] at hn
    have hx : x ∉ l := fun hm => hn.2.2 x hm x (by simp) rfl
    rw [wo_snoc, ih hn.1]
    unfold woS
    rw [if_neg (by simpa [List.contains_eq_mem] using hx)]
theorem len_rise {l : List Int} (h : rise 0 l = true) : l.length = cU fun v => hasI l v := by
  conv => lhs; rw [rise_pick h]
  rfl
theorem filter_rise {l : List Int} (h : rise 0 l = true) (p : Int → Bool) : (l.filter p).length = cU fun v => hasI l v && p v := by
  conv => lhs; rw [rise_pick h]
  rw [List.filter_filter]
  unfold cU hasI
  congr 2
  funext v
  exact Bool.and_comm _ _
theorem lack_rise {x : List Int} (h : rise 0 x = true) (a : List Int) : lack x a = cU fun v => hasI x v && !hasI a v := by
  unfold lack
  rw [wo_filter a x, once_rise h, filter_rise h]
  rfl
theorem won_rise {x : List Int} (h : rise 0 x = true) (a : List Int) (hw : won x a = true) : cU (fun v => hasI x v) / 2 + 1 ≤ cU fun v => hasI x v && hasI a v := by
  unfold won at hw
  rw [once_rise h, lack_rise h, len_rise h] at hw
  simp only [majority] at hw
  rw [cU_sum, cU_sum] at hw
  rw [cU_sum, cU_sum]
  revert hw
  simp only [b1]
  cases hasI x 1 <;> cases hasI x 2 <;> cases hasI x 3 <;> cases hasI x 4 <;> cases hasI x 5 <;> cases hasI a 1 <;> cases hasI a 2 <;> cases hasI a 3 <;> cases hasI a 4 <;> cases hasI a 5 <;> simp
theorem one_of (x y a b : Bool) (h : ¬ ((x && a) = true ∧ (y && b) = true)) : 2 * (b1 (x && a) + b1 (y && b)) ≤ b1 x + b1 y + (b1 (x && !y) + b1 (y && !x)) := by
  revert h
  cases x <;> cases y <;> cases a <;> cases b <;> simp [b1]
/-- two majorities of voters that are near have a voter in common -/
theorem meets {x y a b : List Int} (hx : rise 0 x = true) (hy : rise 0 y = true) (hn : near x y = true) (hwx : won x a = true) (hwy : won y b = true) : ∃ v ∈ x, hasI a v = true ∧ hasI b v = true ∧ hasI y v = true := by
  apply Classical.byContradiction
  intro hno
  have hno' : ∀ v, ¬ ((hasI x v && hasI a v) = true ∧ (hasI y v && hasI b v) = true) := fun v ⟨h1, h2⟩ => by
    rw [Bool.and_eq_true] at h1 h2
    exact hno ⟨v, by have := h1.1; unfold hasI at this; rw [List.contains_eq_mem] at this; simpa using this, h1.2, h2.2, h2.1⟩
  have h1 := won_rise hx a hwx
  have h2 := won_rise hy b hwy
  unfold near at hn
  rw [lack_rise hx, lack_rise hy] at hn
  simp only [decide_eq_true_eq] at hn
  rw [cU_sum, cU_sum] at h1 h2 hn
  have e1 := one_of (hasI x 1) (hasI y 1) (hasI a 1) (hasI b 1) (hno' 1)
  have e2 := one_of (hasI x 2) (hasI y 2) (hasI a 2) (hasI b 2) (hno' 2)
  have e3 := one_of (hasI x 3) (hasI y 3) (hasI a 3) (hasI b 3) (hno' 3)
  have e4 := one_of (hasI x 4) (hasI y 4) (hasI a 4) (hasI b 4) (hno' 4)
  have e5 := one_of (hasI x 5) (hasI y 5) (hasI a 5) (hasI b 5) (hno' 5)
  omega
theorem near_all : ∀ x ∈ allV, near x x = true ∧ ∀ s ∈ ([1, 2, 3, 4, 5] : List Int), near x (turnL x s) = true ∧ near (turnL x s) x = true ∧ rise 0 (turnL x s) = true := by decide
end Go.Proofs.Ytblbcoknefgcaaa
