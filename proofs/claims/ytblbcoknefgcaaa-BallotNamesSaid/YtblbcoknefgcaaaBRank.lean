/-
  The number that stands at a place of a list in order, plainly; the greatest of those that a majority has. No statement is proved here. No condition.
-/
import Derived.Test.YtblbcoknefgcaaaBCommon
import Derived.Test.YtblbcoknefgcaaaBMeetsP
namespace Go.Proofs.Ytblbcoknefgcaaa
open Go.RowKit

theorem rank_ge {S : List Int} (h : S.Pairwise (fun a b => a ≤ b)) {p : Nat} {x : Int} (hx : S[p]? = some x) : S.length - p ≤ S.countP (fun y => decide (x ≤ y)) := by
  obtain ⟨hp, hxe⟩ := List.getElem?_eq_some_iff.1 hx
  have e : S.countP (fun y => decide (x ≤ y)) = (S.take p ++ S.drop p).countP (fun y => decide (x ≤ y)) := by rw [List.take_append_drop]
  have hd : (S.drop p).countP (fun y => decide (x ≤ y)) = (S.drop p).length := by
    rw [List.countP_eq_length]
    intro y hy
    rw [List.drop_eq_getElem_cons hp, List.mem_cons] at hy
    rcases hy with rfl | hy
    · rw [hxe]; simp
    · obtain ⟨j, hj⟩ := List.mem_iff_getElem?.1 hy
      rw [List.getElem?_drop] at hj
      obtain ⟨hj1, hj2⟩ := List.getElem?_eq_some_iff.1 hj
      have := List.pairwise_iff_getElem.1 h p (p + 1 + j) hp hj1 (by omega)
      rw [hxe, hj2] at this
      simpa using this
  rw [e, List.countP_append, hd, List.length_drop]
  omega
theorem rank_gt {S : List Int} (h : S.Pairwise (fun a b => a ≤ b)) {p : Nat} {x : Int} (hx : S[p]? = some x) : S.countP (fun y => decide (x < y)) + p + 1 ≤ S.length := by
  obtain ⟨hp, hxe⟩ := List.getElem?_eq_some_iff.1 hx
  have e : S.countP (fun y => decide (x < y)) = (S.take (p + 1) ++ S.drop (p + 1)).countP (fun y => decide (x < y)) := by rw [List.take_append_drop]
  have hd : (S.take (p + 1)).countP (fun y => decide (x < y)) = 0 := by
    rw [List.countP_eq_zero]
    intro y hy
    obtain ⟨j, hj⟩ := List.mem_iff_getElem?.1 hy
    have hj0 := (List.getElem?_eq_some_iff.1 hj).1
    rw [List.length_take] at hj0
    rw [List.getElem?_take_of_lt (by omega)] at hj
    obtain ⟨hj1, hj2⟩ := List.getElem?_eq_some_iff.1 hj
    by_cases hjp : j = p
    · subst hjp
      rw [hxe] at hj2
      subst hj2
      simp
    · have := List.pairwise_iff_getElem.1 h j p hj1 hp (by omega)
      rw [hxe, hj2] at this
      simp
      omega
  have hl := List.countP_le_length (p := fun y => decide (x < y)) (l := S.drop (p + 1))
  rw [e, List.countP_append, hd]
  rw [List.length_drop] at hl
  omega
theorem leI_pw (l : List Int) : (l.mergeSort leI).Pairwise (fun a b => a ≤ b) := by
  have := List.pairwise_mergeSort (le := leI) (fun a b c h1 h2 => by unfold leI at *; simp at *; omega) (fun a b => by unfold leI; simp; omega) l
  exact this.imp fun h => by unfold leI at h; simpa using h
/-- the number at a place of a list in order -/
theorem kth {l : List Int} {p : Nat} {x : Int} (hx : (l.mergeSort leI)[p]? = some x) : x ∈ l ∧ l.length - p ≤ l.countP (fun y => decide (x ≤ y)) ∧ l.countP (fun y => decide (x < y)) + p + 1 ≤ l.length := by
  have hp := List.mergeSort_perm l leI
  have h1 := rank_ge (leI_pw l) hx
  have h2 := rank_gt (leI_pw l) hx
  rw [hp.countP_eq, List.length_mergeSort] at h1 h2
  exact ⟨hp.mem_iff.1 (List.mem_of_getElem? hx), h1, h2⟩
/-- what a majority of these has -/
def comF (L : List Int) : Int := if L.length = 0 then 0 else max 0 ((L.mergeSort leI)[L.length - majority L.length]?.getD 0)
theorem common_F (l at_ : List Int) : common l at_ = comF (commonL l at_) := by
  have hlen : (commonL l at_).length = (wo [] l).length := by unfold commonL; rw [List.length_map]
  unfold common comF
  rw [hlen]
theorem comF_spec (L : List Int) (h0 : L.length ≠ 0) : ∃ M, comF L = max 0 M ∧ M ∈ L ∧ majority L.length ≤ L.countP (fun y => decide (M ≤ y)) ∧ L.countP (fun y => decide (M < y)) < majority L.length := by
  have hm : 1 ≤ majority L.length ∧ majority L.length ≤ L.length := by unfold majority; omega
  obtain ⟨M, hM⟩ : ∃ M, (L.mergeSort leI)[L.length - majority L.length]? = some M := ⟨_, List.getElem?_eq_getElem (by rw [List.length_mergeSort]; omega)⟩
  obtain ⟨h1, h2, h3⟩ := kth hM
  refine ⟨M, ?_, h1, by omega, by omega⟩
  unfold comF
  rw [if_neg h0, hM]
  rfl
/-- the greatest of those that are so, and above nought -/
def best (P : Int → Bool) (l : List Int) : Int := l.foldl (fun b c => if (P c && decide (c > b)) = true then c else b) 0
theorem best_snoc (P : Int → Bool) (l : List Int) (c : Int) : best P (l ++ [c]) = if (P c && decide (c > best P l)) = true then c else best P l := by
  unfold best
  rw [List.foldl_append]
  rfl
theorem best_facts (P : Int → Bool) (l : List Int) : 0 ≤ best P l ∧ (best P l = 0 ∨ (best P l ∈ l ∧ P (best P l) = true)) ∧ ∀ c ∈ l, P c = true → c ≤ best P l := by
  induction l using snoc_induction with
  | h0 => exact ⟨Int.le_refl _, .inl rfl, fun c h => by cases h⟩
  | h1 l x ih =>
    obtain ⟨i1, i2, i3⟩ := ih
    rw [best_snoc]
    by_cases hx : (P x && decide (x > best P l)) = true
    · rw [if_pos hx]
      simp only [Bool.and_eq_true, decide_eq_true_eq] at hx
      refine ⟨by omega, .inr ⟨by simp, hx.1⟩, fun c hc hP => ?_⟩
      rw [List.mem_append, List.mem_singleton] at hc
      rcases hc with hc | rfl
      · have := i3 c hc hP; omega
      · exact Int.le_refl _
    · rw [if_neg hx]
      refine ⟨i1, i2.imp id fun h => ⟨List.mem_append_left _ h.1, h.2⟩, fun c hc hP => ?_⟩
      rw [List.mem_append, List.mem_singleton] at hc
      rcases hc with hc | rfl
      · exact i3 c hc hP
      · simp only [Bool.and_eq_true, decide_eq_true_eq, not_and] at hx
        have := hx hP
        omega
/-- a voter's index, whatever it is called -/
def idxF (at_ : List Int) (v : Int) : Int := if (decide (1 ≤ v) && decide (v ≤ (at_.length : Int))) = true then (at_[(v - 1).toNat]?).getD 0 else 0
/-- has a voter this index -/
def hasAt (at_ : List Int) (c v : Int) : Bool := decide (1 ≤ v) && decide (v ≤ (at_.length : Int)) && decide (c ≤ (at_[(v - 1).toNat]?).getD 0)
def cntR (r at_ : List Int) (c : Int) : Nat := r.countP (hasAt at_ c)
def commonR (l at_ : List Int) : Int := best (fun c => decide ((cntR (wo [] l) at_ c : Int) > ((wo [] l).length : Int) - (cntR (wo [] l) at_ c : Int))) at_
theorem hasAt_pos (at_ : List Int) {c : Int} (hc : 0 < c) (v : Int) : hasAt at_ c v = decide (c ≤ idxF at_ v) := by
  unfold hasAt idxF
  by_cases h : (decide (1 ≤ v) && decide (v ≤ (at_.length : Int))) = true
  · rw [if_pos h, h, Bool.true_and]
  · rw [if_neg h]
    have h' : (decide (1 ≤ v) && decide (v ≤ (at_.length : Int))) = false := by simpa using h
    rw [h', Bool.false_and]
    simp
    omega
theorem cntR_pos (r at_ : List Int) {c : Int} (hc : 0 < c) : cntR r at_ c = (r.map (idxF at_)).countP (fun y => decide (c ≤ y)) := by
  unfold cntR
  rw [List.countP_map]
  congr 1
  funext v
  exact hasAt_pos at_ hc v
theorem count_lt (L : List Int) {b M : Int} (h : M < b) : L.countP (fun y => decide (b ≤ y)) ≤ L.countP (fun y => decide (M < y)) := List.countP_mono_left fun y _ hy => by simp at *; omega
theorem idxF_mem {at_ : List Int} {v : Int} (h : 0 < idxF at_ v) : idxF at_ v ∈ at_ := by
  unfold idxF at *
  by_cases h' : (decide (1 ≤ v) && decide (v ≤ (at_.length : Int))) = true
  · rw [if_pos h'] at h ⊢
    simp only [Bool.and_eq_true, decide_eq_true_eq] at h'
    have hlt : (v - 1).toNat < at_.length := by omega
    rw [List.getElem?_eq_getElem hlt]
    exact List.getElem_mem hlt
  · rw [if_neg h'] at h
    omega
/-- the two answers are one -/
theorem com_eq (l at_ : List Int) : comF ((wo [] l).map (idxF at_)) = commonR l at_ := by
  obtain ⟨r, hr⟩ : ∃ r, r = wo [] l := ⟨_, rfl⟩
  unfold commonR
  rw [← hr]
  obtain ⟨b1, b2, b3⟩ := best_facts (fun c => decide ((cntR r at_ c : Int) > (r.length : Int) - (cntR r at_ c : Int))) at_
  obtain ⟨b, hb⟩ : ∃ b, b = best (fun c => decide ((cntR r at_ c : Int) > (r.length : Int) - (cntR r at_ c : Int))) at_ := ⟨_, rfl⟩
  rw [← hb] at b1 b2 b3 ⊢
  clear hb hr
  by_cases h0 : r.length = 0
  · have : r = [] := List.eq_nil_of_length_eq_zero h0
    subst this
    rcases b2 with rfl | ⟨-, h⟩
    · rfl
    · simp [cntR] at h
  obtain ⟨M, h1, h2, h3, h4⟩ := comF_spec (r.map (idxF at_)) (by rw [List.length_map]; exact h0)
  rw [List.length_map] at h3 h4
  rw [h1]
  have key : 0 < b → ¬ M < b := fun hb0 hlt => by
    rcases b2 with rfl | ⟨-, h⟩
    · omega
    · have h := of_decide_eq_true h
      rw [cntR_pos r at_ hb0] at h
      have h5 := count_lt (r.map (idxF at_)) hlt
      simp only [majority] at h3 h4
      omega
  by_cases hM : 0 < M
  · obtain ⟨v, hv, rfl⟩ := List.mem_map.1 h2
    have h6 := b3 _ (idxF_mem hM) (decide_eq_true (by rw [cntR_pos r at_ hM]; simp only [majority] at h3; omega))
    have h7 := key (by omega)
    omega
  · have : b = 0 := by
      rcases Int.lt_or_le 0 b with h | h
      · have := key h
        omega
      · omega
    omega
/-- a majority among those of voters that are so -/
theorem won_filter {x : List Int} (h : rise 0 x = true) (p : Int → Bool) : won x (x.filter p) = decide (majority x.length ≤ x.countP p) := by
  have h1 : lack x (x.filter p) = x.length - x.countP p := by
    unfold lack
    rw [wo_filter (x.filter p) x, once_rise h, ← List.countP_eq_length_filter]
    have h2 := List.length_eq_countP_add_countP p (l := x)
    have h3 : x.countP (fun v => !hasI (x.filter p) v) = x.countP (fun v => decide (¬ p v = true)) := List.countP_congr fun v hv => by
      unfold hasI
      simp [List.contains_eq_mem, hv]
    have h4 : x.countP (fun v => !hasI (x.filter p) v) = x.countP (fun v => !(x.filter p).contains v) := rfl
    rw [← h4, h3]
    omega
  have h5 := List.countP_le_length (p := p) (l := x)
  unfold won
  rw [once_rise h, h1]
  rw [show x.length - (x.length - x.countP p) = x.countP p by omega]
end Go.Proofs.Ytblbcoknefgcaaa
