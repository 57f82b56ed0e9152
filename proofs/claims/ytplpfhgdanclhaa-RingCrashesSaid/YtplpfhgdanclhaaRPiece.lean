/-
  THE PLAIN RING: which piece a sector's bytes are, as the program finds it: by making its sector once more. No program in sight. No condition.
-/
import Derived.Test.YtplpfhgdanclhaaRCalls
namespace Go.Proofs.Ytplpfhgdanclhaa

theorem low_val (l : List UInt8) : low l.length (val l) = l := by
  induction l with
  | nil => rfl
  | cons x l ih =>
    have hx := x.toNat_lt
    rw [List.length_cons, low, val]
    have h1 : UInt8.ofNat (x.toNat + 256 * val l) = x := by
      apply UInt8.toNat_inj.1
      rw [UInt8.toNat_ofNat']
      omega
    have h2 : (x.toNat + 256 * val l) / 256 = val l := by omega
    rw [h1, h2, ih]

/-- what a sector's bytes say, whatever they are -/
def rawPc (b : List UInt8) : Pc := ⟨val (b.take 8), b.getD 8 0 == 1, (b.drop 11).take (lenOf b)⟩
/-- the piece that a sector's bytes are -/
def pcIn (b : List UInt8) : Option Pc :=
  if val (b.take 8) < 1 ∨ 4611686018427387904 < val (b.take 8) ∨ 501 < lenOf b then none
  else if ((rawPc b).last = false ∧ lenOf b < 501) ∨ (rawPc b).sec ≠ b then none else some (rawPc b)

theorem raw_length {b : List UInt8} (hb : b.length = 512) (h : ¬ 501 < lenOf b) : (rawPc b).data.length = lenOf b := by
  show ((b.drop 11).take (lenOf b)).length = _
  rw [List.length_take, List.length_drop]
  omega
theorem pcIn_some {b : List UInt8} {p : Pc} (hb : b.length = 512) (h : pcIn b = some p) : p.fine ∧ p.sec = b ∧ p = rawPc b := by
  unfold pcIn at h
  split at h
  · exact absurd h (by simp)
  · rename_i h1
    split at h
    · exact absurd h (by simp)
    · rename_i h2
      obtain rfl := Option.some.inj h
      have hl := raw_length hb (fun hh => h1 (.inr (.inr hh)))
      refine ⟨⟨by show 1 ≤ val _; omega, by show val _ ≤ _; omega, by omega, fun hf => ?_⟩, Decidable.byContradiction fun hh => h2 (.inr hh), rfl⟩
      have : ¬ lenOf b < 501 := fun hh => h2 (.inl ⟨hf, hh⟩)
      omega
theorem raw_sec {b : List UInt8} (hb : b.length = 512) (h1 : ¬ 1 < b.getD 8 0) (h2 : ¬ 501 < lenOf b) (h3 : (b.drop (11 + lenOf b)).all (· == 0) = true) : (rawPc b).sec = b := by
  have hl := raw_length hb h2
  have e1 : low 8 (rawPc b).n = b.take 8 := by
    have := low_val (b.take 8)
    rw [List.length_take, Nat.min_eq_left (by omega)] at this
    exact this
  have e2 : (if (rawPc b).last = true then (1 : UInt8) else 0) = b.getD 8 0 := by
    show (if (b.getD 8 0 == 1) = true then (1 : UInt8) else 0) = _
    generalize b.getD 8 0 = x at h1 ⊢
    have hx : ¬ 1 < x.toNat := fun hh => h1 hh
    by_cases hq : x = 1
    · rw [hq]; rfl
    · rw [if_neg (by simpa using hq)]
      apply UInt8.toNat_inj.1
      have : x.toNat ≠ 1 := fun hh => hq (UInt8.toNat_inj.1 hh)
      show 0 = x.toNat
      omega
  have b9 := (b.getD 9 0).toNat_lt
  have b10 := (b.getD 10 0).toNat_lt
  have e3 : UInt8.ofNat (rawPc b).data.length = b.getD 9 0 := by
    rw [hl]
    apply UInt8.toNat_inj.1
    rw [UInt8.toNat_ofNat']
    unfold lenOf
    omega
  have e4 : UInt8.ofNat ((rawPc b).data.length / 256) = b.getD 10 0 := by
    rw [hl]
    apply UInt8.toNat_inj.1
    rw [UInt8.toNat_ofNat']
    unfold lenOf
    omega
  have e5 : (rawPc b).data ++ List.replicate (501 - (rawPc b).data.length) 0 = b.drop 11 := by
    rw [hl]
    show (b.drop 11).take (lenOf b) ++ _ = _
    have h4 : List.replicate (501 - lenOf b) (0 : UInt8) = (b.drop 11).drop (lenOf b) := by
      rw [List.drop_drop]
      symm
      rw [List.eq_replicate_iff]
      refine ⟨by rw [List.length_drop]; omega, fun x hx => ?_⟩
      exact eq_of_beq (List.all_eq_true.1 h3 x hx)
    rw [h4, List.take_append_drop]
  unfold Pc.sec
  rw [e1, e2, e3, e4, e5]
  have g : ∀ i, (hi : i < 512) → b.drop i = b.getD i 0 :: b.drop (i + 1) := fun i hi => by
    rw [List.drop_eq_getElem_cons (by omega), List.getD_eq_getElem?_getD, List.getElem?_eq_getElem (by omega)]
    rfl
  rw [← g 10 (by omega), ← g 9 (by omega), ← g 8 (by omega), List.take_append_drop]
theorem pcOf_pcIn {b : List UInt8} (hb : b.length = 512) (place count : Nat) : pcOf b place count = (pcIn b).filter fun p => p.n % count == place := by
  rcases hp : pcIn b with _ | p
  · rcases hq : pcOf b place count with _ | q
    · rfl
    · exfalso
      unfold pcOf at hq
      split at hq
      · exact absurd hq (by simp)
      · rename_i h1
        split at hq
        · rename_i h2
          unfold pcIn at hp
          have hs := raw_sec hb (fun hh => h1 (.inr (.inr (.inr (.inl hh))))) (fun hh => h1 (.inr (.inr (.inr (.inr (.inl hh)))))) h2
          rw [if_neg (fun hh => hh.elim (fun hh => h1 (.inl hh)) fun hh => hh.elim (fun hh => h1 (.inr (.inl hh))) fun hh => h1 (.inr (.inr (.inr (.inr (.inl hh)))))), if_neg] at hp
          · exact absurd hp (by simp)
          · rintro (⟨h3, h4⟩ | h3)
            · refine h1 (.inr (.inr (.inr (.inr (.inr ⟨?_, by omega⟩)))))
              have h5 : (b.getD 8 0 == 1) = false := h3
              have h6 : ¬ 1 < b.getD 8 0 := fun hh => h1 (.inr (.inr (.inr (.inl hh))))
              generalize b.getD 8 0 = x at h5 h6
              have hx : ¬ 1 < x.toNat := fun hh => h6 hh
              apply UInt8.toNat_inj.1
              have : x.toNat ≠ 1 := fun hh => by
                have : x = 1 := UInt8.toNat_inj.1 hh
                rw [this] at h5
                exact absurd h5 (by decide)
              show x.toNat = 0
              omega
            · exact h3 hs
        · exact absurd hq (by simp)
  · obtain ⟨h1, h2, h3⟩ := pcIn_some hb hp
    by_cases hm : p.n % count = place
    · have := pcOf_sec h1 count
      rw [h2, hm] at this
      rw [this]
      exact (Option.filter_eq_some_iff.2 ⟨rfl, by simpa using hm⟩).symm
    · have hn : val (b.take 8) = p.n := by rw [h3]; rfl
      unfold pcOf
      rw [hn, if_pos (.inr (.inr (.inl hm)))]
      symm
      exact Option.filter_eq_none_iff.2 fun q hq => by obtain rfl := Option.some.inj hq; simpa using hm
end Go.Proofs.Ytplpfhgdanclhaa
