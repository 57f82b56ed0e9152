/-
  How an argument of truth values reads as a list, and that it is no longer than a call may read. No statement is proved here. No condition.
-/
import Derived.Test.YthchnnddnjibmaaArgs3
namespace Go.Proofs.Ythchnnddnjibmaa
open Go.ChangeShapes Go.WideShapes Go.ChangeAt Go.RowKit

theorem bytes_bool : Try.prog.bytesOf 4 = 1 := by kernel_rfl
/-- cells of truth values, wherever they lie -/
theorem keep_at {H : Type} {enc : TypeId × Value → H} {W : World} {spare : Nat → Bool} {held : Bool} {fuel : Nat} {a : Option Addr} {len cap : Nat} {x : DataW H × List MemPlace}
    (hf : DataW.trod enc Try.prog W 0 spare held fuel 31 [.slice a len cap] = some x) :
    ∃ l : List Bool, l.length = len ∧ RowAt W (.slice a len cap) l.length 1 (KS l) ∧ (x.1 = .nil ∨ ∃ elems sp, x.1 = .slice elems sp ∧ elems.length = len) ∧ (x.1 = .nil → len = 0) ∧ (∀ b, (Value.slice a len cap).ownBlock = some b → 0 < len → b < W.heap.size) := by
  rcases Deep.open_slice Try.underlying31 hf with ⟨hcs, hx⟩ | ⟨ad, l, c, m, n, D, Pl, hcs, hb, hl, hm, hmm, hx, hcell⟩
  · simp at hcs
    obtain ⟨rfl, rfl, rfl⟩ := hcs
    subst hx
    exact ⟨[], rfl, ⟨none, 0, rfl, rfl, Nat.le_refl _, by unfold maxLen; omega, fun _ => rfl, fun h => absurd h (Nat.lt_irrefl _)⟩, .inl rfl, fun _ => rfl, fun b hb => by cases hb⟩
  · simp at hcs
    obtain ⟨rfl, rfl, rfl⟩ := hcs
    subst hx
    have hlm : len ≤ m := by rw [hmm]; split <;> omega
    have each : ∀ i, i < len → ∃ y : Bool, W.cell? (ad.add i) = some (.bool y) := by
      intro i hi
      obtain ⟨cs', c1, c2⟩ := hcell i (by omega)
      rw [cells_1.2.1] at c1
      obtain ⟨_, hlen, hc⟩ := World.cells?_some c1
      obtain ⟨y, rfl, _⟩ := DataW.trod_bool Try.underlying4 c2
      refine ⟨y, ?_⟩
      have := hc 0 (by omega)
      rw [Deep.add_add] at this
      simpa using this
    obtain ⟨y, hy⟩ := Deep.choose_lt each
    have hlen : ((List.range len).map y).length = len := by simp
    have hKS : (KS ((List.range len).map y)).length = len * 1 := by unfold KS; simp
    have hblk : 0 < len → ∃ b o, ad = ⟨b, o, none⟩ ∧ b < W.heap.size := fun h0 => by
      obtain ⟨b, o, sp⟩ := ad
      have hc0 := hy 0 h0
      have hsp : sp = none := by simpa [Addr.add] using World.cell?_spot hc0
      subst hsp
      have hb := World.block_lt_of_cell? W _ hc0
      rw [plus_zero] at hb
      exact ⟨b, o, rfl, hb⟩
    refine ⟨(List.range len).map y, hlen, ?_, .inr ⟨_, _, rfl, by simp⟩, (fun h => by simp at h), fun b hb h0 => ?_⟩
    · rw [hlen]
      refine ⟨_, cap, rfl, hKS, hl, hm, (fun h => by cases h), fun h0 => ?_⟩
      obtain ⟨b, o, rfl, _⟩ := hblk h0
      refine ⟨b, o, rfl, fun j u hu => ?_⟩
      have hj : j < len := by
        have := (List.getElem?_eq_some_iff.1 hu).1
        omega
      unfold KS at hu
      rw [List.getElem?_map, List.getElem?_map, List.getElem?_range hj] at hu
      simp at hu
      subst hu
      have := hy j hj
      rw [plus_zero] at this
      exact this
    · obtain ⟨b', o, rfl, h⟩ := hblk h0
      injection hb with hb
      subst hb
      exact h

theorem open_keeps {H : Type} {enc : TypeId × Value → H} {W : World} {spare : Nat → Bool} {held : Bool} {a : Option Addr} {len cap : Nat} {d : DataW H} {p : List MemPlace}
    (h : DataW.Trod enc Try.prog W 0 spare held 31 (.slice a len cap) d p) :
    ∃ l : List Bool, l.length = len ∧ RowAt W (.slice a len cap) l.length 1 (KS l) ∧ (d = .nil ∨ ∃ elems sp, d = .slice elems sp ∧ elems.length = len) ∧ (d = .nil → len = 0) := by
  obtain ⟨fuel, hf⟩ := h
  obtain ⟨l, h1, h2, h3, h4, _⟩ := keep_at (x := (d, p)) hf
  exact ⟨l, h1, h2, h3, h4⟩

/-- An argument of truth values has no more of them than a call may read. -/
theorem reach_keeps {H : Type} {ts : List TypeId} {ds : List (DataW H)} (h : (DataW.weightsEach Try.prog ts ds).all (· ≤ reachBytes) = true) {j : Nat} {d : DataW H} {len : Nat} (ht : ts[j]? = some 31) (hd : ds[j]? = some d)
    (hs : d = .nil ∨ ∃ elems sp, d = .slice elems sp ∧ elems.length = len) (h0 : d = .nil → len = 0) : len ≤ 140737488351232 := by
  rcases hs with hs | ⟨elems, sp, rfl, hl⟩
  · have := h0 hs
    omega
  · have := sized_slice h (j := j) (t := 31) (e := 4) ht hd Try.underlying31
    rw [bytes_bool] at this
    simp only [reachBytes] at this
    omega
end Go.Proofs.Ythchnnddnjibmaa
