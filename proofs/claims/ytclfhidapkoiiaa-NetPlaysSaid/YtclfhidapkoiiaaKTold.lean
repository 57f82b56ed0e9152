/-
  The law's helper: packets of the program's and of the document's that are the same are told to be. No statement is proved here. No condition.
-/
import Derived.Test.YtclfhidapkoiiaaKRef
namespace Go.Proofs.Ytclfhidapkoiiaa
open Go.RowKit

set_option maxHeartbeats 4000000 in
set_option maxRecDepth 100000 in
theorem told_yes (l : List PK) (u v : Value) (w : World) (hu : pkR.N w Any u l) (hv : pkR.N w Any v l) :
    Calls Try.prog 10 #[u, v] w fun e w' => e = .returned (.bool true) ∧ Below w.heap.size w w' := by
  obtain ⟨A, c, rfl, hlc, hcm⟩ := hu.slice
  obtain ⟨A2, c2, rfl, hlc2, hcm2⟩ := hv.slice
  have HU := Lib.hid hu
  have HV := Lib.hid hv
  unfold maxLen at hcm hcm2
  clear hu hv
  go_enter Try.func10, Try.ntmps10
  go_wp2_with fail
  go_loopw [5] (fun s5 wr => ∃ i : Nat, s5 = .int .i64 (i : Int) ∧ i ≤ l.length ∧ Hid (Below w.heap.size w wr)) (fun s5 _ => l.length - (intOf s5).toNat)
  case atStart => exact ⟨0, rfl, Nat.zero_le _, Lib.hid (Below.refl _ _)⟩
  case round =>
    obtain ⟨i, rfl, hi, hB⟩ := hrel
    obtain ⟨wz, hwz⟩ : ∃ wz : World, wz = wr := ⟨_, rfl⟩
    subst hwz
    by_cases hil : i < l.length
    · have a1 : (i : Int) < (l.length : Int) := by omega
      have a0 : (0 : Int) ≤ (i : Int) := by omega
      obtain ⟨p, hpi⟩ : ∃ p, l[i]? = some p := ⟨_, List.getElem?_eq_getElem hil⟩
      obtain ⟨b, o, n', k', hv, -, -, x0, x1, x2⟩ := pk_cell (HU.out.grow hB.out) hpi
      injection hv with e1 e2 e3
      subst e1 e2 e3
      obtain ⟨b2, o2, n2', k2', hv2, -, -, y0, y1, y2⟩ := pk_cell (HV.out.grow hB.out) hpi
      injection hv2 with e1 e2 e3
      subst e1 e2 e3
      have HB2 : Hid (∀ n, Below w.heap.size w (wz.drewN n)) := Lib.hid fun n => below_drewN hB.out n
      clear hpi
      go_upto_region 6 with fail
      go_quiet (fail)
      go_wp2_with fail
      exact ⟨⟨i + 1, by go_num, hil, Lib.hid (HB2.out _)⟩, by simp [intOf]; omega⟩
    · have a1 : ¬ (i : Int) < (l.length : Int) := by omega
      go_wp2_with fail
      go_ret
      exact ⟨rfl, hB.out⟩
/-- a row's beginning, and its end, read -/
theorem N.take {α : Type} {R : Rec α} {w : World} {N : Nat → Prop} {A : Option Addr} {n c i : Nat} {l : List α} (h : R.N w N (.slice A n c) l) (hi : i ≤ l.length) : R.N w N (.slice A i c) (l.take i) := by
  obtain ⟨A', c', hv, h1, h2, h3, h4, h5⟩ := h
  injection hv with e1 e2 e3
  subst e1 e3
  have hl : (l.take i).length = i := by rw [List.length_take, Nat.min_eq_left hi]
  refine ⟨A, c, by rw [hl], by rw [R.row_length], by omega, h3, h4, fun h0 => ?_⟩
  rw [hl] at h0
  obtain ⟨b, o, hA, hb, hs, hc⟩ := h5 (by omega)
  exact ⟨b, o, hA, hb, hs, fun j u hu => hc j u (by
    rw [show l = l.take i ++ l.drop i from (List.take_append_drop i l).symm, R.row_append, List.getElem?_append_left (List.getElem?_eq_some_iff.1 hu).1]
    exact hu)⟩
theorem N.drop {α : Type} {R : Rec α} {w : World} {N : Nat → Prop} {b o n c i : Nat} {l : List α} (h : R.N w N (.slice (some ⟨b, o, none⟩) n c) l) (hi : i ≤ l.length) (hic : i < c) : R.N w N (.slice (some ⟨b, o + i * R.size, none⟩) (l.length - i) (c - i)) (l.drop i) := by
  obtain ⟨A', c', hv, h1, h2, h3, h4, h5⟩ := h
  injection hv with e1 e2 e3
  subst e1 e3
  have hl : (l.drop i).length = l.length - i := List.length_drop
  refine ⟨_, c - i, by rw [hl], by rw [R.row_length], by omega, by omega, (fun h => by cases h), fun h0 => ?_⟩
  rw [hl] at h0
  obtain ⟨b', o', hA, hb, hs, hc⟩ := h5 (by omega)
  injection hA with hA
  injection hA with hA1 hA2
  subst hA1 hA2
  refine ⟨b, o + i * R.size, rfl, hb, hs, fun j u hu => ?_⟩
  rw [Nat.add_assoc]
  refine hc _ u ?_
  have hlt : (R.row (l.take i)).length = i * R.size := by rw [R.row_length, List.length_take, Nat.min_eq_left hi]
  rw [show l = l.take i ++ l.drop i from (List.take_append_drop i l).symm, R.row_append, List.getElem?_append_right (by rw [hlt]; exact Nat.le_add_right _ _), hlt, show i * R.size + j - i * R.size = j by omega]
  exact hu
theorem N.empty {α : Type} {R : Rec α} {w : World} {N : Nat → Prop} {A : Option Addr} {c : Nat} (hc : c ≤ maxLen) (hA : A = none → c = 0) : R.N w N (.slice A 0 c) [] := ⟨A, c, rfl, by simp [Rec.row], Nat.zero_le _, hc, hA, fun h => absurd h (Nat.lt_irrefl _)⟩
end Go.Proofs.Ytclfhidapkoiiaa
