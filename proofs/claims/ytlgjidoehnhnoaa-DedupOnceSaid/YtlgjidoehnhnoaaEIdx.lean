/-
  slices.IndexFunc with the program's closures. No statement is proved here. No condition.
-/
import Derived.Test.YtlgjidoehnhnoaaEProgB
namespace Go.Proofs.Ytlgjidoehnhnoaa
open Go.RowKit

set_option maxHeartbeats 1000000 in
set_option maxRecDepth 100000 in
theorem idxPair_any (l : List PP) (k : ByteArray) (q : Nat) (v : Value) (w : World) (h : pairR.N w Any v l) (hq : w.cell? ⟨q, 1, none⟩ = some (.string k)) :
    Calls Try.prog 43 #[v, .func (.func 30) #[] #[.pointer (some ⟨q, 0, none⟩)]] w fun e w' => ∃ r : Int, e = .returned (.int .i64 r) ∧
      ((∃ (i : Nat) (a : PP), l[i]? = some a ∧ r = (i : Int) ∧ a.key = k ∧ (l.take i).any (fun y => decide (y.key = k)) = false) ∨ (r = -1 ∧ l.any (fun y => decide (y.key = k)) = false)) ∧ Below w.heap.size w w' := by
  obtain ⟨A, c, rfl, hlc, hcm⟩ := h.slice
  have hql := World.block_lt_of_cell? w _ hq
  have hcl : ∀ (y : PP) W, Below w.heap.size w W → Calls Try.prog 30 #[y.agg, .pointer (some ⟨q, 0, none⟩)] W fun e w' => e = .returned (.bool (decide (y.key = k))) ∧ Below W.heap.size W w' := fun y W hW => del_any y k q W ((hW.cell (p := ⟨q, 1, none⟩) hql).trans hq)
  have HN := Lib.hid h
  have HC := Lib.hid hcl
  unfold maxLen at hcm
  clear h hcl hq
  go_enter Try.func43, Try.ntmps43
  go_wp2_with fail
  go_loopw [5, 8] (fun _ s8 wr => ∃ i : Nat, s8 = .int .i64 (i : Int) ∧ i ≤ l.length ∧ Hid ((l.take i).any (fun y => decide (y.key = k)) = false) ∧ Hid (Below w.heap.size w wr)) (fun _ s8 _ => l.length - (intOf s8).toNat)
  case atStart => exact ⟨0, rfl, Nat.zero_le _, Lib.hid rfl, Lib.hid (Below.refl _ _)⟩
  case round =>
    obtain ⟨i, rfl, hi, hp, hB⟩ := hrel
    obtain ⟨wz, hwz⟩ : ∃ wz : World, wz = wr := ⟨_, rfl⟩
    subst hwz
    by_cases hil : i < l.length
    · have a1 : (i : Int) < (l.length : Int) := by omega
      have a0 : (0 : Int) ≤ (i : Int) := by omega
      obtain ⟨p, hpi⟩ : ∃ p, l[i]? = some p := ⟨_, List.getElem?_eq_getElem hil⟩
      have hstep : (l.take (i + 1)).any (fun y => decide (y.key = k)) = decide (p.key = k) := by
        rw [List.take_add_one, hpi, List.any_append, hp.out]
        simp
      have HPI := Lib.hid hpi
      obtain ⟨b, o, n', k', hv, -, hbs, c0, c1⟩ := pair_cell (HN.out.grow hB.out) hpi
      injection hv with e1 e2 e3
      subst e1 e2 e3
      have cc := HC.out p wz hB.out
      unfold PP.agg at cc
      by_cases hk : p.key = k
      · rw [decide_eq_true hk] at cc
        have HK := Lib.hid hk
        clear hstep hpi hk
        go_wp2_with fail
        refine cc.mono ?_
        rintro e w2 ⟨rfl, hb2⟩
        have HB2 := Lib.hid (hB.out.trans (Joins.below_le hb2 hB.out.size))
        clear cc hb2
        go_wp2_with fail
        go_ret
        exact ⟨_, rfl, .inl ⟨i, p, HPI.out, rfl, HK.out, hp.out⟩, HB2.out⟩
      · rw [decide_eq_false hk] at cc hstep
        have HST := Lib.hid hstep
        clear hstep hpi hk
        go_wp2_with fail
        refine cc.mono ?_
        rintro e w2 ⟨rfl, hb2⟩
        have HB2 := Lib.hid (hB.out.trans (Joins.below_le hb2 hB.out.size))
        clear cc hb2
        go_wp2_with fail
        exact ⟨⟨i + 1, by go_num, hil, HST, HB2⟩, by simp [intOf]; omega⟩
    · have a1 : ¬ (i : Int) < (l.length : Int) := by omega
      have hall : l.take i = l := List.take_of_length_le (by omega)
      rw [hall] at hp
      clear hall
      go_wp2_with fail
      go_ret
      exact ⟨_, rfl, .inr ⟨rfl, by first | exact hp.out | simpa using hp.out⟩, hB.out⟩

set_option maxHeartbeats 1000000 in
set_option maxRecDepth 100000 in
theorem idxLast_any (l : List PL) (k : Int) (q : Nat) (v : Value) (w : World) (h : lastR.N w Any v l) (hq : w.cell? ⟨q, 0, none⟩ = some (.int .i64 k)) :
    Calls Try.prog 38 #[v, .func (.func 39) #[] #[.pointer (some ⟨q, 0, none⟩)]] w fun e w' => ∃ r : Int, e = .returned (.int .i64 r) ∧
      ((∃ (i : Nat) (a : PL), l[i]? = some a ∧ r = (i : Int) ∧ a.client = k ∧ (l.take i).any (fun y => decide (y.client = k)) = false) ∨ (r = -1 ∧ l.any (fun y => decide (y.client = k)) = false)) ∧ Below w.heap.size w w' := by
  obtain ⟨A, c, rfl, hlc, hcm⟩ := h.slice
  have hql := World.block_lt_of_cell? w _ hq
  have hcl : ∀ (y : PL) W, Below w.heap.size w W → Calls Try.prog 39 #[y.agg, .pointer (some ⟨q, 0, none⟩)] W fun e w' => e = .returned (.bool (decide (y.client = k))) ∧ Below W.heap.size W w' := fun y W hW => who_any y k q W ((hW.cell (p := ⟨q, 0, none⟩) hql).trans hq)
  have HN := Lib.hid h
  have HC := Lib.hid hcl
  unfold maxLen at hcm
  clear h hcl hq
  go_enter Try.func38, Try.ntmps38
  go_wp2_with fail
  go_loopw [5, 8] (fun _ s8 wr => ∃ i : Nat, s8 = .int .i64 (i : Int) ∧ i ≤ l.length ∧ Hid ((l.take i).any (fun y => decide (y.client = k)) = false) ∧ Hid (Below w.heap.size w wr)) (fun _ s8 _ => l.length - (intOf s8).toNat)
  case atStart => exact ⟨0, rfl, Nat.zero_le _, Lib.hid rfl, Lib.hid (Below.refl _ _)⟩
  case round =>
    obtain ⟨i, rfl, hi, hp, hB⟩ := hrel
    obtain ⟨wz, hwz⟩ : ∃ wz : World, wz = wr := ⟨_, rfl⟩
    subst hwz
    by_cases hil : i < l.length
    · have a1 : (i : Int) < (l.length : Int) := by omega
      have a0 : (0 : Int) ≤ (i : Int) := by omega
      obtain ⟨p, hpi⟩ : ∃ p, l[i]? = some p := ⟨_, List.getElem?_eq_getElem hil⟩
      have hstep : (l.take (i + 1)).any (fun y => decide (y.client = k)) = decide (p.client = k) := by
        rw [List.take_add_one, hpi, List.any_append, hp.out]
        simp
      have HPI := Lib.hid hpi
      obtain ⟨b, o, n', k', hv, -, hbs, c0, c1, c2, c3, c4⟩ := last_cell (HN.out.grow hB.out) hpi
      injection hv with e1 e2 e3
      subst e1 e2 e3
      have cc := HC.out p wz hB.out
      unfold PL.agg at cc
      by_cases hk : p.client = k
      · rw [decide_eq_true hk] at cc
        have HK := Lib.hid hk
        clear hstep hpi hk
        go_wp2_with fail
        refine cc.mono ?_
        rintro e w2 ⟨rfl, hb2⟩
        have HB2 := Lib.hid (hB.out.trans (Joins.below_le hb2 hB.out.size))
        clear cc hb2
        go_wp2_with fail
        go_ret
        exact ⟨_, rfl, .inl ⟨i, p, HPI.out, rfl, HK.out, hp.out⟩, HB2.out⟩
      · rw [decide_eq_false hk] at cc hstep
        have HST := Lib.hid hstep
        clear hstep hpi hk
        go_wp2_with fail
        refine cc.mono ?_
        rintro e w2 ⟨rfl, hb2⟩
        have HB2 := Lib.hid (hB.out.trans (Joins.below_le hb2 hB.out.size))
        clear cc hb2
        go_wp2_with fail
        exact ⟨⟨i + 1, by go_num, hil, HST, HB2⟩, by simp [intOf]; omega⟩
    · have a1 : ¬ (i : Int) < (l.length : Int) := by omega
      have hall : l.take i = l := List.take_of_length_le (by omega)
      rw [hall] at hp
      clear hall
      go_wp2_with fail
      go_ret
      exact ⟨_, rfl, .inr ⟨rfl, by first | exact hp.out | simpa using hp.out⟩, hB.out⟩
end Go.Proofs.Ytlgjidoehnhnoaa
