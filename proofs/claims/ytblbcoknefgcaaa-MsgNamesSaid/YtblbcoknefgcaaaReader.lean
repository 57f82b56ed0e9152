/-
  What each call of a reader (package code) comes to: it tells what the plain functions of the bytes tell, and writes its own cell alone. Conditions: none but that what it reads lies in memory.
-/
import Derived.Test.YtblbcoknefgcaaaCode
import Derived.Deep.RegionWith
namespace Go.Proofs.Ytblbcoknefgcaaa
open Go.RowKit

/-- A reader's block: what is left (none: it has failed). -/
def Rdr (T : TypeId) (w : World) (R : Nat) (st : Option (List UInt8)) : Prop :=
  ∃ v, w.heap[R]? = some (.cells #[v, .bool st.isNone] T (0, 0)) ∧ Rd w R v (st.getD [])

theorem Rdr.lt {T : TypeId} {w : World} {R : Nat} {st : Option (List UInt8)} (h : Rdr T w R st) : R < w.heap.size := by
  obtain ⟨v, hh, _⟩ := h
  exact (Array.getElem?_eq_some_iff.1 hh).1

theorem row_cells {w : World} {R : Nat} {C : Array Value} {T : TypeId} (h : w.heap[R]? = some (.cells C T (0, 0))) : (∀ i, w.cell? ⟨R, i, none⟩ = C[i]?) ∧ (∀ i, w.frozen? ⟨R, i, none⟩ = false) :=
  ⟨fun i => cell_of_row w R i C T (0, 0) h, fun i => by simp [World.frozen?, h]⟩

set_option maxHeartbeats 400000 in
theorem ok_any (R : Nat) (st : Option (List UInt8)) (w : World) (h : Rdr 151 w R st) :
    Calls Try.prog 95 #[.pointer (some ⟨R, 0, none⟩)] w fun e w' => e = .returned (.bool st.isSome) ∧ w = w' := by
  obtain ⟨v, hh, _⟩ := h
  obtain ⟨hc, _⟩ := row_cells hh
  have hc1 : w.cell? ⟨R, 1, none⟩ = some (.bool st.isNone) := hc 1
  clear hc hh
  cases st
  · go_enter Try.func95, Try.ntmps95
    go_wp2
    go_ret
    exact ⟨rfl, rfl⟩
  · go_enter Try.func95, Try.ntmps95
    go_wp2
    go_ret
    exact ⟨rfl, rfl⟩

theorem ok_nil (w : World) :
    Calls Try.prog 95 #[.pointer none] w fun e w' => e = .returned (.bool false) ∧ w = w' := by
  go_enter Try.func95, Try.ntmps95
  go_wp2
  go_ret
  exact ⟨rfl, rfl⟩

set_option maxHeartbeats 400000 in
theorem left_any (R : Nat) (st : Option (List UInt8)) (w : World) (h : Rdr 151 w R st) :
    Calls Try.prog 96 #[.pointer (some ⟨R, 0, none⟩)] w fun e w' => e = .returned (.int .i64 ((st.getD []).length : Int)) ∧ w = w' := by
  obtain ⟨v, hh, hr⟩ := h
  obtain ⟨hc, _⟩ := row_cells hh
  obtain ⟨A, c, rfl, h1, h2, h3, h4⟩ := hr
  have hc1 : w.cell? ⟨R, 0, none⟩ = some (.slice A (st.getD []).length c) := hc 0
  clear hc hh h1 h2 h3 h4
  go_enter Try.func96, Try.ntmps96
  go_wp2
  go_ret
  exact ⟨rfl, rfl⟩

theorem left_nil (w : World) :
    Calls Try.prog 96 #[.pointer none] w fun e w' => e = .returned (.int .i64 0) ∧ w = w' := by
  go_enter Try.func96, Try.ntmps96
  go_wp2
  go_ret
  exact ⟨rfl, rfl⟩

set_option maxHeartbeats 400000 in
theorem done_any (R : Nat) (st : Option (List UInt8)) (w : World) (h : Rdr 151 w R st) :
    Calls Try.prog 41 #[.pointer (some ⟨R, 0, none⟩)] w fun e w' => e = .returned (.bool (st == some [])) ∧ w = w' := by
  go_enter Try.func41, Try.ntmps41
  go_wp2_with fail
  refine (ok_any R st _ h).mono ?_
  rintro e w1 ⟨rfl, rfl⟩
  cases st with
  | none =>
    go_wp2_with fail
    go_ret
    exact ⟨rfl, rfl⟩
  | some l =>
    go_wp2_with fail
    refine (left_any R (some l) _ h).mono ?_
    rintro e w1 ⟨rfl, rfl⟩
    go_wp2_with fail
    go_ret
    refine ⟨congrArg (fun b => Ending.returned (.bool b)) ?_, rfl⟩
    cases l <;> simp <;> omega

theorem done_nil (w : World) :
    Calls Try.prog 41 #[.pointer none] w fun e w' => e = .returned (.bool false) ∧ w = w' := by
  go_enter Try.func41, Try.ntmps41
  go_wp2_with fail
  refine (ok_nil _).mono ?_
  rintro e w1 ⟨rfl, rfl⟩
  go_wp2_with fail
  go_ret
  exact ⟨rfl, rfl⟩

/-- a cut of what reads as bytes reads as the rest -/
theorem Rd.cut {w : World} {B b o c k : Nat} {l : List UInt8} (h : Rd w B (.slice (some ⟨b, o, none⟩) l.length c) l) (hk : k ≤ l.length) (hc : l.length ≤ c) (A' : Option Addr)
    (hA : A' = some ⟨b, o + k, none⟩ ∨ (c = k ∧ A' ≠ none)) : Rd w B (.slice A' (l.length - k) (c - k)) (l.drop k) := by
  obtain ⟨A, c', he, h1, h2, h3, h4⟩ := h
  injection he with e1 _ e2
  subst e1
  subst e2
  refine ⟨A', c - k, by rw [List.length_drop], by rw [List.length_drop]; omega, by omega, ?_, fun hn => ?_⟩
  · intro h0
    rcases hA with h | ⟨_, h⟩
    · rw [h0] at h; cases h
    · exact absurd h0 h
  · have hlen : k < l.length := by
      rcases Nat.lt_or_ge k l.length with hh | hh
      · exact hh
      · exact absurd (List.drop_eq_nil_of_le hh) hn
    obtain ⟨b', o', hb', hbb, hcell⟩ := h4 (fun hl => by subst hl; simp at hlen)
    injection hb' with hb'
    injection hb' with e1 e2
    subst e1
    subst e2
    rcases hA with h | ⟨h, _⟩
    · refine ⟨b, o + k, h, hbb, fun i x hx => ?_⟩
      rw [List.getElem?_drop] at hx
      have := hcell (k + i) x hx
      rw [Nat.add_assoc]
      exact this
    · omega

/-- the same, whatever the address is -/
theorem Rd.cutAny {w : World} {B c k : Nat} {A : Option Addr} {l : List UInt8} (h : Rd w B (.slice A l.length c) l) (hk : k ≤ l.length) (A' : Option Addr)
    (hA : A' = A.map (·.add k) ∨ (c = k ∧ A' = A)) : Rd w B (.slice A' (l.length - k) (c - k)) (l.drop k) := by
  have h' := h
  obtain ⟨A0, c', he, h1, h2, h3, h4⟩ := h
  injection he with e1 _ e2
  subst e1
  subst e2
  cases A with
  | none =>
    have hc := h3 rfl
    have hA0 : A' = none := by rcases hA with h | ⟨_, h⟩ <;> simpa using h
    have hl : l = [] := List.eq_nil_of_length_eq_zero (by omega)
    subst hA0
    subst hl
    subst hc
    simpa using Rd.nil w B
  | some ad =>
    by_cases hl : l = []
    · subst hl
      have hk0 : k = 0 := by simpa using hk
      subst hk0
      refine ⟨A', c, by simp, by simp, by omega, ?_, fun hn => absurd (by simp) hn⟩
      intro h0
      rcases hA with h | ⟨_, h⟩ <;> (rw [h0] at h; cases h)
    · obtain ⟨b, o, hb, _, _⟩ := h4 hl
      injection hb with hb
      subst hb
      refine Rd.cut h' hk h1 A' ?_
      rcases hA with h | ⟨h, h0⟩
      · left; rw [h]; simp [plus_zero]
      · right; exact ⟨h, by rw [h0]; simp⟩
theorem Rd.takeAny {w : World} {B c n : Nat} {A : Option Addr} {l : List UInt8} (h : Rd w B (.slice A l.length c) l) (hk : n ≤ l.length) : Rd w B (.slice A n c) (l.take n) := by
  obtain ⟨A0, c', he, h1, h2, h3, h4⟩ := h
  injection he with e1 _ e2
  subst e1
  subst e2
  have hl : (l.take n).length = n := by rw [List.length_take]; omega
  refine ⟨A, c, by rw [hl], by rw [hl]; omega, h2, h3, fun hn => ?_⟩
  obtain ⟨b, o, hA, hb, hc⟩ := h4 (fun e => by subst e; simp at hn)
  refine ⟨b, o, hA, hb, fun i x hx => hc i x ?_⟩
  rw [List.getElem?_take] at hx
  split at hx
  · exact hx
  · cases hx

/-- a store into a reader's first cell -/
theorem set_row {w : World} {R : Nat} {v f x : Value} {T : TypeId} (h : w.heap[R]? = some (.cells #[v, f] T (0, 0))) : (w.setCell ⟨R, 0, none⟩ x).heap[R]? = some (.cells #[x, f] T (0, 0)) := by
  simp [World.setCell, Array.getElem?_modify, h]

theorem grown_set (w : World) (R : Nat) (x : Value) (i : Nat) : w.grownBy (w.setCell ⟨R, i, none⟩ x) (some R) :=
  ⟨rfl, rfl, rfl, by simp [World.setCell], fun k _ hne => Below.heap_setCell w ⟨R, i, none⟩ x k (fun e => hne (by rw [e]))⟩
theorem grown_refl (w : World) (r : Option Nat) : w.grownBy w r := ⟨rfl, rfl, rfl, Nat.le_refl _, fun _ _ _ => rfl⟩
theorem grown_trans {a b c : World} {r : Option Nat} (h : a.grownBy b r) (k : b.grownBy c r) : a.grownBy c r :=
  ⟨k.os.trans h.os, k.tape.trans h.tape, k.output.trans h.output, Nat.le_trans h.size k.size, fun i hi hne => (k.block i (Nat.lt_of_lt_of_le hi h.size) hne).trans (h.block i hi hne)⟩

theorem Rd.set {w : World} {R : Nat} {v x : Value} {l : List UInt8} (h : Rd w R v l) (i : Nat) : Rd (w.setCell ⟨R, i, none⟩ x) R v l :=
  h.keep (Nat.le_refl _) fun p hp => World.cell?_of_block (Below.heap_setCell w _ x p.block (by show p.block ≠ R; omega))

/-- what 'bits' comes to -/
def BitsPost (T : TypeId) (R : Nat) (l : List UInt8) (w : World) (e : Ending) (w' : World) : Prop :=
  w.grownBy w' (some R) ∧
  match getU 0 0 l with
  | some (q, t) => e = .returned (.tuple #[.int .u64 q, .bool true]) ∧ Rdr T w' R (some t)
  | none => ∃ n l', e = .returned (.tuple #[.int .u64 n, .bool false]) ∧ Rdr T w' R (some l')

theorem BitsPost.yes {T : TypeId} {R : Nat} {l : List UInt8} {w w' : World} {e : Ending} {q : Nat} {t : List UInt8} (h : getU 0 0 l = some (q, t)) (hg : w.grownBy w' (some R))
    (he : e = .returned (.tuple #[.int .u64 q, .bool true])) (hr : Rdr T w' R (some t)) : BitsPost T R l w e w' := by
  unfold BitsPost
  rw [h]
  exact ⟨hg, he, hr⟩
theorem BitsPost.no {T : TypeId} {R : Nat} {l : List UInt8} {w w' : World} {e : Ending} {n : Int} {t : List UInt8} (h : getU 0 0 l = none) (hg : w.grownBy w' (some R))
    (he : e = .returned (.tuple #[.int .u64 n, .bool false])) (hr : Rdr T w' R (some t)) : BitsPost T R l w e w' := by
  unfold BitsPost
  rw [h]
  exact ⟨hg, n, t, he, hr⟩

set_option maxRecDepth 100000 in
set_option maxHeartbeats 400000 in
theorem bits_any (R : Nat) (l : List UInt8) (w : World) (hR : Rdr 151 w R (some l)) :
    Calls Try.prog 181 #[.pointer (some ⟨R, 0, none⟩)] w (BitsPost 151 R l w) := by
  have HW := Lib.hid hR
  obtain ⟨v, hh, hr⟩ := hR
  obtain ⟨hc, hf⟩ := row_cells hh
  have HH := Lib.hid hh
  have HR := Lib.hid hr
  obtain ⟨A, c, rfl, h1, h2, h3, h4⟩ := hr
  have hc0 : w.cell? ⟨R, 0, none⟩ = some (.slice A l.length c) := hc 0
  have hf0 : w.frozen? ⟨R, 0, none⟩ = false := hf 0
  have hlc : l.length ≤ c := h1
  clear hc hf h1 h2 h3 hh
  go_enter Try.func181, Try.ntmps181
  go_wp2
  go_loop [4, 12] (fun u i => ∃ q k : Nat, u = .int .u64 q ∧ i = .int .i64 k ∧ k ≤ l.length ∧ k ≤ 9 ∧ Hid (q < 128 ^ k) ∧ Hid (getU 0 0 l = getU k q (l.drop k))) (fun _ i => l.length - (intOf i).toNat)
  case atStart => exact ⟨0, 0, rfl, rfl, by omega, by omega, by unfold Hid; simp, rfl⟩
  case round =>
    obtain ⟨q, k, rfl, rfl, hk, hk9, hq, hg⟩ := hrel
    by_cases hkl : k < l.length
    · obtain ⟨b, o, rfl, hb, hcell⟩ := h4 (fun hl => by subst hl; exact absurd hkl (Nat.not_lt_zero _))
      have hx := hcell k l[k] (List.getElem?_eq_getElem hkl)
      have hlt : (k : Int) < (l.length : Int) := by omega
      have hdrop : l.drop k = l[k] :: l.drop (k + 1) := List.drop_eq_getElem_cons hkl
      obtain ⟨x, hxx⟩ : ∃ x : Nat, x = l[k].toNat := ⟨_, rfl⟩
      have hx9 : x < 256 := by rw [hxx]; exact UInt8.toNat_lt _
      rw [← hxx] at hx
      have hgx : Hid (getU 0 0 l = if k = 9 ∧ 1 < x then none else if x < 128 then (if 0 < x ∨ k = 0 then some (q + x % 128 * 128 ^ k, l.drop (k + 1)) else none) else getU (k + 1) (q + x % 128 * 128 ^ k) (l.drop (k + 1))) := by
        rw [hg.out, hdrop, hxx]
        rfl
      clear hcell h4 hxx hdrop hg
      by_cases hov : k = 9 ∧ 1 < x
      · have ha : ((k : Int) == 9) = true := by simp; omega
        have hb1 : (1 : Int) < (x : Int) := by omega
        have hfin : Hid (getU 0 0 l = none) := by unfold Hid; rw [hgx.out, if_pos hov]
        clear hgx
        obtain ⟨rfl, _⟩ := hov
        go_wp2_with fail
        go_ret2
        exact BitsPost.no hfin.out (grown_refl _ _) rfl HW.out
      · have hor := orU q k x hq.out hk9 hx9 (by omega)
        have HOR := Lib.hid hor
        clear hor
        have ha : (((k : Int) == 9) = true ∧ ¬ (1 : Int) < (x : Int)) ∨ ((k : Int) == 9) = false := by
          by_cases h9 : k = 9
          · left; exact ⟨by simp; omega, by omega⟩
          · right; simp; omega
        by_cases hx128 : x < 128
        · have hx1 : (x : Int) < 128 := by omega
          have hcut : ∃ A', ((c = k + 1 ∧ A' = some ⟨b, o, none⟩) ∨ (¬ c = k + 1 ∧ A' = some ⟨b, o + (k + 1), none⟩)) ∧ Rd w R (.slice A' (l.length - (k + 1)) (c - (k + 1))) (l.drop (k + 1)) := by
            by_cases hcc : c = k + 1
            · exact ⟨_, .inl ⟨hcc, rfl⟩, Rd.cut HR.out hkl hlc _ (Or.inr ⟨hcc, by simp⟩)⟩
            · exact ⟨_, .inr ⟨hcc, rfl⟩, Rd.cut HR.out hkl hlc _ (Or.inl rfl)⟩
          obtain ⟨A', hA', hcut⟩ := hcut
          have HC := Lib.hid hcut
          clear hcut
          by_cases hs : 0 < x ∨ k = 0
          · have hfin : Hid (getU 0 0 l = some (q + x % 128 * 128 ^ k, l.drop (k + 1))) := by unfold Hid; rw [hgx.out, if_neg hov, if_pos hx128, if_pos hs]
            clear hgx hov
            rcases Nat.lt_or_ge 0 x with h0 | h0
            · have ht : (0 : Int) < (x : Int) := by omega
              clear hs h0
              rcases ha with ⟨ha, ha'⟩ | ha <;> rcases hA' with ⟨hcc, rfl⟩ | ⟨hcc, rfl⟩
              all_goals
                go_wp2_with fail
                go_ret2
                refine BitsPost.yes hfin.out (grown_set _ _ _ _) (ret_pair HOR.out) ⟨_, set_row HH.out, Rd.set ?_ 0⟩
                first | exact HC.out | (have := HC.out; rw [hcc, Nat.sub_self] at this; exact this)
            · have hk0 : ((k : Int) == 0) = true := by simp; omega
              have ht : ¬ (0 : Int) < (x : Int) := by omega
              have hx0 : Hid (x = 0) := (by omega : x = 0)
              clear hs h0
              rcases ha with ⟨ha, ha'⟩ | ha <;> rcases hA' with ⟨hcc, rfl⟩ | ⟨hcc, rfl⟩
              all_goals
                go_wp2_with fail
                go_ret2
                refine BitsPost.yes hfin.out (grown_set _ _ _ _) (ret_pair (by have hE := HOR.out; rw [hx0.out] at hE ⊢; exact hE)) ⟨_, set_row HH.out, Rd.set ?_ 0⟩
                first | exact HC.out | (have := HC.out; rw [hcc, Nat.sub_self] at this; exact this)
          · have hfin : Hid (getU 0 0 l = none) := by unfold Hid; rw [hgx.out, if_neg hov, if_pos hx128, if_neg hs]
            clear hgx hov
            have hk0 : ((k : Int) == 0) = false := by simp; omega
            have ht : ¬ (0 : Int) < (x : Int) := by omega
            clear hs
            rcases ha with ⟨ha, ha'⟩ | ha <;> rcases hA' with ⟨hcc, rfl⟩ | ⟨hcc, rfl⟩
            all_goals
              go_wp2_with fail
              go_ret2
              refine BitsPost.no (t := l.drop (k + 1)) hfin.out (grown_set _ _ _ _) rfl ⟨_, set_row HH.out, Rd.set ?_ 0⟩
              first | exact HC.out | (have := HC.out; rw [hcc, Nat.sub_self] at this; exact this)
        · have hx1 : ¬ (x : Int) < 128 := by omega
          have h9 : k ≠ 9 := fun h => hov ⟨h, by omega⟩
          have hfin : Hid (getU 0 0 l = getU (k + 1) (q + x % 128 * 128 ^ k) (l.drop (k + 1))) := by unfold Hid; rw [hgx.out, if_neg hov, if_neg hx128]
          have hlow : Hid (q + x % 128 * 128 ^ k < 128 ^ (k + 1)) := by
            have h1 := hq.out
            have h2 : x % 128 ≤ 127 := by omega
            have h3 := Nat.mul_le_mul_right (128 ^ k) h2
            show q + x % 128 * 128 ^ k < 128 ^ (k + 1)
            rw [Nat.pow_succ]
            omega
          have ha : ((k : Int) == 9) = false := by simp; omega
          have hk8 : k + 1 ≤ 9 := by omega
          clear hgx hov h9
          go_wp2_with fail
          refine ⟨⟨q + x % 128 * 128 ^ k, k + 1, ?_, ?_, hkl, hk8, hlow, hfin⟩, ?_⟩
          · exact congrArg (Value.int .u64) HOR.out
          · go_num
          · simp [intOf]; omega
    · have hkn : ¬ (k : Int) < (l.length : Int) := by omega
      have hfin : Hid (getU 0 0 l = none) := by
        unfold Hid
        rw [hg.out, List.drop_eq_nil_of_le (by omega)]
        rfl
      clear hg
      go_wp2_with fail
      go_ret2
      exact BitsPost.no hfin.out (grown_refl _ _) rfl HW.out

end Go.Proofs.Ytblbcoknefgcaaa
