/-
  What each call of the reader of the document's answer for layer 1 (package butteryref01) comes to: it tells what the plain functions of the bytes tell, and writes its own cell alone. Conditions: none but that what it reads lies in memory.
-/
import Derived.Test.YtackfigkhjdidaaReaderC
import Derived.Test.YtackfigkhjdidaaPlainD
namespace Go.Proofs.Ytackfigkhjdidaa
open Go.RowKit

set_option maxHeartbeats 400000 in
theorem xfail_any (R : Nat) (st : Option (List UInt8)) (w : World) (h : Rdr 187 w R st) :
    Calls Try.prog 131 #[.pointer (some ⟨R, 0, none⟩)] w fun e w' => e = .returned (.tuple #[]) ∧ w.grownBy w' (some R) ∧ Rdr 187 w' R none := by
  obtain ⟨v, hh, hr⟩ := h
  obtain ⟨hc, hf⟩ := row_cells hh
  obtain ⟨A, c, rfl, -⟩ := hr
  have hc0 : w.cell? ⟨R, 0, none⟩ = some (.slice A (st.getD []).length c) := hc 0
  have hc1 : w.cell? ⟨R, 1, none⟩ = some (.bool st.isNone) := hc 1
  have hf0 := hf 0
  have hf1 := hf 1
  have HH := Lib.hid hh
  clear hc hf hh
  go_enter Try.func131, Try.ntmps131
  go_wp2_with fail
  go_end0
  refine ⟨rfl, grown_trans (grown_set _ _ _ 1) (grown_set _ _ _ 0), .slice none 0 0, ?_, Rd.nil _ _⟩
  simp [World.setCell, Array.getElem?_modify, HH.out]

/-- 's = scale * 128', as far as it is read -/
theorem scale_step (k : Nat) (h : k < 9) : IntKind.u64.wrap (((128 ^ k : Nat) : Int) * 128) = ((128 ^ (k + 1) : Nat) : Int) := by
  have h1 : (128 : Nat) ^ (k + 1) ≤ 128 ^ 9 := Nat.pow_le_pow_right (by omega) (by omega)
  have h2 : (128 : Nat) ^ 9 < 18446744073709551616 := by decide
  rw [wrapU64]
  rw [Nat.pow_succ] at *
  omega
/-- 'u + c%128*scale' -/
theorem sum_step (q k x : Nat) (hq : q < 128 ^ k) (hk : k ≤ 9) (hx : x < 256) (h9 : k = 9 → x ≤ 1) :
    IntKind.u64.wrap ((q : Int) + IntKind.u64.wrap ((x : Int) % 128 * ((128 ^ k : Nat) : Int))) = ((q + x % 128 * 128 ^ k : Nat) : Int) := by
  have hp : x % 128 * 128 ^ k + q < 18446744073709551616 := by
    by_cases h : k = 9
    · have := h9 h
      subst h
      have h1 : x % 128 ≤ 1 := by omega
      have := Nat.mul_le_mul_right (128 ^ 9) h1
      omega
    · have h8 : k ≤ 8 := by omega
      have h1 : (128 : Nat) ^ k ≤ 128 ^ 8 := Nat.pow_le_pow_right (by omega) h8
      have h2 : x % 128 ≤ 127 := by omega
      have := Nat.mul_le_mul h2 h1
      omega
  have e : (x : Int) % 128 * ((128 ^ k : Nat) : Int) = ((x % 128 * 128 ^ k : Nat) : Int) := by simp
  rw [e]
  have e3 : IntKind.u64.wrap ((x % 128 * 128 ^ k : Nat) : Int) = ((x % 128 * 128 ^ k : Nat) : Int) := by rw [wrapU64]; omega
  rw [e3, wrapU64]
  omega

/-- what the answer's 'uint' comes to -/
def UPost (T : TypeId) (R : Nat) (st : Option (List UInt8)) (w : World) (e : Ending) (w' : World) : Prop :=
  w.grownBy w' (some R) ∧
  match st.bind (getU 0 0) with
  | some (q, t) => e = .returned (.int .u64 q) ∧ Rdr T w' R (some t)
  | none => e = .returned (.int .u64 0) ∧ Rdr T w' R none
theorem UPost.yes {T : TypeId} {R : Nat} {st : Option (List UInt8)} {w w' : World} {e : Ending} {q : Nat} {t : List UInt8} (h : st.bind (getU 0 0) = some (q, t)) (hg : w.grownBy w' (some R))
    (he : e = .returned (.int .u64 q)) (hr : Rdr T w' R (some t)) : UPost T R st w e w' := by unfold UPost; rw [h]; exact ⟨hg, he, hr⟩
theorem UPost.no {T : TypeId} {R : Nat} {st : Option (List UInt8)} {w w' : World} {e : Ending} (h : st.bind (getU 0 0) = none) (hg : w.grownBy w' (some R))
    (he : e = .returned (.int .u64 0)) (hr : Rdr T w' R none) : UPost T R st w e w' := by unfold UPost; rw [h]; exact ⟨hg, he, hr⟩

set_option maxRecDepth 100000 in
set_option maxHeartbeats 1000000 in
theorem xuint_any (R : Nat) (l : List UInt8) (w : World) (hR : Rdr 187 w R (some l)) :
    Calls Try.prog 130 #[.pointer (some ⟨R, 0, none⟩)] w (UPost 187 R (some l) w) := by
  have HW := Lib.hid hR
  obtain ⟨v, hh, hr⟩ := hR
  obtain ⟨hc, hf⟩ := row_cells hh
  have HH := Lib.hid hh
  have HR := Lib.hid hr
  obtain ⟨A, c, rfl, h1, h2, h3, h4⟩ := hr
  have hc0 : w.cell? ⟨R, 0, none⟩ = some (.slice A l.length c) := hc 0
  have hf0 : w.frozen? ⟨R, 0, none⟩ = false := hf 0
  have hlc : l.length ≤ c := h1
  clear hc hf h1 h2 h3 hh
  go_enter Try.func130, Try.ntmps130
  go_wp2_with fail
  go_loop [3, 4, 5] (fun u sc i => ∃ q k : Nat, ∃ z : Int, u = .int .u64 q ∧ sc = .int .u64 z ∧ Hid (z = ((128 ^ k : Nat) : Int)) ∧ i = .int .i64 k ∧ k ≤ l.length ∧ k ≤ 9 ∧ Hid (q < 128 ^ k) ∧ Hid (getU 0 0 l = getU k q (l.drop k))) (fun _ _ i => l.length - (intOf i).toNat)
  case atStart => exact ⟨0, 0, 1, rfl, rfl, by unfold Hid; simp, rfl, by omega, by omega, by unfold Hid; simp, rfl⟩
  case round =>
    obtain ⟨q, k, z, rfl, rfl, hz, rfl, hk, hk9, hq, hg⟩ := hrel
    have hk10 : (k : Int) < 10 := by omega
    by_cases hkl : k < l.length
    · obtain ⟨b, o, rfl, hb, hcell⟩ := h4 (fun hl => by subst hl; exact absurd hkl (Nat.not_lt_zero _))
      have hx := hcell k l[k] (List.getElem?_eq_getElem hkl)
      have hlt : (k : Int) < (l.length : Int) := by omega
      have hdrop : l.drop k = l[k] :: l.drop (k + 1) := List.drop_eq_getElem_cons hkl
      obtain ⟨x, hxx⟩ : ∃ x : Nat, x = l[k].toNat := ⟨_, rfl⟩
      have hx9 : x < 256 := by rw [hxx]; exact UInt8.toNat_lt _
      rw [← hxx] at hx
      have hgx : Hid (getU 0 0 l = if k = 9 ∧ 1 < x then none else if x < 128 then (if 0 < x ∨ k = 0 then some (q + x % 128 * 128 ^ k, l.drop (k + 1)) else none) else getU (k + 1) (q + x % 128 * 128 ^ k) (l.drop (k + 1))) := by
        rw [hg.out, hdrop, hxx]
        rfl
      clear hcell h4 hxx hdrop hg
      by_cases hov : k = 9 ∧ 1 < x
      · have ha : ((k : Int) == 9) = true := by simp; omega
        have hb1 : (1 : Int) < (x : Int) := by omega
        have hfin : Hid ((some l).bind (getU 0 0) = none) := by unfold Hid; show getU 0 0 l = none; rw [hgx.out, if_pos hov]
        clear hgx hov
        go_wp2_with fail
        refine (xfail_any R _ _ HW.out).mono ?_
        rintro e w1 ⟨rfl, hg1, hr1⟩
        go_wp2_with fail
        go_ret
        exact UPost.no hfin.out hg1 rfl hr1
      · have hsum : IntKind.u64.wrap ((q : Int) + IntKind.u64.wrap ((x : Int) % 128 * z)) = ((q + x % 128 * 128 ^ k : Nat) : Int) := by rw [hz.out]; exact sum_step q k x hq.out hk9 hx9 (by omega)
        have HSUM := Lib.hid hsum
        clear hsum
        have ha : (((k : Int) == 9) = true ∧ ¬ (1 : Int) < (x : Int)) ∨ ((k : Int) == 9) = false := by
          by_cases h9 : k = 9
          · left; exact ⟨by simp; omega, by omega⟩
          · right; simp; omega
        by_cases hx128 : x < 128
        · have hx1 : ¬ (128 : Int) ≤ (x : Int) := by omega
          have hcut : ∃ A', ((c = k + 1 ∧ A' = some ⟨b, o, none⟩) ∨ (¬ c = k + 1 ∧ A' = some ⟨b, o + (k + 1), none⟩)) ∧ Rd w R (.slice A' (l.length - (k + 1)) (c - (k + 1))) (l.drop (k + 1)) := by
            by_cases hcc : c = k + 1
            · exact ⟨_, .inl ⟨hcc, rfl⟩, Rd.cut HR.out hkl hlc _ (Or.inr ⟨hcc, by simp⟩)⟩
            · exact ⟨_, .inr ⟨hcc, rfl⟩, Rd.cut HR.out hkl hlc _ (Or.inl rfl)⟩
          obtain ⟨A', hA', hcut⟩ := hcut
          have HC := Lib.hid hcut
          clear hcut
          by_cases hs : 0 < x ∨ k = 0
          · have hfin : Hid ((some l).bind (getU 0 0) = some (q + x % 128 * 128 ^ k, l.drop (k + 1))) := by unfold Hid; show getU 0 0 l = _; rw [hgx.out, if_neg hov, if_pos hx128, if_pos hs]
            clear hgx hov
            by_cases hk0 : k = 0
            · have ht : ¬ (0 : Int) < (k : Int) := by omega
              clear hs hk0
              rcases ha with ⟨ha, ha'⟩ | ha <;> rcases hA' with ⟨hcc, rfl⟩ | ⟨hcc, rfl⟩
              all_goals
                go_wp2_with fail
                go_ret
                refine UPost.yes hfin.out (grown_set _ _ _ _) (ret_int HSUM.out) ⟨_, set_row HH.out, Rd.set ?_ 0⟩
                first | exact HC.out | (have := HC.out; rw [hcc, Nat.sub_self] at this; exact this)
            · have ht : (0 : Int) < (k : Int) := by omega
              have ht2 : ((x : Int) == 0) = false := by simp; omega
              clear hs hk0
              rcases ha with ⟨ha, ha'⟩ | ha <;> rcases hA' with ⟨hcc, rfl⟩ | ⟨hcc, rfl⟩
              all_goals
                go_wp2_with fail
                go_ret
                refine UPost.yes hfin.out (grown_set _ _ _ _) (ret_int HSUM.out) ⟨_, set_row HH.out, Rd.set ?_ 0⟩
                first | exact HC.out | (have := HC.out; rw [hcc, Nat.sub_self] at this; exact this)
          · have hfin : Hid ((some l).bind (getU 0 0) = none) := by unfold Hid; show getU 0 0 l = _; rw [hgx.out, if_neg hov, if_pos hx128, if_neg hs]
            clear hgx hov
            have ht : (0 : Int) < (k : Int) := by omega
            have ht2 : ((x : Int) == 0) = true := by simp; omega
            clear hs HC hA'
            rcases ha with ⟨ha, ha'⟩ | ha
            all_goals
              go_wp2_with fail
              refine (xfail_any R _ _ HW.out).mono ?_
              rintro e w1 ⟨rfl, hg1, hr1⟩
              go_wp2_with fail
              go_ret
              exact UPost.no hfin.out hg1 rfl hr1
        · have hx1 : (128 : Int) ≤ (x : Int) := by omega
          have h9 : k ≠ 9 := fun h => hov ⟨h, by omega⟩
          have hfin : Hid (getU 0 0 l = getU (k + 1) (q + x % 128 * 128 ^ k) (l.drop (k + 1))) := by unfold Hid; rw [hgx.out, if_neg hov, if_neg hx128]
          have hlow : Hid (q + x % 128 * 128 ^ k < 128 ^ (k + 1)) := by
            have h1 := hq.out
            have h2 : x % 128 ≤ 127 := by omega
            have h3 := Nat.mul_le_mul_right (128 ^ k) h2
            show q + x % 128 * 128 ^ k < 128 ^ (k + 1)
            rw [Nat.pow_succ]
            omega
          have hscale : Hid (IntKind.u64.wrap (z * 128) = ((128 ^ (k + 1) : Nat) : Int)) := by
            unfold Hid
            rw [hz.out]
            exact scale_step k (by omega)
          have ha : ((k : Int) == 9) = false := by simp; omega
          have hk8 : k + 1 ≤ 9 := by omega
          clear hgx hov h9
          go_wp2_with fail
          refine ⟨⟨q + x % 128 * 128 ^ k, k + 1, _, ?_, rfl, hscale, ?_, hkl, hk8, hlow, hfin⟩, ?_⟩
          · exact congrArg (Value.int .u64) HSUM.out
          · go_num
          · simp [intOf]; omega
    · have hkn : ¬ (k : Int) < (l.length : Int) := by omega
      have hfin : Hid ((some l).bind (getU 0 0) = none) := by
        unfold Hid
        show getU 0 0 l = none
        rw [hg.out, List.drop_eq_nil_of_le (by omega)]
        rfl
      clear hg
      go_wp2_with fail
      refine (xfail_any R _ _ HW.out).mono ?_
      rintro e w1 ⟨rfl, hg1, hr1⟩
      go_wp2_with fail
      go_ret
      exact UPost.no hfin.out hg1 rfl hr1

theorem UPost.cases {T : TypeId} {R : Nat} {l : List UInt8} {w w' : World} {e : Ending} (h : UPost T R (some l) w e w') :
    w.grownBy w' (some R) ∧ ((∃ q t, getU 0 0 l = some (q, t) ∧ U64 q ∧ e = .returned (.int .u64 q) ∧ Rdr T w' R (some t)) ∨ (getU 0 0 l = none ∧ e = .returned (.int .u64 0) ∧ Rdr T w' R none)) := by
  unfold UPost at h
  have hb : (some l).bind (getU 0 0) = getU 0 0 l := rfl
  rw [hb] at h
  cases hg : getU 0 0 l with
  | none => rw [hg] at h; exact ⟨h.1, .inr ⟨rfl, h.2.1, h.2.2⟩⟩
  | some p =>
    rw [hg] at h
    exact ⟨h.1, .inl ⟨p.1, p.2, rfl, getU_fits l 0 0 p.1 p.2 (by omega) (by simp) hg, h.2.1, h.2.2⟩⟩

set_option maxRecDepth 100000 in
set_option maxHeartbeats 400000 in
/-- of a reader that has failed -/
theorem xuint_failed (R : Nat) (w : World) (hR : Rdr 187 w R none) :
    Calls Try.prog 130 #[.pointer (some ⟨R, 0, none⟩)] w fun e w' => e = .returned (.int .u64 0) ∧ w.grownBy w' (some R) ∧ Rdr 187 w' R none := by
  have HW := Lib.hid hR
  obtain ⟨v, hh, hr⟩ := hR
  obtain ⟨hc, hf⟩ := row_cells hh
  obtain ⟨A, c, rfl, -⟩ := hr
  have hc0 : w.cell? ⟨R, 0, none⟩ = some (.slice A 0 c) := hc 0
  clear hc hf hh
  go_enter Try.func130, Try.ntmps130
  go_wp2_with fail
  refine wp_loop_rounds 1 ?_
  rw [rounds_succ]
  go_wp2_with fail
  refine (xfail_any R _ _ HW.out).mono ?_
  rintro e w1 ⟨rfl, hg1, hr1⟩
  go_wp2_with fail
  go_ret
  exact ⟨rfl, hg1, hr1⟩

/-- what a telling of the answer's reader comes to -/
def XTells {α : Type} (R : Nat) (f : α → Value) (p : α × Option (List UInt8)) (w : World) (e : Ending) (w' : World) : Prop :=
  e = .returned (f p.1) ∧ w.grownBy w' (some R) ∧ Rdr 187 w' R p.2

theorem xrow {R : Nat} {st : Option (List UInt8)} {w : World} (h : Rdr 187 w R st) : w.cell? ⟨R, 1, none⟩ = some (.bool st.isNone) := by
  obtain ⟨v, hh, _⟩ := h
  exact (row_cells hh).1 1

theorem xodd (u : Nat) (h : U64 u) (h0 : u % 2 = 1) : wrap64 (wrap64 (-wrap64 (IntKind.u64.wrap ((u : Int) / 2))) - 1) = unzz u := unfold_odd u h h0

set_option maxHeartbeats 400000 in
theorem xNum_any (R : Nat) (st : Option (List UInt8)) (w : World) (h : Rdr 187 w R st) :
    Calls Try.prog 68 #[.pointer (some ⟨R, 0, none⟩)] w (XTells R (Value.int .i64) (told 0 gNum st) w) := by
  cases st with
  | none =>
    go_enter Try.func68, Try.ntmps68
    go_wp2_with fail
    refine (xuint_failed R _ h).mono ?_
    rintro e w1 ⟨rfl, hg, hr⟩
    have hc1 : w1.cell? ⟨R, 1, none⟩ = some (.bool true) := xrow hr
    go_wp2_with fail
    go_ret
    exact ⟨rfl, hg, hr⟩
  | some l =>
    go_enter Try.func68, Try.ntmps68
    go_wp2_with fail
    refine (xuint_any R l _ h).mono ?_
    intro e w1 hb
    rcases hb.cases with ⟨hg, ⟨q, t, hq, hu, rfl, hr⟩ | ⟨hq, rfl, hr⟩⟩
    · have hfin : Hid (told 0 gNum (some l) = (unzz q, some t)) := told_some (by unfold gNum; rw [hq])
      have hc1 : w1.cell? ⟨R, 1, none⟩ = some (.bool false) := xrow hr
      by_cases h0 : q % 2 = 1
      · have hE := xodd q hu h0
        have HE := Lib.hid hE
        have ht : (((q : Int) % 2) == 0) = false := by simp; omega
        clear hq hb h0 hE
        go_wp2_with fail
        go_ret
        exact (by rw [hfin.out]; exact ⟨ret_int HE.out, hg, hr⟩)
      · have hE := unfold_even q hu h0
        have HE := Lib.hid hE
        have ht : (((q : Int) % 2) == 0) = true := by simp; omega
        clear hq hb h0 hE
        go_wp2_with fail
        go_ret
        exact (by rw [hfin.out]; exact ⟨ret_int HE.out, hg, hr⟩)
    · have hfin : Hid (told 0 gNum (some l) = (0, none)) := told_none (by unfold gNum; rw [hq])
      have hc1 : w1.cell? ⟨R, 1, none⟩ = some (.bool true) := xrow hr
      clear hq hb
      go_wp2_with fail
      go_ret
      exact (by rw [hfin.out]; exact ⟨rfl, hg, hr⟩)
end Go.Proofs.Ytackfigkhjdidaa
