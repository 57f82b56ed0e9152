/-
  What each call of the reader of the document's answer for layer 1 (package butteryref01) comes to, the second half. Conditions: none but that what it reads lies in memory.
-/
import Derived.Test.YtackfigkhjdidaaRefR
namespace Go.Proofs.Ytackfigkhjdidaa
open Go.RowKit

set_option maxHeartbeats 400000 in
theorem xCount_any (R : Nat) (most : Int) (st : Option (List UInt8)) (w : World) (h : Rdr 187 w R st) :
    Calls Try.prog 72 #[.pointer (some ⟨R, 0, none⟩), .int .i64 most] w (XTells R (Value.int .i64) (told 0 (gCount most) st) w) := by
  cases st with
  | none =>
    go_enter Try.func72, Try.ntmps72
    go_wp2_with fail
    refine (xuint_failed R _ h).mono ?_
    rintro e w1 ⟨rfl, hg, hr⟩
    have hc1 : w1.cell? ⟨R, 1, none⟩ = some (.bool true) := xrow hr
    go_wp2_with fail
    refine (xfail_any R _ _ hr).mono ?_
    rintro e w2 ⟨rfl, hg2, hr2⟩
    have hgg := grown_trans hg hg2
    go_wp2_with fail
    go_ret
    exact ⟨rfl, hgg, hr2⟩
  | some l =>
    go_enter Try.func72, Try.ntmps72
    go_wp2_with fail
    refine (xuint_any R l _ h).mono ?_
    intro e w1 hb
    rcases hb.cases with ⟨hg, ⟨q, t, hq, hu, rfl, hr⟩ | ⟨hq, rfl, hr⟩⟩
    · have hc1 : w1.cell? ⟨R, 1, none⟩ = some (.bool false) := xrow hr
      by_cases hm : most < 0
      · have hfin : Hid (told 0 (gCount most) (some l) = (0, none)) := told_none (by unfold gCount; rw [hq]; simp only []; rw [if_pos (Or.inl hm)])
        clear hq hb
        go_wp2_with fail
        refine (xfail_any R _ _ hr).mono ?_
        rintro e w2 ⟨rfl, hg2, hr2⟩
        have hgg := grown_trans hg hg2
        go_wp2_with fail
        go_ret
        exact (by rw [hfin.out]; exact ⟨rfl, hgg, hr2⟩)
      · have hm0 : 0 ≤ most := by omega
        by_cases hbig : 2147483647 < q
        · have hbig' : (2147483647 : Int) < (q : Int) := by omega
          have hfin : Hid (told 0 (gCount most) (some l) = (0, none)) := told_none (by unfold gCount; rw [hq]; simp only []; rw [if_pos (Or.inr (Or.inl hbig))])
          clear hq hb
          go_wp2_with fail
          refine (xfail_any R _ _ hr).mono ?_
          rintro e w2 ⟨rfl, hg2, hr2⟩
          have hgg := grown_trans hg hg2
          go_wp2_with fail
          go_ret
          exact (by rw [hfin.out]; exact ⟨rfl, hgg, hr2⟩)
        · have hbig' : (q : Int) ≤ 2147483647 := by omega
          by_cases hmo : most < (q : Int)
          · have hfin : Hid (told 0 (gCount most) (some l) = (0, none)) := told_none (by unfold gCount; rw [hq]; simp only []; rw [if_pos (Or.inr (Or.inr hmo))])
            clear hq hb
            go_wp2_with fail
            refine (xfail_any R _ _ hr).mono ?_
            rintro e w2 ⟨rfl, hg2, hr2⟩
            have hgg := grown_trans hg hg2
            go_wp2_with fail
            go_ret
            exact (by rw [hfin.out]; exact ⟨rfl, hgg, hr2⟩)
          · have hmo' : (q : Int) ≤ most := by omega
            have hfin : Hid (told 0 (gCount most) (some l) = ((q : Int), some t)) := told_some (by unfold gCount; rw [hq]; simp only []; rw [if_neg (by omega)])
            clear hq hb
            go_wp2_with fail
            go_ret
            exact (by rw [hfin.out]; exact ⟨rfl, hg, hr⟩)
    · have hc1 : w1.cell? ⟨R, 1, none⟩ = some (.bool true) := xrow hr
      have hfin : Hid (told 0 (gCount most) (some l) = (0, none)) := told_none (by unfold gCount; rw [hq])
      clear hq hb
      go_wp2_with fail
      refine (xfail_any R _ _ hr).mono ?_
      rintro e w2 ⟨rfl, hg2, hr2⟩
      have hgg := grown_trans hg hg2
      go_wp2_with fail
      go_ret
      exact (by rw [hfin.out]; exact ⟨rfl, hgg, hr2⟩)

/-- a telling of a count, in two cases -/
theorem told_count {most : Int} {l : List UInt8} : (∃ (q : Nat) (t : List UInt8), gCount most l = some ((q : Int), t) ∧ told 0 (gCount most) (some l) = ((q : Int), some t)) ∨ (gCount most l = none ∧ told 0 (gCount most) (some l) = (0, none)) := by
  cases hg : gCount most l with
  | none => exact .inr ⟨rfl, told_none hg⟩
  | some p =>
    obtain ⟨n, t⟩ := p
    obtain ⟨q, rfl, _, _⟩ := gCount_nat hg
    exact .inl ⟨q, t, rfl, told_some hg⟩

set_option maxHeartbeats 400000 in
theorem xStr_any (R : Nat) (most : Int) (st : Option (List UInt8)) (w : World) (h : Rdr 187 w R st) :
    Calls Try.prog 69 #[.pointer (some ⟨R, 0, none⟩), .int .i64 most] w (XTells R (fun l => Value.string ⟨l.toArray⟩) (told [] (gStr most) st) w) := by
  have hC := xCount_any R most st w h
  cases st with
  | none =>
    go_enter Try.func69, Try.ntmps69
    go_wp2_with fail
    refine hC.mono ?_
    rintro e w1 ⟨rfl, hg, hr⟩
    have hr' : Rdr 187 w1 R none := hr
    have hc1 : w1.cell? ⟨R, 1, none⟩ = some (.bool true) := xrow hr'
    clear hC hr
    go_wp2_with fail
    refine (xfail_any R _ _ hr').mono ?_
    rintro e w2 ⟨rfl, hg2, hr2⟩
    have hgg := grown_trans hg hg2
    go_wp2_with fail
    go_ret
    exact ⟨rfl, hgg, hr2⟩
  | some l =>
    rcases told_count (most := most) (l := l) with ⟨q, t, hq, htq⟩ | ⟨hq, htq⟩
    · rw [htq] at hC
      by_cases hlen : t.length < q
      · have hlen' : (t.length : Int) < (q : Int) := by omega
        have hfin : Hid (told [] (gStr most) (some l) = ([], none)) := told_none (by unfold gStr; rw [hq]; simp only []; rw [if_pos (by simp; omega)])
        clear hq htq
        go_enter Try.func69, Try.ntmps69
        go_wp2_with fail
        refine hC.mono ?_
        rintro e w1 ⟨rfl, hg, hr⟩
        have hr' : Rdr 187 w1 R (some t) := hr
        have hc1 : w1.cell? ⟨R, 1, none⟩ = some (.bool false) := xrow hr'
        obtain ⟨v, hh, hrd⟩ := hr
        obtain ⟨A, c, rfl, -⟩ := hrd
        have hc0 : w1.cell? ⟨R, 0, none⟩ = some (.slice A t.length c) := (row_cells hh).1 0
        clear hC hh
        go_wp2_with fail
        refine (xfail_any R _ _ hr').mono ?_
        rintro e w2 ⟨rfl, hg2, hr2⟩
        have hgg := grown_trans hg hg2
        go_wp2_with fail
        go_ret
        exact (by rw [hfin.out]; exact ⟨rfl, hgg, hr2⟩)
      · have hlen' : ¬ (t.length : Int) < (q : Int) := by omega
        have hfin : Hid (told [] (gStr most) (some l) = (t.take q, some (t.drop q))) := told_some (by unfold gStr; rw [hq]; simp only []; rw [if_neg (by simp; omega)]; rfl)
        clear hq htq
        go_enter Try.func69, Try.ntmps69
        go_wp2_with fail
        refine hC.mono ?_
        rintro e w1 ⟨rfl, hg, hr⟩
        have hr' : Rdr 187 w1 R (some t) := hr
        have hc1 : w1.cell? ⟨R, 1, none⟩ = some (.bool false) := xrow hr'
        obtain ⟨v, hh, hrd⟩ := hr
        have HH := Lib.hid hh
        have HR := Lib.hid hrd
        obtain ⟨A, c, rfl, hlc, -⟩ := hrd
        have hlc' : t.length ≤ c := hlc
        have hc0 : w1.cell? ⟨R, 0, none⟩ = some (.slice A t.length c) := (row_cells hh).1 0
        have hf0 : w1.frozen? ⟨R, 0, none⟩ = false := (row_cells hh).2 0
        have hcv := conv_str (Rd.takeAny HR.out (n := q) (by show q ≤ t.length; omega))
        have hqc : q ≤ c := by omega
        have hcut : ∃ A', ((c = q ∧ A' = A) ∨ (¬ c = q ∧ A' = A.map (·.add q))) ∧ Rd w1 R (.slice A' (t.length - q) (c - q)) (t.drop q) := by
          by_cases hcc : c = q
          · exact ⟨_, .inl ⟨hcc, rfl⟩, Rd.cutAny HR.out (by show q ≤ t.length; omega) _ (Or.inr ⟨hcc, rfl⟩)⟩
          · exact ⟨_, .inr ⟨hcc, rfl⟩, Rd.cutAny HR.out (by show q ≤ t.length; omega) _ (Or.inl rfl)⟩
        obtain ⟨A', hA', hcut⟩ := hcut
        have HC := Lib.hid hcut
        clear hC hh hlc hcut
        rcases hA' with ⟨hcc, rfl⟩ | ⟨hcc, rfl⟩
        · subst hcc
          go_wp2_with fail
          go_ret
          have hE : Rd w1 R (.slice A' (t.length - c) (c - c)) (t.drop c) := HC.out
          rw [Nat.sub_self, show t.length - c = 0 by omega] at hE
          exact (by rw [hfin.out]; exact ⟨rfl, grown_trans hg (grown_set _ _ _ _), _, set_row HH.out, Rd.set hE 0⟩)
        · go_wp2_with fail
          go_ret
          exact (by rw [hfin.out]; exact ⟨rfl, grown_trans hg (grown_set _ _ _ _), _, set_row HH.out, Rd.set HC.out 0⟩)
    · rw [htq] at hC
      have hfin : Hid (told [] (gStr most) (some l) = ([], none)) := told_none (by unfold gStr; rw [hq])
      clear hq htq
      go_enter Try.func69, Try.ntmps69
      go_wp2_with fail
      refine hC.mono ?_
      rintro e w1 ⟨rfl, hg, hr⟩
      have hr' : Rdr 187 w1 R none := hr
      have hc1 : w1.cell? ⟨R, 1, none⟩ = some (.bool true) := xrow hr'
      clear hC hr
      go_wp2_with fail
      refine (xfail_any R _ _ hr').mono ?_
      rintro e w2 ⟨rfl, hg2, hr2⟩
      have hgg := grown_trans hg hg2
      go_wp2_with fail
      go_ret
      exact (by rw [hfin.out]; exact ⟨rfl, hgg, hr2⟩)

/-- A truth value reads as a count of at most 1. -/
theorem count_flag (l : List UInt8) : (∃ b t, gFlag l = some (b, t) ∧ gCount 1 l = some (if b then 1 else 0, t)) ∨ (gFlag l = none ∧ gCount 1 l = none) := by
  cases l with
  | nil => exact .inr ⟨rfl, rfl⟩
  | cons x t =>
    have hx := UInt8.toNat_lt x
    by_cases h1 : 1 < x.toNat
    · refine .inr ⟨by unfold gFlag; simp only []; rw [if_pos h1], ?_⟩
      unfold gCount
      cases hg : getU 0 0 (x :: t) with
      | none => rfl
      | some p =>
        simp only []
        rw [if_pos]
        obtain ⟨q, t'⟩ := p
        by_cases hs : x.toNat < 128
        · unfold getU at hg
          rw [if_neg (by omega), if_pos hs, if_pos (Or.inr rfl)] at hg
          simp only [Option.some.injEq, Prod.mk.injEq] at hg
          have := hg.1
          simp only []
          omega
        · unfold getU at hg
          rw [if_neg (by omega), if_neg hs] at hg
          obtain ⟨d, hd, _, hd2⟩ := getU_only t 1 _ q t' (by omega) hg
          simp only []
          omega
    · refine .inl ⟨x.toNat == 1, t, by unfold gFlag; simp only []; rw [if_neg h1], ?_⟩
      unfold gCount getU
      rw [if_neg (by omega), if_pos (by omega), if_pos (Or.inr rfl)]
      simp only []
      have hx2 : x.toNat = 0 ∨ x.toNat = 1 := by omega
      rcases hx2 with hx2 | hx2 <;> simp [hx2]

set_option maxHeartbeats 400000 in
theorem xFlag_any (R : Nat) (st : Option (List UInt8)) (w : World) (h : Rdr 187 w R st) :
    Calls Try.prog 70 #[.pointer (some ⟨R, 0, none⟩)] w (XTells R Value.bool (told false gFlag st) w) := by
  have hC := xCount_any R 1 st w h
  cases st with
  | none =>
    go_enter Try.func70, Try.ntmps70
    go_wp2_with fail
    refine hC.mono ?_
    rintro e w1 ⟨rfl, hg, hr⟩
    clear hC
    go_wp2_with fail
    go_ret
    exact ⟨rfl, hg, hr⟩
  | some l =>
    rcases count_flag l with ⟨b, t, hb, hc⟩ | ⟨hb, hc⟩
    · have hfin : Hid (told false gFlag (some l) = (b, some t)) := told_some hb
      rw [told_some hc] at hC
      clear hb hc
      cases b
      all_goals
        go_enter Try.func70, Try.ntmps70
        go_wp2_with fail
        refine hC.mono ?_
        rintro e w1 ⟨rfl, hg, hr⟩
        clear hC
        go_wp2_with fail
        go_ret
        exact (by rw [hfin.out]; exact ⟨rfl, hg, hr⟩)
    · have hfin : Hid (told false gFlag (some l) = (false, none)) := told_none hb
      rw [told_none hc] at hC
      clear hb hc
      go_enter Try.func70, Try.ntmps70
      go_wp2_with fail
      refine hC.mono ?_
      rintro e w1 ⟨rfl, hg, hr⟩
      clear hC
      go_wp2_with fail
      go_ret
      exact (by rw [hfin.out]; exact ⟨rfl, hg, hr⟩)
end Go.Proofs.Ytackfigkhjdidaa
