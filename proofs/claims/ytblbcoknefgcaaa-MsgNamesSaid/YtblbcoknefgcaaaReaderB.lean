/-
  What each call of a reader (package code) comes to, the second half. Conditions: none but that what it reads lies in memory.
-/
import Derived.Test.YtblbcoknefgcaaaReader
namespace Go.Proofs.Ytblbcoknefgcaaa
open Go.RowKit

set_option maxHeartbeats 400000 in
theorem unfold_any (u : Nat) (w : World) (hu : U64 u) :
    Calls Try.prog 182 #[.int .u64 u] w fun e w' => e = .returned (.int .i64 (unzz u)) ∧ w = w' := by
  by_cases h : u % 2 = 1
  · have h' : (u : Int) % 2 = 1 := by omega
    have h1 : (((u : Int) % 2) == 1) = true := by simp [h']
    have H := Lib.hid h
    clear h h'
    go_enter Try.func182, Try.ntmps182
    go_wp2_with fail
    go_ret
    exact ⟨ret_int (unfold_odd u hu H.out), rfl⟩
  · have h1 : (((u : Int) % 2) == 1) = false := by simp; omega
    go_enter Try.func182, Try.ntmps182
    go_wp2_with fail
    go_ret
    exact ⟨ret_int (unfold_even u hu h), rfl⟩

set_option maxHeartbeats 400000 in
theorem unfold_int (n : Int) (w : World) :
    Calls Try.prog 182 #[.int .u64 n] w fun e w' => ∃ m, e = .returned (.int .i64 m) ∧ w = w' := by
  go_enter Try.func182, Try.ntmps182
  go_wp2_with fail
  all_goals
    go_ret
    exact ⟨_, rfl, rfl⟩


/-- what a reading of the rest comes to -/
def Got (T : TypeId) (R : Nat) (r : Option (Value × List UInt8)) (bad : Value → Prop) (w : World) (e : Ending) (w' : World) : Prop :=
  w.grownBy w' (some R) ∧
  match r with
  | some p => e = .returned (.tuple #[p.1, .bool true]) ∧ Rdr T w' R (some p.2)
  | none => ∃ v l', bad v ∧ e = .returned (.tuple #[v, .bool false]) ∧ Rdr T w' R (some l')

theorem Got.yes {T : TypeId} {R : Nat} {r : Option (Value × List UInt8)} {bad : Value → Prop} {w : World} {e : Ending} {w' : World} {v : Value} {t : List UInt8} (h : r = some (v, t)) (hg : w.grownBy w' (some R))
    (he : e = .returned (.tuple #[v, .bool true])) (hr : Rdr T w' R (some t)) : Got T R r bad w e w' := by subst h; exact ⟨hg, he, hr⟩
theorem Got.no {T : TypeId} {R : Nat} {r : Option (Value × List UInt8)} {bad : Value → Prop} {w : World} {e : Ending} {w' : World} {v : Value} {t : List UInt8} (h : r = none) (hg : w.grownBy w' (some R))
    (hb : bad v) (he : e = .returned (.tuple #[v, .bool false])) (hr : Rdr T w' R (some t)) : Got T R r bad w e w' := by subst h; exact ⟨hg, v, t, hb, he, hr⟩

/-- 'bits', as two cases -/
theorem BitsPost.cases {T : TypeId} {R : Nat} {l : List UInt8} {w w' : World} {e : Ending} (h : BitsPost T R l w e w') :
    w.grownBy w' (some R) ∧ ((∃ q t, getU 0 0 l = some (q, t) ∧ U64 q ∧ e = .returned (.tuple #[.int .u64 q, .bool true]) ∧ Rdr T w' R (some t)) ∨
      (getU 0 0 l = none ∧ ∃ n t, e = .returned (.tuple #[.int .u64 n, .bool false]) ∧ Rdr T w' R (some t))) := by
  unfold BitsPost at h
  cases hg : getU 0 0 l with
  | none =>
    rw [hg] at h
    obtain ⟨h1, n, t, h2, h3⟩ := h
    exact ⟨h1, .inr ⟨rfl, n, t, h2, h3⟩⟩
  | some p =>
    obtain ⟨q, t⟩ := p
    rw [hg] at h
    exact ⟨h.1, .inl ⟨q, t, rfl, getU_fits l 0 0 q t (by omega) (by simp) hg, h.2.1, h.2.2⟩⟩

set_option maxHeartbeats 400000 in
theorem num_walk (R : Nat) (l : List UInt8) (w : World) (h : Rdr 151 w R (some l)) :
    Calls Try.prog 176 #[.pointer (some ⟨R, 0, none⟩)] w (Got 151 R ((gNum l).map fun p => (.int .i64 p.1, p.2)) (fun v => ∃ m, v = .int .i64 m) w) := by
  go_enter Try.func176, Try.ntmps176
  go_wp2_with fail
  refine (bits_any R l _ h).mono ?_
  intro e w1 hb
  rcases hb.cases with ⟨hg, ⟨q, t, hq, hu, rfl, hr⟩ | ⟨hq, n, t, rfl, hr⟩⟩
  · have hfin : Hid ((gNum l).map (fun p => ((.int .i64 p.1 : Value), p.2)) = some (.int .i64 (unzz q), t)) := by unfold Hid gNum; rw [hq]; rfl
    clear hq hb
    go_wp2_with fail
    refine (unfold_any q _ hu).mono ?_
    rintro e w2 ⟨rfl, rfl⟩
    go_wp2_with fail
    go_ret2
    exact Got.yes hfin.out hg rfl hr
  · have hfin : Hid ((gNum l).map (fun p => ((.int .i64 p.1 : Value), p.2)) = none) := by unfold Hid gNum; rw [hq]; rfl
    clear hq hb
    go_wp2_with fail
    refine (unfold_int n _).mono ?_
    rintro e w2 ⟨m, rfl, rfl⟩
    go_wp2_with fail
    go_ret2
    exact Got.no hfin.out hg ⟨m, rfl⟩ rfl hr

set_option maxHeartbeats 400000 in
theorem count_walk (R : Nat) (most : Int) (l : List UInt8) (w : World) (h : Rdr 151 w R (some l)) :
    Calls Try.prog 174 #[.pointer (some ⟨R, 0, none⟩), .int .i64 most] w (Got 151 R ((gCount most l).map fun p => (.int .i64 p.1, p.2)) (fun v => v = .int .i64 0) w) := by
  go_enter Try.func174, Try.ntmps174
  go_wp2_with fail
  refine (bits_any R l _ h).mono ?_
  intro e w1 hb
  rcases hb.cases with ⟨hg, ⟨q, t, hq, hu, rfl, hr⟩ | ⟨hq, n, t, rfl, hr⟩⟩
  · by_cases hm : most < 0
    · have hfin : Hid ((gCount most l).map (fun p => ((.int .i64 p.1 : Value), p.2)) = none) := by unfold Hid gCount; rw [hq]; simp [hm]
      clear hq hb
      go_wp2_with fail
      go_ret2
      exact Got.no hfin.out hg rfl rfl hr
    · have hm0 : 0 ≤ most := by omega
      by_cases hc : 2147483647 < q ∨ most < (q : Int)
      · have hfin : Hid ((gCount most l).map (fun p => ((.int .i64 p.1 : Value), p.2)) = none) := by unfold Hid gCount; rw [hq]; simp only []; rw [if_pos (Or.inr hc)]; rfl
        clear hq hb
        by_cases hmn : most ≤ 2147483647
        · have ht : most < (q : Int) := by omega
          clear hc
          go_wp2_with fail
          go_ret2
          exact Got.no hfin.out hg rfl rfl hr
        · have ht : (2147483647 : Int) < (q : Int) := by omega
          have hmn' : ¬ most ≤ 2147483647 := hmn
          clear hc
          go_wp2_with fail
          go_ret2
          exact Got.no hfin.out hg rfl rfl hr
      · have hfin : Hid ((gCount most l).map (fun p => ((.int .i64 p.1 : Value), p.2)) = some (.int .i64 q, t)) := by unfold Hid gCount; rw [hq]; simp only []; rw [if_neg (by omega)]; rfl
        clear hq hb
        have hq1 : (q : Int) ≤ 2147483647 := by omega
        have hq2 : (q : Int) ≤ most := by omega
        clear hc
        by_cases hmn : most ≤ 2147483647
        · have ht : ¬ most < (q : Int) := by omega
          go_wp2_with fail
          go_ret2
          exact Got.yes hfin.out hg rfl hr
        · have ht : ¬ (2147483647 : Int) < (q : Int) := by omega
          go_wp2_with fail
          go_ret2
          exact Got.yes hfin.out hg rfl hr
  · have hfin : Hid ((gCount most l).map (fun p => ((.int .i64 p.1 : Value), p.2)) = none) := by unfold Hid gCount; rw [hq]; rfl
    clear hq hb
    go_wp2_with fail
    go_ret2
    exact Got.no hfin.out hg rfl rfl hr

theorem set_two {w : World} {R : Nat} {a b x y : Value} {T : TypeId} (h : w.heap[R]? = some (.cells #[a, b] T (0, 0))) : ((w.setCell ⟨R, 0, none⟩ x).setCell ⟨R, 1, none⟩ y).heap[R]? = some (.cells #[x, y] T (0, 0)) := by
  simp [World.setCell, Array.getElem?_modify, h]

set_option maxHeartbeats 400000 in
theorem fail_walk (R : Nat) (l : List UInt8) (w : World) (h : Rdr 151 w R (some l)) :
    Calls Try.prog 159 #[.pointer (some ⟨R, 0, none⟩)] w fun e w' => e = .returned (.tuple #[]) ∧ w.grownBy w' (some R) ∧ Rdr 151 w' R none := by
  obtain ⟨v, hh, hr⟩ := h
  obtain ⟨hc, hf⟩ := row_cells hh
  have hc0 : w.cell? ⟨R, 0, none⟩ = some v := hc 0
  have hc1 : w.cell? ⟨R, 1, none⟩ = some (.bool false) := hc 1
  have hf0 := hf 0
  have hf1 := hf 1
  have HH := Lib.hid hh
  clear hc hf hh hr
  go_enter Try.func159, Try.ntmps159
  go_wp2_with fail
  go_end0
  exact ⟨rfl, grown_trans (grown_set _ _ _ _) (grown_set _ _ _ _), .slice none 0 0, set_two HH.out, Rd.nil _ _⟩

/-- what 'take' comes to -/
def TakePost (T : TypeId) (R n : Nat) (l : List UInt8) (w : World) (e : Ending) (w' : World) : Prop :=
  w.grownBy w' (some R) ∧
      ((n ≤ l.length ∧ ∃ v, e = .returned (.tuple #[v, .bool true]) ∧ Rd w' R v (l.take n) ∧ Rdr T w' R (some (l.drop n))) ∨
       (l.length < n ∧ e = .returned (.tuple #[.slice none 0 0, .bool false]) ∧ w = w'))

set_option maxHeartbeats 400000 in
theorem take_walk (R : Nat) (n : Nat) (l : List UInt8) (w : World) (h : Rdr 151 w R (some l)) :
    Calls Try.prog 180 #[.pointer (some ⟨R, 0, none⟩), .int .i64 n] w (TakePost 151 R n l w) := by
  have HW := Lib.hid h
  obtain ⟨v, hh, hr⟩ := h
  obtain ⟨hc, hf⟩ := row_cells hh
  have HH := Lib.hid hh
  have HR := Lib.hid hr
  obtain ⟨A, c, rfl, h1, h2, h3, h4⟩ := hr
  have hc0 : w.cell? ⟨R, 0, none⟩ = some (.slice A l.length c) := hc 0
  have hf0 : w.frozen? ⟨R, 0, none⟩ = false := hf 0
  have hlc : l.length ≤ c := h1
  clear hc hf h1 h2 h3 hh h4
  by_cases hn : l.length < n
  · have hn' : (l.length : Int) < (n : Int) := by omega
    go_enter Try.func180, Try.ntmps180
    go_wp2_with fail
    go_ret2
    exact ⟨grown_refl _ _, .inr ⟨hn, rfl, rfl⟩⟩
  · have hn' : ¬ (l.length : Int) < (n : Int) := by omega
    have hnl : n ≤ l.length := by omega
    by_cases hcc : c = n
    · have hcut := Rd.cutAny HR.out hnl A (Or.inr ⟨hcc, rfl⟩)
      have HC := Lib.hid hcut
      clear hcut
      subst hcc
      go_enter Try.func180, Try.ntmps180
      go_wp2_with fail
      go_ret2
      refine ⟨grown_set _ _ _ _, .inl ⟨hnl, _, rfl, Rd.set (Rd.takeAny HR.out hnl) 0, _, set_row HH.out, Rd.set ?_ 0⟩⟩
      have hE : Rd w R (.slice A (l.length - c) (c - c)) (l.drop c) := HC.out
      rw [Nat.sub_self, show l.length - c = 0 by omega] at hE
      exact hE
    · have hcut := Rd.cutAny HR.out hnl _ (Or.inl rfl)
      have HC := Lib.hid hcut
      clear hcut
      go_enter Try.func180, Try.ntmps180
      go_wp2_with fail
      go_ret2
      exact ⟨grown_set _ _ _ _, .inl ⟨hnl, _, rfl, Rd.set (Rd.takeAny HR.out hnl) 0, _, set_row HH.out, Rd.set HC.out 0⟩⟩

theorem Got.cases {T : TypeId} {R : Nat} {r : Option (Value × List UInt8)} {bad : Value → Prop} {w : World} {e : Ending} {w' : World} (h : Got T R r bad w e w') :
    w.grownBy w' (some R) ∧ ((∃ v t, r = some (v, t) ∧ e = .returned (.tuple #[v, .bool true]) ∧ Rdr T w' R (some t)) ∨ (r = none ∧ ∃ v t, bad v ∧ e = .returned (.tuple #[v, .bool false]) ∧ Rdr T w' R (some t))) := by
  unfold Got at h
  cases r with
  | none => exact ⟨h.1, .inr ⟨rfl, h.2⟩⟩
  | some p => exact ⟨h.1, .inl ⟨p.1, p.2, rfl, h.2.1, h.2.2⟩⟩

theorem map_some {α : Type} {f : α → Value} {r : Option (α × List UInt8)} {v : Value} {t : List UInt8} (h : r.map (fun p => (f p.1, p.2)) = some (v, t)) : ∃ a, r = some (a, t) ∧ v = f a := by
  cases r with
  | none => cases h
  | some p =>
    simp only [Option.map_some, Option.some.injEq, Prod.mk.injEq] at h
    exact ⟨p.1, by rw [← h.2], h.1.symm⟩
theorem map_none {α : Type} {f : α → Value} {r : Option (α × List UInt8)} (h : r.map (fun p => (f p.1, p.2)) = none) : r = none := by
  cases r with
  | none => rfl
  | some p => cases h

theorem conv_str {w : World} {B : Nat} {v : Value} {l : List UInt8} (h : Rd w B v l) : (convert 23 9 v).run Try.prog w = .ok (.string ⟨l.toArray⟩) w := run_str _ _ _ Try.underlying23 Try.underlying5 Try.underlying9 h

set_option maxHeartbeats 400000 in
theorem str_walk (R : Nat) (most : Int) (l : List UInt8) (w : World) (h : Rdr 151 w R (some l)) :
    Calls Try.prog 179 #[.pointer (some ⟨R, 0, none⟩), .int .i64 most] w (Got 151 R ((gStr most l).map fun p => (.string ⟨p.1.toArray⟩, p.2)) (fun v => v = .string ByteArray.empty) w) := by
  go_enter Try.func179, Try.ntmps179
  go_wp2_with fail
  refine (count_walk R most l _ h).mono ?_
  intro e w1 hb
  rcases hb.cases with ⟨hg, ⟨v, t, hq, rfl, hr⟩ | ⟨hq, v, t, rfl, rfl, hr⟩⟩
  · obtain ⟨n, hn, rfl⟩ := map_some hq
    obtain ⟨q, rfl, _, _⟩ := gCount_nat hn
    have HN := Lib.hid hn
    clear hq hb hn
    go_wp2_with fail
    refine (take_walk R q t _ hr).mono ?_
    intro e w2 hb
    rcases hb with ⟨hg2, ⟨hqt, v, rfl, hv, hr2⟩ | ⟨hqt, rfl, rfl⟩⟩
    · have hcv := conv_str hv
      have hfin : Hid ((gStr most l).map (fun p => ((.string ⟨p.1.toArray⟩ : Value), p.2)) = some (.string ⟨(t.take q).toArray⟩, t.drop q)) := by
        unfold Hid gStr; rw [HN.out]; simp only []; rw [if_neg (by simp; omega)]; rfl
      have hgg := grown_trans hg hg2
      clear hqt hv
      go_wp2_with fail
      go_ret2
      exact Got.yes hfin.out hgg rfl hr2
    · have hcv := conv_str (Rd.nil w1 0)
      have hfin : Hid ((gStr most l).map (fun p => ((.string ⟨p.1.toArray⟩ : Value), p.2)) = none) := by
        unfold Hid gStr; rw [HN.out]; simp only []; rw [if_pos (by simp; omega)]; rfl
      clear hqt
      go_wp2_with fail
      go_ret2
      exact Got.no hfin.out hg rfl rfl hr
  · have hn := map_none hq
    have hfin : Hid ((gStr most l).map (fun p => ((.string ⟨p.1.toArray⟩ : Value), p.2)) = none) := by
      unfold Hid gStr; rw [hn]; rfl
    clear hq hb hn
    go_wp2_with fail
    go_ret2
    exact Got.no hfin.out hg rfl rfl hr

theorem int_one (n : Nat) : ((n : Int) == 1) = (n == 1) := by
  rw [Bool.eq_iff_iff]
  simp
  omega

set_option maxHeartbeats 400000 in
theorem flag_walk (R : Nat) (l : List UInt8) (w : World) (h : Rdr 151 w R (some l)) :
    Calls Try.prog 171 #[.pointer (some ⟨R, 0, none⟩)] w (Got 151 R ((gFlag l).map fun p => (.bool p.1, p.2)) (fun v => v = .bool false) w) := by
  go_enter Try.func171, Try.ntmps171
  go_wp2_with fail
  refine (take_walk R 1 l _ h).mono ?_
  intro e w1 hb
  rcases hb with ⟨hg, ⟨hlt, v, rfl, hv, hr⟩ | ⟨hlt, rfl, rfl⟩⟩
  · cases l with
    | nil => simp at hlt
    | cons x t =>
      obtain ⟨A, c, rfl, _, _, _, h4⟩ := hv
      obtain ⟨b, o, rfl, _, hc⟩ := h4 (by simp)
      have hx : w1.cell? ⟨b, o, none⟩ = some (.int .u8 (x.toNat : Int)) := by simpa using hc 0 x (by simp)
      have hr' : Rdr 151 w1 R (some t) := hr
      obtain ⟨n, hn⟩ : ∃ n : Nat, n = x.toNat := ⟨_, rfl⟩
      rw [← hn] at hx
      have hlen : ((x :: t).take 1).length = 1 := by simp
      rw [hlen]
      have HN := Lib.hid hn
      clear hlt hr h4 hc hn hlen
      by_cases h1 : 1 < n
      · have ht : (1 : Int) < (n : Int) := by omega
        have hfin : Hid ((gFlag (x :: t)).map (fun p => ((.bool p.1 : Value), p.2)) = none) := by unfold Hid gFlag; simp only []; rw [if_pos (by rw [← HN.out]; exact h1)]; rfl
        go_wp2_with fail
        go_ret2
        exact Got.no hfin.out hg rfl rfl hr'
      · have ht : ¬ (1 : Int) < (n : Int) := by omega
        have hfin : Hid ((gFlag (x :: t)).map (fun p => ((.bool p.1 : Value), p.2)) = some (.bool (n == 1), t)) := by unfold Hid gFlag; simp only []; rw [if_neg (by rw [← HN.out]; exact h1), ← HN.out]; rfl
        clear h1
        go_wp2_with fail
        go_ret2
        exact Got.yes hfin.out hg (by rw [int_one]; rfl) hr'
  · have hfin : Hid ((gFlag l).map (fun p => ((.bool p.1 : Value), p.2)) = none) := by
      have : l = [] := List.eq_nil_of_length_eq_zero (by omega)
      subst this
      rfl
    clear hlt
    go_wp2_with fail
    go_ret2
    exact Got.no hfin.out hg rfl rfl h
end Go.Proofs.Ytblbcoknefgcaaa
