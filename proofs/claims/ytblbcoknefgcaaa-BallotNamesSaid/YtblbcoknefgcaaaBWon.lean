/-
  Who has won: the program's. No statement is proved here. No condition.
-/
import Derived.Test.YtblbcoknefgcaaaBNear
namespace Go.Proofs.Ytblbcoknefgcaaa
open Go.RowKit

theorem unlike_any (l : List Int) (a : Value) (w : World) (ha : inR.N w Any a l) (hl : l.length ≤ 1000) (wl : ∀ x ∈ l, I6 x) :
    Calls Try.prog 71 #[a] w fun e w' => ∃ A c, e = .returned (.slice A (wo [] l).length c) ∧ inR.Own w' w.heap.size 3 (.slice A (wo [] l).length c) (wo [] l) ∧ Below w.heap.size w w' := by
  obtain ⟨A, c, rfl, hlc, hcm⟩ := ha.slice
  have cW := without_any l [] _ (.slice none 0 0) w ha (Rec.N.nil _ _) hl (by simp) wl (by simp)
  clear ha wl hlc hcm
  go_enter Try.func71, Try.ntmps71
  go_wp2_with fail
  refine cW.mono ?_
  rintro e w1 ⟨v1, rfl, ho1, hb1⟩
  clear cW
  obtain ⟨A1, c1, rfl⟩ := ho1.slice
  have HF := Lib.hid (And.intro ho1 hb1)
  clear ho1 hb1
  go_wp2_with fail
  go_ret
  exact ⟨A1, c1, rfl, HF.out.1, HF.out.2⟩
theorem majority_any (n : Nat) (w : World) (hn : n ≤ 1000) :
    Calls Try.prog 73 #[.int .i64 (n : Int)] w fun e w' => e = .returned (.int .i64 (majority n : Int)) ∧ w = w' := by
  have HF : Hid ((majority n : Int) = (n : Int) / 2 + 1) := Lib.hid (by unfold majority; push_cast; rfl)
  have h0 : (0 : Int) ≤ (n : Int) := by omega
  have h1 : (n : Int) ≤ 1000 := by omega
  go_enter Try.func73, Try.ntmps73
  go_wp2_with fail
  go_ret
  exact ⟨by rw [HF.out] <;> rfl, rfl⟩
theorem lack_le (a b : List Int) : lack a b ≤ (wo [] a).length := by
  unfold lack
  rw [wo_filter b a]
  exact List.length_filter_le _ _
set_option maxHeartbeats 1000000 in
theorem won_any (l m : List Int) (a b : Value) (w : World) (ha : inR.N w Any a l) (hb : inR.N w Any b m) (hl : l.length ≤ 1000) (hm : m.length ≤ 1000) (wl : ∀ x ∈ l, I6 x) (wm : ∀ x ∈ m, I6 x) :
    Calls Try.prog 25 #[a, b] w fun e w' => e = .returned (.bool (won l m)) ∧ Below w.heap.size w w' := by
  have c1 := unlike_any l a w ha hl wl
  have H := Lib.hid (And.intro ha (And.intro hb (And.intro wl wm)))
  have h1 : (wo [] l).length ≤ 1000 := Nat.le_trans (wo_len _ _) hl
  have h2 : (wo m l).length ≤ 1000 := Nat.le_trans (wo_len _ _) hl
  have HN : Hid (won l m = decide (((wo [] l).length : Int) - ((wo m l).length : Int) ≥ (majority (wo [] l).length : Int))) := Lib.hid (by
    have := lack_le l m
    unfold won lack at *
    rw [Bool.eq_iff_iff]
    simp only [decide_eq_true_eq]
    omega)
  clear ha hb wl wm
  go_enter Try.func25, Try.ntmps25
  go_wp2_with fail
  refine c1.mono ?_
  rintro e w1 ⟨A1, k1, rfl, ho1, hb1⟩
  clear c1
  have c2 := without_any l m a b w1 (H.out.1.grow hb1) (H.out.2.1.grow hb1) hl hm H.out.2.2.1 H.out.2.2.2
  have HB1 := Lib.hid hb1
  clear hb1 ho1
  go_wp2_with fail
  refine c2.mono ?_
  rintro e w2 ⟨v2, rfl, ho2, hb2⟩
  clear c2
  obtain ⟨A2, k2, rfl⟩ := ho2.slice
  have HB := Lib.hid (HB1.out.trans (Joins.below_le hb2 HB1.out.size))
  obtain ⟨n1, hn1⟩ : ∃ n1, n1 = (wo [] l).length := ⟨_, rfl⟩
  obtain ⟨n2, hn2⟩ : ∃ n2, n2 = (wo m l).length := ⟨_, rfl⟩
  rw [← hn1] at h1 HN ⊢
  rw [← hn2] at h2 HN ⊢
  clear hb2 ho2 hn1 hn2
  go_wp2_with fail
  refine (majority_any n1 w2 h1).mono ?_
  rintro e w' ⟨rfl, rfl⟩
  obtain ⟨mj, hmj⟩ : ∃ mj : Int, mj = (majority n1 : Int) := ⟨_, rfl⟩
  rw [← hmj] at HN ⊢
  clear hmj
  go_wp2_with fail
  go_ret
  exact ⟨by rw [HN.out] <;> rfl, HB.out⟩
set_option maxHeartbeats 1000000 in
theorem has_any (l : List Int) (a : Value) (x : Int) (w : World) (ha : inR.N w Any a l) :
    Calls Try.prog 79 #[a, .int .i64 x] w fun e w' => e = .returned (.bool (hasI l x)) ∧ w = w' := by
  obtain ⟨A, c, rfl, hlc, hcm⟩ := ha.slice
  have hl : l.length ≤ maxLen := Nat.le_trans hlc hcm
  unfold maxLen at hl
  have HA := Lib.hid ha
  clear ha hlc hcm
  go_enter Try.func79, Try.ntmps79
  go_wp2_with fail
  go_loop [5] (fun s5 => ∃ i : Nat, s5 = .int .i64 (i : Int) ∧ i ≤ l.length ∧ Hid (hasI (l.take i) x = false)) (fun s5 => l.length - (RowKit.intOf s5).toNat)
  case atStart => exact ⟨0, rfl, Nat.zero_le _, Lib.hid (by simp [hasI])⟩
  case round =>
    obtain ⟨i, rfl, hi, hs⟩ := hrel
    by_cases hil : i < l.length
    · have a1 : (i : Int) < (l.length : Int) := by omega
      have a0 : (0 : Int) ≤ (i : Int) := by omega
      obtain ⟨y, hy⟩ : ∃ y, l[i]? = some y := ⟨_, List.getElem?_eq_getElem hil⟩
      obtain ⟨g, o, rfl, y0⟩ := in_cell HA.out hy
      have HX := Lib.hid hy
      clear hy
      cases hq : (y == x)
      · have hq2 : ¬ y = x := by simpa using hq
        have HF := Lib.hid (mem_take_snoc HX.out hs.out hq)
        clear hs
        go_wp2_with fail
        go_round
        case rel => exact ⟨i + 1, by go_num, by omega, HF⟩
        case measure => simp [RowKit.intOf]; omega
      · have HF : Hid (hasI l x = true) := Lib.hid (by
          unfold hasI
          have e : y = x := by simpa using hq
          rw [List.contains_eq_mem, ← e]
          simpa using List.mem_of_getElem? HX.out)
        have hq2 : y = x := by simpa using hq
        go_wp2_with fail
        go_ret
        exact ⟨by rw [HF.out] <;> rfl, rfl⟩
    · have a1 : ¬ (i : Int) < (l.length : Int) := by omega
      have HF : Hid (hasI l x = false) := Lib.hid (by have := hs.out; rwa [List.take_of_length_le (by omega)] at this)
      go_wp2_with fail
      go_ret
      exact ⟨by rw [HF.out] <;> rfl, rfl⟩
theorem patience_any (e id : Int) (w : World) (h1 : -1000000 ≤ e ∧ e ≤ 1000000) (h2 : -1000000 ≤ id ∧ id ≤ 1000000) :
    Calls Try.prog 29 #[.int .i64 e, .int .i64 id] w fun r w' => r = .returned (.int .i64 (e + id - 1)) ∧ w = w' := by
  obtain ⟨a1, a2⟩ := h1
  obtain ⟨b1, b2⟩ := h2
  go_enter Try.func29, Try.ntmps29
  go_wp2_with fail
  go_ret
  exact ⟨rfl, rfl⟩
end Go.Proofs.Ytblbcoknefgcaaa
