/-
  The program's own disk: live, find, what it tells, marks. No statement is proved here. No condition.
-/
import Derived.Test.YtplpfhgdanclhaaPMem
namespace Go.Proofs.Ytplpfhgdanclhaa
open Go.RowKit Go.Maps

theorem p_live (q : Nat) (d : Bool) (w : World) (c : w.cell? ⟨q, 4, none⟩ = some (.bool d)) :
    Calls Try.prog 49 #[.pointer (some ⟨q, 0, none⟩)] w fun e w' => e = .returned (.int .i64 (if d then 20 else 0)) ∧ w = w' := by
  cases d <;>
  · go_enter Try.func49, Try.ntmps49
    go_wp2_with fail
    go_ret
    exact ⟨rfl, rfl⟩
theorem p_live_nil (w : World) : Calls Try.prog 49 #[.pointer none] w fun e w' => e = .returned (.int .i64 2) ∧ w = w' := by
  go_enter Try.func49, Try.ntmps49
  go_wp2_with fail
  go_ret
  exact ⟨rfl, rfl⟩

theorem p_find (q : Nat) (D : DS) (i : Int) (Al : Option Addr) (cl : Nat) (w : World) (c4 : w.cell? ⟨q, 4, none⟩ = some (.bool D.dead)) (c0 : w.cell? ⟨q, 0, none⟩ = some (.slice Al D.lasts.length cl)) :
    Calls Try.prog 45 #[.pointer (some ⟨q, 0, none⟩), .int .i64 i] w fun e w' => e = .returned (.int .i64 (if D.dead then 20 else if inside D i then 0 else 1)) ∧ w = w' := by
  have hl := p_live q D.dead w c4
  cases hd : D.dead with
  | true =>
    rw [hd] at c4 hl
    go_enter Try.func45, Try.ntmps45
    go_wp2_with fail
    refine hl.mono ?_
    rintro e w1 ⟨rfl, rfl⟩
    go_wp2_with fail
    go_ret
    exact ⟨rfl, rfl⟩
  | false =>
    rw [hd] at c4 hl
    by_cases hin : inside D i = true
    · rw [hin]
      unfold inside at hin
      simp only [Bool.and_eq_true, decide_eq_true_eq] at hin
      have a0 : ¬ i < 0 := by omega
      have a1 : ¬ (D.lasts.length : Int) ≤ i := by omega
      go_enter Try.func45, Try.ntmps45
      go_wp2_with fail
      refine hl.mono ?_
      rintro e w1 ⟨rfl, rfl⟩
      go_wp2_with fail
      go_ret
      exact ⟨rfl, rfl⟩
    · rw [Bool.not_eq_true] at hin
      rw [hin]
      have key : i < 0 ∨ (¬ i < 0 ∧ (D.lasts.length : Int) ≤ i) := by
        unfold inside at hin
        rw [Bool.and_eq_false_iff, decide_eq_false_iff_not, decide_eq_false_iff_not] at hin
        omega
      clear hin
      rcases key with a0 | ⟨a0, a1⟩
      · go_enter Try.func45, Try.ntmps45
        go_wp2_with fail
        refine hl.mono ?_
        rintro e w1 ⟨rfl, rfl⟩
        go_wp2_with fail
        go_ret
        exact ⟨rfl, rfl⟩
      · go_enter Try.func45, Try.ntmps45
        go_wp2_with fail
        refine hl.mono ?_
        rintro e w1 ⟨rfl, rfl⟩
        go_wp2_with fail
        go_ret
        exact ⟨rfl, rfl⟩
theorem p_find_nil (i : Int) (w : World) : Calls Try.prog 45 #[.pointer none, .int .i64 i] w fun e w' => e = .returned (.int .i64 2) ∧ w = w' := by
  go_enter Try.func45, Try.ntmps45
  go_wp2_with fail
  refine (p_live_nil w).mono ?_
  rintro e w1 ⟨rfl, rfl⟩
  go_wp2_with fail
  go_ret
  exact ⟨rfl, rfl⟩

theorem pLen_any (G S : Nat → Prop) (q : Nat) (D : DS) (w : World) (h : PD w G S q D) : Calls Try.prog 34 #[.pointer (some ⟨q, 0, none⟩)] w fun e w' => e = .returned (.int .i64 (D.lasts.length : Int)) ∧ w = w' := by
  obtain ⟨vl, vw, m, st, left, ks, pl, pw, h, -, -⟩ := h
  obtain ⟨_, _, hv, -⟩ := RowAt.of_own h.lasts
  have c : w.cell? ⟨q, 0, none⟩ = some vl := (row7 h.cells).1 0
  rw [hv] at c
  clear h hv
  go_enter Try.func34, Try.ntmps34
  go_wp2_with fail
  go_ret
  exact ⟨rfl, rfl⟩
theorem pWaits_any (G S : Nat → Prop) (q : Nat) (D : DS) (w : World) (h : PD w G S q D) : Calls Try.prog 16 #[.pointer (some ⟨q, 0, none⟩)] w fun e w' => e = .returned (.int .i64 (D.waits.length : Int)) ∧ w = w' := by
  obtain ⟨vl, vw, m, st, left, ks, pl, pw, h, -, -⟩ := h
  obtain ⟨_, _, hv, -⟩ := RowAt.of_own h.waits
  have c : w.cell? ⟨q, 1, none⟩ = some vw := (row7 h.cells).1 1
  rw [hv] at c
  clear h hv
  go_enter Try.func16, Try.ntmps16
  go_wp2_with fail
  go_ret
  exact ⟨rfl, rfl⟩
theorem pDead_any (G S : Nat → Prop) (q : Nat) (D : DS) (w : World) (h : PD w G S q D) : Calls Try.prog 30 #[.pointer (some ⟨q, 0, none⟩)] w fun e w' => e = .returned (.bool D.dead) ∧ w = w' := by
  obtain ⟨vl, vw, m, st, left, ks, pl, pw, h, -, -⟩ := h
  have c : w.cell? ⟨q, 4, none⟩ = some (.bool D.dead) := (row7 h.cells).1 4
  clear h
  go_enter Try.func30, Try.ntmps30
  go_wp2_with fail
  go_ret
  exact ⟨rfl, rfl⟩

theorem marks_size (l : List Bool) : (marks l).size = l.length := by unfold marks; simp [ByteArray.size]
/-- is there a true at a place? -/
theorem p_has (l : List Bool) (j : Nat) (w : World) : Calls Try.prog 60 #[.string (marks l), .int .i64 (j : Int)] w fun e w' => e = .returned (.bool (l.getD j false)) ∧ w = w' := by
  have hsz := marks_size l
  by_cases hj : j < l.length
  · have i1 : (j : Int) < ((marks l).size : Int) := by omega
    have i2 : j < (marks l).size := by omega
    have hb : (marks l)[j]'i2 = if l[j] then 1 else 0 := by
      have h1 : (marks l).data.toList[j]? = some (if l[j] then 1 else 0) := by
        unfold marks
        show (l.map fun b => if b then (1 : UInt8) else 0)[j]? = _
        rw [List.getElem?_map, List.getElem?_eq_getElem hj]
        rfl
      have h2 : (marks l).data.toList[j]? = some ((marks l)[j]'i2) := by rw [Array.getElem?_toList]; exact Array.getElem?_eq_getElem i2
      rw [h1] at h2
      exact (Option.some.inj h2).symm
    have hg : l.getD j false = l[j] := by simp [List.getD, hj]
    rw [hg]
    have i3 : (marks l)[j]? = some (if l[j] then 1 else 0) := by rw [getElem?_pos (marks l) j i2, hb]
    cases hlj : l[j] with
    | true =>
      rw [hlj] at hb i3
      go_enter Try.func60, Try.ntmps60
      go_wp2_with fail
      go_ret
      exact ⟨rfl, rfl⟩
    | false =>
      rw [hlj] at hb i3
      go_enter Try.func60, Try.ntmps60
      go_wp2_with fail
      go_ret
      exact ⟨rfl, rfl⟩
  · have i1 : ¬ (j : Int) < ((marks l).size : Int) := by omega
    have hg : l.getD j false = false := by simp [List.getD, List.getElem?_eq_none (Nat.le_of_not_lt hj)]
    rw [hg]
    go_enter Try.func60, Try.ntmps60
    go_wp2_with fail
    go_ret
    exact ⟨rfl, rfl⟩
end Go.Proofs.Ytplpfhgdanclhaa
