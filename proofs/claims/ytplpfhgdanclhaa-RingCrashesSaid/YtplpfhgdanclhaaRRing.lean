/-
  The program's ring in memory, and what only reads it. No statement is proved here. No condition.
-/
import Derived.Test.YtplpfhgdanclhaaRPieceIn
namespace Go.Proofs.Ytplpfhgdanclhaa
open Go.RowKit

/-- a ring's numbers -/
structure RG where
  first : Nat
  count : Nat
  base : Nat
  last : Nat
  top : Nat
structure RG.fine (R : RG) : Prop where
  pos : 1 ≤ R.count
  room : R.first + R.count ≤ 65536
  low : R.base ≤ R.last
  high : R.last ≤ R.base + R.count
  up : R.last ≤ R.top
  most : R.top ≤ 4611686018427387904
def RG.room' (R : RG) : Nat := if R.last < R.top then 0 else R.count - (R.last - R.base)
/-- The program's ring lies in block r, its disk's head in block q. -/
def RgAt (w : World) (r q : Nat) (R : RG) : Prop := w.heap[r]? = some (.cells #[.pointer (some ⟨q, 0, none⟩), .int .i64 (R.first : Int), .int .i64 (R.count : Int), .int .i64 (R.base : Int), .int .i64 (R.last : Int), .int .i64 (R.top : Int)] 68 (0, 0))
theorem RgAt.c0 {w : World} {r q : Nat} {R : RG} (h : RgAt w r q R) : w.cell? ⟨r, 0, none⟩ = some (.pointer (some ⟨q, 0, none⟩)) := (row7 h).1 0
theorem RgAt.c1 {w : World} {r q : Nat} {R : RG} (h : RgAt w r q R) : w.cell? ⟨r, 1, none⟩ = some (.int .i64 (R.first : Int)) := (row7 h).1 1
theorem RgAt.c2 {w : World} {r q : Nat} {R : RG} (h : RgAt w r q R) : w.cell? ⟨r, 2, none⟩ = some (.int .i64 (R.count : Int)) := (row7 h).1 2
theorem RgAt.c3 {w : World} {r q : Nat} {R : RG} (h : RgAt w r q R) : w.cell? ⟨r, 3, none⟩ = some (.int .i64 (R.base : Int)) := (row7 h).1 3
theorem RgAt.c4 {w : World} {r q : Nat} {R : RG} (h : RgAt w r q R) : w.cell? ⟨r, 4, none⟩ = some (.int .i64 (R.last : Int)) := (row7 h).1 4
theorem RgAt.c5 {w : World} {r q : Nat} {R : RG} (h : RgAt w r q R) : w.cell? ⟨r, 5, none⟩ = some (.int .i64 (R.top : Int)) := (row7 h).1 5
theorem RgAt.lt {w : World} {r q : Nat} {R : RG} (h : RgAt w r q R) : r < w.heap.size := (Array.getElem?_eq_some_iff.1 h).1
theorem RgAt.fz {w : World} {r q : Nat} {R : RG} (h : RgAt w r q R) (i : Nat) : w.frozen? ⟨r, i, none⟩ = false := (row7 h).2 i
theorem RgAt.kept {w w' : World} {r q : Nat} {R : RG} (h : RgAt w r q R) (hk : w'.heap[r]? = w.heap[r]?) : RgAt w' r q R := hk.trans h
theorem RgAt.drew {w : World} {r q : Nat} {R : RG} (h : RgAt w r q R) (n : Nat) : RgAt (w.drewN n) r q R := h
theorem RgAt.last {w : World} {r q : Nat} {R : RG} (h : RgAt w r q R) (n : Nat) : RgAt (w.setCell ⟨r, 4, none⟩ (.int .i64 (n : Int))) r q { R with last := n } := by
  unfold RgAt
  rw [Joins.block_setCell h _]
  simp
theorem RgAt.top {w : World} {r q : Nat} {R : RG} (h : RgAt w r q R) (n : Nat) : RgAt (w.setCell ⟨r, 5, none⟩ (.int .i64 (n : Int))) r q { R with top := n } := by
  unfold RgAt
  rw [Joins.block_setCell h _]
  simp
theorem RgAt.base {w : World} {r q : Nat} {R : RG} (h : RgAt w r q R) (n : Nat) : RgAt (w.setCell ⟨r, 3, none⟩ (.int .i64 (n : Int))) r q { R with base := n } := by
  unfold RgAt
  rw [Joins.block_setCell h _]
  simp

set_option maxHeartbeats 400000 in
theorem ppieces_any (n : Nat) (w : World) (hn : n ≤ 9223372036854775807) :
    Calls Try.prog 24 #[.int .i64 (n : Int)] w fun e w' => e = .returned (.int .i64 ((pieces n : Nat) : Int)) ∧ w = w' := by
  have a0 : ¬ (n : Int) < 0 := by omega
  by_cases h : 0 < n ∧ n % 501 = 0
  · have h0 : (0 : Int) < (n : Int) := by omega
    have h1 : (n : Int) % 501 = 0 := by omega
    have e : pieces n = n / 501 := by unfold pieces; rw [if_pos h]
    go_enter Try.func24, Try.ntmps24
    go_wp2
    go_ret
    exact ⟨ret_int (by first | rfl | omega | (rw [e]; omega)), rfl⟩
  · have e : pieces n = n / 501 + 1 := by unfold pieces; rw [if_neg h]
    by_cases h0 : (0 : Int) < (n : Int)
    · have h1 : ¬ (n : Int) % 501 = 0 := by omega
      go_enter Try.func24, Try.ntmps24
      go_wp2
      go_ret
      exact ⟨ret_int (by first | rfl | omega | (rw [e]; omega)), rfl⟩
    · go_enter Try.func24, Try.ntmps24
      go_wp2
      go_ret
      exact ⟨ret_int (by first | rfl | omega | (rw [e]; omega)), rfl⟩
theorem ppieces_no (n : Int) (w : World) (hn : n < 0) :
    Calls Try.prog 24 #[.int .i64 n] w fun e w' => e = .returned (.int .i64 0) ∧ w = w' := by
  go_enter Try.func24, Try.ntmps24
  go_wp2
  go_ret
  exact ⟨rfl, rfl⟩

variable {w : World} {r q : Nat} {R : RG}
theorem pbase_any (h : RgAt w r q R) : Calls Try.prog 25 #[.pointer (some ⟨r, 0, none⟩)] w fun e w' => e = .returned (.int .i64 (R.base : Int)) ∧ w = w' := by
  have c := h.c3
  clear h
  go_enter Try.func25, Try.ntmps25
  go_wp2
  go_ret
  exact ⟨rfl, rfl⟩
theorem plast_any (h : RgAt w r q R) : Calls Try.prog 26 #[.pointer (some ⟨r, 0, none⟩)] w fun e w' => e = .returned (.int .i64 (R.last : Int)) ∧ w = w' := by
  have c := h.c4
  clear h
  go_enter Try.func26, Try.ntmps26
  go_wp2
  go_ret
  exact ⟨rfl, rfl⟩
theorem ptop_any (h : RgAt w r q R) : Calls Try.prog 27 #[.pointer (some ⟨r, 0, none⟩)] w fun e w' => e = .returned (.int .i64 (R.top : Int)) ∧ w = w' := by
  have c := h.c5
  clear h
  go_enter Try.func27, Try.ntmps27
  go_wp2
  go_ret
  exact ⟨rfl, rfl⟩
theorem pbase_nil (w : World) : Calls Try.prog 25 #[.pointer none] w fun e w' => e = .returned (.int .i64 0) ∧ w = w' := by
  go_enter Try.func25, Try.ntmps25
  go_wp2
  go_ret
  exact ⟨rfl, rfl⟩
theorem plast_nil (w : World) : Calls Try.prog 26 #[.pointer none] w fun e w' => e = .returned (.int .i64 0) ∧ w = w' := by
  go_enter Try.func26, Try.ntmps26
  go_wp2
  go_ret
  exact ⟨rfl, rfl⟩
theorem ptop_nil (w : World) : Calls Try.prog 27 #[.pointer none] w fun e w' => e = .returned (.int .i64 0) ∧ w = w' := by
  go_enter Try.func27, Try.ntmps27
  go_wp2
  go_ret
  exact ⟨rfl, rfl⟩
theorem ptorn_any (h : RgAt w r q R) : Calls Try.prog 48 #[.pointer (some ⟨r, 0, none⟩)] w fun e w' => e = .returned (.bool (decide (R.last < R.top))) ∧ ∃ n, w' = w.drewN n := by
  have c := h.c4
  have d := h.c5
  have e : decide ((R.last : Int) < (R.top : Int)) = decide (R.last < R.top) := by simp
  clear h
  go_enter Try.func48, Try.ntmps48
  go_wp2_with fail
  go_quiet (fail)
  go_wp2_with fail
  go_ret
  exact ⟨by first | rfl | rw [e], _, rfl⟩
theorem proom_nil (w : World) : Calls Try.prog 23 #[.pointer none] w fun e w' => e = .returned (.int .i64 0) ∧ w = w' := by
  go_enter Try.func23, Try.ntmps23
  go_wp2
  go_ret
  exact ⟨rfl, rfl⟩
theorem proom_any (h : RgAt w r q R) (hR : R.fine) : Calls Try.prog 23 #[.pointer (some ⟨r, 0, none⟩)] w fun e w' => e = .returned (.int .i64 (R.room' : Int)) ∧ ∃ n, w' = w.drewN n := by
  have ht := ptorn_any h
  have H := Lib.hid h
  have i1 := hR.room
  have i2 := hR.low
  have i3 := hR.high
  have i4 := hR.up
  have i5 := hR.most
  by_cases hl : R.last < R.top
  · have e : R.room' = 0 := by unfold RG.room'; rw [if_pos hl]
    rw [decide_eq_true hl] at ht
    rw [e]
    clear h
    go_enter Try.func23, Try.ntmps23
    go_wp2_with fail
    refine ht.mono ?_
    rintro e w1 ⟨rfl, n, rfl⟩
    go_wp2_with fail
    go_ret
    exact ⟨rfl, _, rfl⟩
  · have e : R.room' = R.count - (R.last - R.base) := by unfold RG.room'; rw [if_neg hl]
    rw [decide_eq_false hl] at ht
    rw [e]
    have e2 : ((R.count - (R.last - R.base) : Nat) : Int) = (R.count : Int) - ((R.last : Int) - (R.base : Int)) := by omega
    have HE := Lib.hid e2
    clear h e e2 hR hl
    go_enter Try.func23, Try.ntmps23
    go_wp2_with fail
    refine ht.mono ?_
    rintro e w1 ⟨rfl, n, rfl⟩
    obtain ⟨wd, hwd⟩ : ∃ wd, wd = w.drewN n := ⟨_, rfl⟩
    have hx : RgAt wd r q R := by rw [hwd]; exact H.out.drew n
    rw [← hwd]
    have c2 := hx.c2
    have c3 := hx.c3
    have c4 := hx.c4
    have HWD := Lib.hid hwd
    clear hx hwd
    go_wp2_with fail
    go_quiet (fail)
    go_wp2_with fail
    go_ret
    rw [HWD.out]
    exact ⟨ret_int HE.out.symm, n + nq, by simp [World.drewN, Nat.add_assoc]⟩
end Go.Proofs.Ytplpfhgdanclhaa
