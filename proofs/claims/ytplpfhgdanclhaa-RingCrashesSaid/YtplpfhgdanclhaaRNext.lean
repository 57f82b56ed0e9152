/-
  The program's ring: the next piece of a record; what Append answers. No statement is proved here. No condition.
-/
import Derived.Test.YtplpfhgdanclhaaRWrite
namespace Go.Proofs.Ytplpfhgdanclhaa
open Go.RowKit

theorem pieces_pos (n : Nat) : 1 ≤ pieces n := by unfold pieces; split <;> omega
theorem pieces_few {n : Nat} (h : n ≤ 501) : pieces n = 1 := by unfold pieces; split <;> omega
theorem pieces_more {n : Nat} (h : 501 < n) : pieces n = pieces (n - 501) + 1 := by unfold pieces; split <;> split <;> omega
theorem cut_get (n : Nat) (r : List UInt8) : ∀ i, i < pieces r.length → (cut n r)[i]? = some ⟨n + i, pieces r.length - (i + 1) == 0, (r.drop (501 * i)).take 501⟩ := by
  fun_induction cut n r with
  | case1 n r h =>
    intro i hi
    rw [pieces_few h] at hi ⊢
    obtain rfl : i = 0 := by omega
    rw [Nat.mul_zero, List.drop_zero, List.take_of_length_le h]
    rfl
  | case2 n r h ih =>
    intro i hi
    have hp := pieces_more (show 501 < r.length by omega)
    have hp1 := pieces_pos (r.length - 501)
    cases i with
    | zero =>
      rw [List.getElem?_cons_zero, Nat.mul_zero, List.drop_zero, hp]
      have : (pieces (r.length - 501) + 1 - (0 + 1) == 0) = false := by simp; omega
      rw [this]
      rfl
    | succ i =>
      have := ih i (by rw [List.length_drop]; omega)
      rw [List.getElem?_cons_succ, this, List.length_drop, hp, List.drop_drop]
      have e1 : n + 1 + i = n + (i + 1) := by omega
      have e2 : 501 + 501 * i = 501 * (i + 1) := by omega
      have e3 : pieces (r.length - 501) - (i + 1) = pieces (r.length - 501) + 1 - (i + 1 + 1) := by omega
      rw [e1, e2, e3]

theorem putAll_app (first count : Nat) (W1 W2 : List Pc) : ∀ D : DS, D.putAll first count (W1 ++ W2) = if (D.putAll first count W1).1 = 0 then (D.putAll first count W1).2.putAll first count W2 else D.putAll first count W1 := by
  induction W1 with
  | nil => intro D; rfl
  | cons p W1 ih =>
    intro D
    rw [List.cons_append, DS.putAll, DS.putAll]
    split
    · exact ih _
    · rename_i h
      first | rfl | (rw [if_neg h])
theorem putAll_snoc {first count : Nat} {W : List Pc} {D Di : DS} {i : Nat} {p : Pc} (hp : W[i]? = some p) (h : D.putAll first count (W.take i) = (0, Di)) : D.putAll first count (W.take (i + 1)) = Di.write ((first + p.n % count : Nat) : Int) p.sec := by
  rw [take_snoc hp, putAll_app, h]
  show Di.putAll first count [p] = _
  rw [DS.putAll]
  split
  · rename_i h0
    show (0, _) = _
    rw [← h0]
  · rfl
theorem putAll_stop {first count : Nat} {W : List Pc} {D : DS} {i : Nat} (h : (D.putAll first count (W.take i)).1 ≠ 0) : D.putAll first count W = D.putAll first count (W.take i) := by
  have := putAll_app first count (W.take i) (W.drop i) D
  rw [List.take_append_drop, if_neg h] at this
  exact this

/-- where a record's cutter stands -/
def CutSt (w : World) (N : Nat → Prop) (a b c : Nat) (rec : List UInt8) (last i : Nat) : Prop := ∃ v, CutAt w a b c (pieces rec.length - i) (last + i) v ∧ RdN w N v (rec.drop (501 * i))
theorem CutSt.kept {w w' : World} {N : Nat → Prop} {a b c : Nat} {rec : List UInt8} {last i : Nat} (h : CutSt w N a b c rec last i) (hs : w.heap.size ≤ w'.heap.size) (hk : ∀ x, x < w.heap.size → (x = a ∨ x = b ∨ x = c ∨ N x) → w'.heap[x]? = w.heap[x]?) : CutSt w' N a b c rec last i := by
  obtain ⟨v, h1, h2⟩ := h
  exact ⟨v, h1.kept (hk a (Array.getElem?_eq_some_iff.1 h1.ca).1 (.inl rfl)) (hk b (Array.getElem?_eq_some_iff.1 h1.cb).1 (.inr (.inl rfl))) (hk c (Array.getElem?_eq_some_iff.1 h1.cc).1 (.inr (.inr (.inl rfl)))), h2.kept (fun _ h _ => h) hs fun x hx hl => hk x hl (.inr (.inr (.inr hx)))⟩

theorem pnext_any {w : World} {N : Nat → Prop} {a b c : Nat} {rec : List UInt8} {last i : Nat} (h : CutSt w N a b c rec last i) (hi : i ≤ pieces rec.length) (hl : rec.length < 140737488355328) (hlast : last + i < 9223372036854775807) (hN : ∀ x, N x → x ≠ a ∧ x ≠ b ∧ x ≠ c) :
    Calls Try.prog 56 #[.pointer (some ⟨a, 0, none⟩), .pointer (some ⟨b, 0, none⟩), .pointer (some ⟨c, 0, none⟩)] w fun e w' => ∃ (n : Nat) (l : Bool) (d : List UInt8) (Au : Option Addr) (nu cu : Nat), e = .returned (.tuple #[.agg #[.int .i64 (n : Int), .bool l, .slice Au nu cu], .bool (decide (i < pieces rec.length))]) ∧ Kept w w' (fun x => x = a ∨ x = b ∨ x = c) ∧ w'.heap[a]? = some (.cells #[.int .i64 ((pieces rec.length - (i + 1) : Nat) : Int)] 3 (0, 0)) ∧ (i < pieces rec.length → (cut (last + 1) rec)[i]? = some ⟨n, l, d⟩ ∧ RdN w' N (.slice Au nu cu) d ∧ CutSt w' N a b c rec last (i + 1)) := by
  obtain ⟨v, h1, h2⟩ := h
  by_cases hlt : i < pieces rec.length
  · obtain ⟨k, hk⟩ : ∃ k, k = pieces rec.length - (i + 1) := ⟨_, rfl⟩
    rw [show pieces rec.length - i = k + 1 by omega] at h1
    have hpl : pieces rec.length ≤ rec.length + 1 := by unfold pieces; split <;> omega
    refine (pcut1_next a b c k (last + i) v _ N w h1 h2 (by omega) hlast hN).mono ?_
    rintro e w' ⟨u, v', he, hu, hc, hv, hK⟩
    obtain ⟨Au, cu, hue, -⟩ := id hu
    have hue' : ∃ nu cu, u = .slice Au nu cu := ⟨_, _, hue⟩
    obtain ⟨nu, cu', rfl⟩ := hue'
    refine ⟨last + i + 1, k == 0, (rec.drop (501 * i)).take 501, Au, nu, cu', ?_, hK, by rw [← hk]; exact hc.ca, fun _ => ⟨?_, hu, v', ?_, ?_⟩⟩
    · rw [he, decide_eq_true hlt]
      rfl
    · rw [cut_get _ _ _ hlt, ← hk, show last + 1 + i = last + i + 1 by omega]
    · rw [← hk]; exact hc
    · rw [List.drop_drop] at hv
      rw [show 501 * (i + 1) = 501 * i + 501 by omega]
      exact hv
  · rw [show pieces rec.length - i = 0 by omega] at h1
    refine (pcut1_end a b c (last + i) v w h1).mono ?_
    rintro e w' ⟨he, hb⟩
    refine ⟨0, false, [], none, 0, 0, ?_, Kept.ofBelow hb, ?_, fun h => absurd h hlt⟩
    · rw [he, decide_eq_false hlt]
      rfl
    · rw [hb.block a (Array.getElem?_eq_some_iff.1 h1.ca).1, show pieces rec.length - (i + 1) = 0 by omega]
      exact h1.ca

/-- how many pieces a cutter has left; whether it went on -/
def leftOf (w : World) (a : Nat) : Nat := match w.cell? ⟨a, 0, none⟩ with
  | some v => (intOf v).toNat
  | none => 0
def okOf : Value → Nat
  | .bool true => 1
  | _ => 0
theorem leftOf_at {w : World} {a n : Nat} (h : w.heap[a]? = some (.cells #[.int .i64 (n : Int)] 3 (0, 0))) : leftOf w a = n := by
  have := (row7 h).1 0
  unfold leftOf
  rw [this]
  show (intOf (.int .i64 (n : Int))).toNat = n
  simp [intOf]
theorem okOf_at (b : Bool) : okOf (.bool b) = if b then 1 else 0 := by cases b <;> rfl

/-- what Append answers, and leaves -/
def appendOf (D : DS) (R : RG) (rec : List UInt8) : Int × DS × RG :=
  if refuseOf D.dead R (pieces rec.length) ≠ 0 then (refuseOf D.dead R (pieces rec.length), D, R)
  else if (D.putAll R.first R.count (cut (R.last + 1) rec)).1 ≠ 0 then ((D.putAll R.first R.count (cut (R.last + 1) rec)).1, (D.putAll R.first R.count (cut (R.last + 1) rec)).2, R)
  else (0, (D.putAll R.first R.count (cut (R.last + 1) rec)).2, { R with last := R.last + pieces rec.length, top := R.last + pieces rec.length })
theorem refuse_ok {D : Bool} {R : RG} {n : Nat} (h : refuseOf D R n = 0) : D = false ∧ n ≤ R.count ∧ ¬ R.last < R.top ∧ n ≤ R.room' ∧ R.last + n ≤ 4611686018427387904 := by
  unfold refuseOf at h
  split at h
  · exact absurd h (by decide)
  · split at h
    · exact absurd h (by decide)
    · split at h
      · exact absurd h (by decide)
      · split at h
        · exact absurd h (by decide)
        · split at h
          · exact absurd h (by decide)
          · exact ⟨by cases D <;> simp_all, by omega, by omega, by omega, by omega⟩
end Go.Proofs.Ytplpfhgdanclhaa
