/-
  Steps in memory; lists of numbers. No statement is proved here. No condition.
-/
import Derived.Test.YtclfhidapkoiiabUAwake
namespace Go.Proofs.Ytclfhidapkoiiab
open Go.RowKit Go.Maps

/-- a step -/
structure ST where
  kind : Int
  key : ByteArray
  client : Int
  id : Int
  now : Int
  n : Int
  raw : Bool
def stR : Rec {s : ST // I6 s.n} where
  vals s := [.int .u8 s.1.kind, .string s.1.key, .int .i64 s.1.client, .int .i64 s.1.id, .int .i64 s.1.now, .int .i64 s.1.n, .bool s.1.raw]
  size := 7
  len _ := rfl
  one p u hu := by simp at hu; rcases hu with rfl | rfl | rfl | rfl | rfl | rfl | rfl <;> rfl
theorem st_cell {w : World} {N : Nat → Prop} {v : Value} {l : List {s : ST // I6 s.n}} (h : stR.N w N v l) {i : Nat} {s : {s : ST // I6 s.n}} (hi : l[i]? = some s) :
    ∃ b o n k, v = .slice (some ⟨b, o, none⟩) n k ∧ b < w.heap.size ∧ (w.cell? ⟨b, o + i * 7, none⟩ = some (.int .u8 s.1.kind) ∧ w.cell? ⟨b, o + i * 7 + 1, none⟩ = some (.string s.1.key) ∧ w.cell? ⟨b, o + i * 7 + 2, none⟩ = some (.int .i64 s.1.client) ∧ w.cell? ⟨b, o + i * 7 + 3, none⟩ = some (.int .i64 s.1.id)) ∧ w.cell? ⟨b, o + i * 7 + 4, none⟩ = some (.int .i64 s.1.now) ∧ w.cell? ⟨b, o + i * 7 + 5, none⟩ = some (.int .i64 s.1.n) ∧ w.cell? ⟨b, o + i * 7 + 6, none⟩ = some (.bool s.1.raw) := by
  obtain ⟨b, o, n, k, hv, -, hs, hc⟩ := h.cell hi
  exact ⟨b, o, n, k, hv, hs, ⟨hc 0 _ rfl, hc 1 _ rfl, hc 2 _ rfl, hc 3 _ rfl⟩, hc 4 _ rfl, hc 5 _ rfl, hc 6 _ rfl⟩
/-- numbers in a row -/
def inR : Rec Int where
  vals n := [.int .i64 n]
  size := 1
  len _ := rfl
  one p u hu := by simp at hu; rw [hu]; rfl
theorem in_cell {w : World} {N : Nat → Prop} {v : Value} {l : List Int} (h : inR.N w N v l) {i : Nat} {x : Int} (hi : l[i]? = some x) : ∃ b o n k, v = .slice (some ⟨b, o, none⟩) n k ∧ b < w.heap.size ∧ w.cell? ⟨b, o + i, none⟩ = some (.int .i64 x) := by
  obtain ⟨b, o, n, k, hv, -, hs, hc⟩ := h.cell hi
  have := hc 0 _ rfl
  exact ⟨b, o, n, k, hv, hs, by simpa [inR] using this⟩
theorem info_in : (Try.prog.info? 3).map (fun i => (i.zero, i.size, i.bytes)) = some (some (.int .i64 0), 1, 8) := by kernel_rfl
/-- one number put behind -/
theorem in_app {w : World} {B : Nat} {v : Value} {L : List Int} {x : Int} (h : inR.Own w B 3 v L) (hB : B ≤ w.heap.size) (hn : L.length ≤ 100000) :
    ∃ A c w3, (Builtin.append_ #[30, 30] 30 #[v, .slice (some ⟨w.heap.size, 0, none⟩) 1 1]).run Try.prog (w.alloc (.cells #[.int .i64 x] 3)) = .ok (.slice A (L.length + 1) c) w3 ∧ inR.Own w3 B 3 (.slice A (L.length + 1) c) (L ++ [x]) ∧ Below B w w3 ∧ (∀ n, n < w.heap.size → v.ownBlock ≠ some n → w3.heap[n]? = w.heap[n]?) := by
  obtain ⟨w2, hw2⟩ : ∃ w2, w2 = w.alloc (.cells #[.int .i64 x] 3) := ⟨_, rfl⟩
  have hb2 : Below w.heap.size w w2 := by rw [hw2]; exact (Below.refl _ _).alloc (Nat.le_refl _) _
  have hx2 : w2.heap[w.heap.size]? = some (.cells (inR.vals x).toArray 3 (0, 0)) := by rw [hw2]; exact heap_alloc_new w _
  have h2 := h.below hb2
  rw [← hw2]
  obtain ⟨i0, hi, hz0, hz1, hz2⟩ := info_parts info_in
  obtain ⟨v', w3, hr, hown, hg, hat⟩ := Rec.app (P := Try.prog) (R := inR) (t := 30) Try.underlying30 hi hz0 hz1 hz2 rfl (by decide) h2 (Rec.one_row (N := Any) hx2 trivial) (by unfold maxLen; simp; omega) (by simp; omega) (Nat.le_trans hB hb2.size)
  obtain ⟨A, c, rfl⟩ := hown.slice
  rw [show (L ++ [x]).length = L.length + 1 by simp] at hr hown
  refine ⟨A, c, w3, hr, hown, (Joins.below_le hb2 hB).grown hg (Nat.le_trans hB hb2.size) (fun q hq => (h2.lt q hq).1), fun n hn' hv => ?_⟩
  exact (hg.block n (Nat.lt_of_lt_of_le hn' hb2.size) fun e => hv e.symm).trans (hb2.block n hn')
theorem u64_in (x : Int) : 0 ≤ IntKind.u64.wrap x ∧ IntKind.u64.wrap x < 18446744073709551616 := by
  have : IntKind.u64.wrap x = x % 18446744073709551616 := by simp [IntKind.wrap, IntKind.bits, IntKind.signed]
  rw [this]
  omega
theorem u64_small {x : Int} (h0 : 0 ≤ x) (h1 : x ≤ 9223372036854775807) : IntKind.u64.wrap x = x := by
  have : IntKind.u64.wrap x = x % 18446744073709551616 := by simp [IntKind.wrap, IntKind.bits, IntKind.signed]
  rw [this]
  omega
theorem u64_rem (x : Int) {n : Nat} (h0 : 0 < n) (h1 : n ≤ 100000) : ∃ j : Nat, j < n ∧ (IntKind.u64.wrap x).tmod (n : Int) = (j : Int) ∧ wrap64 ((IntKind.u64.wrap x).tmod (n : Int)) = (j : Int) := by
  have hx := u64_in x
  rw [Int.tmod_eq_emod_of_nonneg hx.1]
  have h2 := Int.emod_nonneg (IntKind.u64.wrap x) (show (n : Int) ≠ 0 by omega)
  have h3 := Int.emod_lt_of_pos (IntKind.u64.wrap x) (show (0 : Int) < (n : Int) by omega)
  refine ⟨((IntKind.u64.wrap x) % (n : Int)).toNat, by omega, by omega, ?_⟩
  unfold wrap64
  omega
end Go.Proofs.Ytclfhidapkoiiab
