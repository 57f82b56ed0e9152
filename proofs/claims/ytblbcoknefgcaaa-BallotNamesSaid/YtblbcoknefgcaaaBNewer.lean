/-
  Which log's end is newer, and who is voted for: the program's, and the document's. No statement is proved here. No condition.
-/
import Derived.Test.YtblbcoknefgcaaaBCmp
namespace Go.Proofs.Ytblbcoknefgcaaa
open Go.RowKit

def newer (aT aI bT bI : Int) : Bool := decide (0 ≤ cmpL [aT, aI] [bT, bI])
theorem newer_ne {aT aI bT bI : Int} (h : aT ≠ bT) : newer aT aI bT bI = decide (aT > bT) := by
  unfold newer cmpL
  by_cases h1 : aT < bT
  · rw [if_pos h1]; simp; omega
  · rw [if_neg h1, if_pos (by omega)]; simp; omega
theorem newer_eq {aT aI bI : Int} : newer aT aI aT bI = decide (aI ≥ bI) := by
  unfold newer cmpL
  rw [if_neg (Int.lt_irrefl _), if_neg (Int.lt_irrefl _)]
  unfold cmpL
  by_cases h1 : aI < bI
  · rw [if_pos h1]; simp; omega
  · rw [if_neg h1]
    by_cases h2 : aI > bI
    · rw [if_pos h2]; simp; omega
    · rw [if_neg h2]; unfold cmpL; simp; omega
/-- a block of numbers, as a slice of all of it -/
theorem blk_N {w : World} {p : Nat} {T : TypeId} {l : List Int} (h : w.heap[p]? = some (.cells (inR.row l).toArray T (0, 0))) (hl : l.length ≤ 1000) : inR.N w Any (.slice (some ⟨p, 0, none⟩) l.length l.length) l := by
  refine ⟨_, _, rfl, by rw [inR.row_length], Nat.le_refl _, by unfold maxLen; omega, (fun h => by cases h), fun _ => ⟨p, 0, rfl, trivial, (Array.getElem?_eq_some_iff.1 h).1, fun j u hu => ?_⟩⟩
  rw [Nat.zero_add, (blk_cells h).1 j, List.getElem?_toArray]
  exact hu
set_option maxHeartbeats 1000000 in
theorem newer_any (aT aI bT bI : Int) (w : World) : Calls Try.prog 27 #[.int .i64 aT, .int .i64 aI, .int .i64 bT, .int .i64 bI] w fun e w' => e = .returned (.bool (newer aT aI bT bI)) ∧ Below w.heap.size w w' := by
  go_enter Try.func27, Try.ntmps27
  go_upto_region 2 with fail
  obtain ⟨w2, hw2⟩ : ∃ w2, w2 = (w.alloc (.cells #[.int .i64 aT, .int .i64 aI] 112)).alloc (.cells #[.int .i64 bT, .int .i64 bI] 112) := ⟨_, rfl⟩
  have hb : Below w.heap.size w w2 := by rw [hw2]; exact ((Below.refl _ _).alloc (Nat.le_refl _) _).alloc (by simp) _
  have h1 : w2.heap[w.heap.size]? = some (.cells (inR.row [aT, aI]).toArray 112 (0, 0)) := by
    rw [hw2, Below.heap_alloc _ _ _ (by simp)]
    exact heap_alloc_new w _
  have h2 : w2.heap[w.heap.size + 1]? = some (.cells (inR.row [bT, bI]).toArray 112 (0, 0)) := by
    rw [hw2]
    have := heap_alloc_new (w.alloc (.cells #[.int .i64 aT, .int .i64 aI] 112)) (.cells #[.int .i64 bT, .int .i64 bI] 112)
    rwa [show (w.alloc (.cells #[.int .i64 aT, .int .i64 aI] 112)).heap.size = w.heap.size + 1 by simp] at this
  have c : ∀ k, Calls Try.prog 76 #[.slice (some ⟨w.heap.size, 0, none⟩) 2 2, .slice (some ⟨w.heap.size + 1, 0, none⟩) 2 2] (w2.drewN k) fun e w' => e = .returned (.int .i64 (cmpL [aT, aI] [bT, bI])) ∧ w' = w2.drewN k := fun k => (compare_any [aT, aI] [bT, bI] _ _ (w2.drewN k) (blk_N h1 (by simp)) (blk_N h2 (by simp))).mono fun _ _ h => ⟨h.1, h.2.symm⟩
  have HB := Lib.hid hb
  rw [← hw2]
  clear hw2 hb h1 h2
  go_quiet ((go_at_call 76; exact Calls.quiet_of_same (c _)))
  go_wp2_with fail
  go_ret
  exact ⟨rfl, HB.out.trans ⟨rfl, rfl, rfl, Nat.le_refl _, fun _ _ => rfl⟩⟩
def grants (term vote cT cand : Int) (nw : Bool) : Bool := (decide (cT > term) || (cT == term && (vote == 0 || vote == cand))) && decide (cand > 0) && nw
set_option maxHeartbeats 1000000 in
theorem grants_any (term vote cT cand : Int) (nw : Bool) (w : World) : Calls Try.prog 28 #[.int .i64 term, .int .i64 vote, .int .i64 cT, .int .i64 cand, .bool nw] w fun e w' => e = .returned (.bool (grants term vote cT cand nw)) ∧ w = w' := by
  go_enter Try.func28, Try.ntmps28
  go_wp2_with fail
  all_goals
    go_ret
    refine ⟨?_, rfl⟩
    simp [grants, *]
    try omega
end Go.Proofs.Ytblbcoknefgcaaa
