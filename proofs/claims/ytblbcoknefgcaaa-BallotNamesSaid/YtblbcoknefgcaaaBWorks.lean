/-
  What each statement of the votes asks first. No statement is proved here. No condition.
-/
import Derived.Test.YtblbcoknefgcaaaBCommon
import Derived.Test.YtblbcoknefgcaaaBNear
import Derived.Test.YtblbcoknefgcaaaBNewer
import Derived.Test.YtblbcoknefgcaaaBTurns
namespace Go.Proofs.Ytblbcoknefgcaaa
open Go.RowKit

theorem two_lits (w : World) (o1 o2 : Obj) : ((w.alloc o1).alloc o2).heap[w.heap.size]? = some o1 ∧ ((w.alloc o1).alloc o2).heap[w.heap.size + 1]? = some o2 ∧ Below w.heap.size w ((w.alloc o1).alloc o2) := by
  refine ⟨?_, ?_, ((Below.refl _ _).alloc (Nat.le_refl _) _).alloc (by simp) _⟩
  · rw [Below.heap_alloc _ _ _ (by simp)]
    exact heap_alloc_new w _
  · have := heap_alloc_new (w.alloc o1) o2
    rw [show (w.alloc o1).heap.size = w.heap.size + 1 by simp] at this
    exact this
theorem lit_small {l : List Int} (h : (l.all fun x => decide (0 ≤ x) && decide (x ≤ 1000000)) = true) : ∀ x ∈ l, I6 x := fun x hx => by
  have := List.all_eq_true.1 h x hx
  simp only [Bool.and_eq_true, decide_eq_true_eq] at this
  exact i6_of (by omega) (by omega)
theorem won_lit (x m : List Int) (b : Bool) {W w w' : World} {p q T U : Nat} (hB : Below W.heap.size W w) (hb : Below w.heap.size w w') (hp : w'.heap[p]? = some (.cells (inR.row x).toArray T (0, 0))) (hq : w'.heap[q]? = some (.cells (inR.row m).toArray U (0, 0)))
    (hx : (x.all fun x => decide (0 ≤ x) && decide (x ≤ 1000000)) = true) (hm : (m.all fun x => decide (0 ≤ x) && decide (x ≤ 1000000)) = true) (lx : x.length ≤ 1000) (lm : m.length ≤ 1000) (hw : won x m = b) :
    Calls Try.prog 25 #[.slice (some ⟨p, 0, none⟩) x.length x.length, .slice (some ⟨q, 0, none⟩) m.length m.length] w' fun e w'' => e = .returned (.bool b) ∧ Below W.heap.size W w'' := by
  subst hw
  have hB' := hB.trans (Joins.below_le hb hB.size)
  exact (won_any x m _ _ w' (blk_N hp lx) (blk_N hq lm) lx lm (lit_small hx) (lit_small hm)).mono fun e w'' h => ⟨h.1, hB'.trans (Joins.below_le h.2 hB'.size)⟩
theorem common_lit (x m : List Int) (b : Int) {W w w' : World} {p q T U : Nat} (hB : Below W.heap.size W w) (hb : Below w.heap.size w w') (hp : w'.heap[p]? = some (.cells (inR.row x).toArray T (0, 0))) (hq : w'.heap[q]? = some (.cells (inR.row m).toArray U (0, 0)))
    (hx : (x.all fun x => decide (0 ≤ x) && decide (x ≤ 1000000)) = true) (lx : x.length ≤ 1000) (lm : m.length ≤ 1000) (hw : common x m = b) :
    Calls Try.prog 26 #[.slice (some ⟨p, 0, none⟩) x.length x.length, .slice (some ⟨q, 0, none⟩) m.length m.length] w' fun e w'' => e = .returned (.int .i64 b) ∧ Below W.heap.size W w'' := by
  subst hw
  have hB' := hB.trans (Joins.below_le hb hB.size)
  exact (common_any x m _ _ w' (blk_N hp lx) (blk_N hq lm) lx (lit_small hx)).mono fun e w'' h => ⟨h.1, hB'.trans (Joins.below_le h.2 hB'.size)⟩
theorem near_lit (x m : List Int) (b : Bool) {W w w' : World} {p q T U : Nat} (hB : Below W.heap.size W w) (hb : Below w.heap.size w w') (hp : w'.heap[p]? = some (.cells (inR.row x).toArray T (0, 0))) (hq : w'.heap[q]? = some (.cells (inR.row m).toArray U (0, 0)))
    (hx : (x.all fun x => decide (0 ≤ x) && decide (x ≤ 1000000)) = true) (hm : (m.all fun x => decide (0 ≤ x) && decide (x ≤ 1000000)) = true) (lx : x.length ≤ 1000) (lm : m.length ≤ 1000) (hw : near x m = b) :
    Calls Try.prog 36 #[.slice (some ⟨p, 0, none⟩) x.length x.length, .slice (some ⟨q, 0, none⟩) m.length m.length] w' fun e w'' => e = .returned (.bool b) ∧ Below W.heap.size W w'' := by
  subst hw
  have hB' := hB.trans (Joins.below_le hb hB.size)
  exact (near_any x m _ _ w' (blk_N hp lx) (blk_N hq lm) lx lm (lit_small hx) (lit_small hm)).mono fun e w'' h => ⟨h.1, hB'.trans (Joins.below_le h.2 hB'.size)⟩
theorem check_lit (x : List Int) (b : Bool) {W w w' : World} {p T : Nat} (hB : Below W.heap.size W w) (hb : Below w.heap.size w w') (hp : w'.heap[p]? = some (.cells (inR.row x).toArray T (0, 0))) (lx : x.length ≤ 1000) (hw : chk x = b) :
    Calls Try.prog 30 #[.slice (some ⟨p, 0, none⟩) x.length x.length] w' fun e w'' => e = .returned (.bool b) ∧ Below W.heap.size W w'' := by
  subst hw
  have hB' := hB.trans (Joins.below_le hb hB.size)
  exact (check_any x _ w' (blk_N hp lx)).mono fun e w'' h => ⟨h.1, h.2 ▸ hB'⟩
theorem common_123 : common [1, 2, 3] [5, 7, 2] = 5 := by
  have h1 : wo [] [1, 2, 3] = [1, 2, 3] := by decide
  have h2 : commonL [1, 2, 3] [5, 7, 2] = [5, 7, 2] := by unfold commonL; rw [h1]; decide
  have h3 : ([5, 7, 2] : List Int).mergeSort leI = [2, 5, 7] := by simp [List.mergeSort, List.MergeSort.Internal.splitInTwo, leI]
  unfold common
  rw [h1, h2, h3]
  decide
set_option maxHeartbeats 4000000 in
set_option maxRecDepth 100000 in
theorem works_any (W : World) : Calls Try.prog 23 #[] W fun e w' => e = .returned (.bool true) ∧ Below W.heap.size W w' := by
  have hb := Below.refl W.heap.size W
  have HB := Lib.hid hb
  clear hb
  go_enter Try.func23, Try.ntmps23
  go_wp2_with fail
  refine (won_lit [1, 2, 3] [3, 1] true HB.out (two_lits W _ _).2.2 (two_lits W _ _).1 (two_lits W _ _).2.1 rfl rfl (by decide) (by decide) (by decide)).mono ?_
  rintro e w1 ⟨rfl, hb⟩
  replace HB := Lib.hid hb
  clear hb
  go_wp2_with fail
  refine (won_lit [1, 2, 3] [1, 1, 4] false HB.out (two_lits w1 _ _).2.2 (two_lits w1 _ _).1 (two_lits w1 _ _).2.1 rfl rfl (by decide) (by decide) (by decide)).mono ?_
  rintro e w2 ⟨rfl, hb⟩
  replace HB := Lib.hid hb
  clear hb
  go_wp2_with fail
  refine (common_lit [1, 2, 3] [5, 7, 2] 5 HB.out (two_lits w2 _ _).2.2 (two_lits w2 _ _).1 (two_lits w2 _ _).2.1 rfl (by decide) (by decide) common_123).mono ?_
  rintro e w3 ⟨rfl, hb⟩
  replace HB := Lib.hid hb
  clear hb
  go_wp2_with fail
  refine (check_lit [1, 3] true HB.out ((Below.refl _ _).alloc (Nat.le_refl _) _) (heap_alloc_new w3 _) (by decide) (by decide)).mono ?_
  rintro e w4 ⟨rfl, hb⟩
  replace HB := Lib.hid hb
  clear hb
  go_wp2_with fail
  refine (check_lit [3, 1] false HB.out ((Below.refl _ _).alloc (Nat.le_refl _) _) (heap_alloc_new w4 _) (by decide) (by decide)).mono ?_
  rintro e w5 ⟨rfl, hb⟩
  replace HB := Lib.hid hb
  clear hb
  go_wp2_with fail
  refine (near_lit [1, 2] [1, 2, 3] true HB.out (two_lits w5 _ _).2.2 (two_lits w5 _ _).1 (two_lits w5 _ _).2.1 rfl rfl (by decide) (by decide) (by decide)).mono ?_
  rintro e w6 ⟨rfl, hb⟩
  replace HB := Lib.hid hb
  clear hb
  go_wp2_with fail
  refine (near_lit [1, 2] [1, 3] false HB.out (two_lits w6 _ _).2.2 (two_lits w6 _ _).1 (two_lits w6 _ _).2.1 rfl rfl (by decide) (by decide) (by decide)).mono ?_
  rintro e w7 ⟨rfl, hb⟩
  replace HB := Lib.hid hb
  clear hb
  go_wp2_with fail
  go_ret
  exact ⟨rfl, HB.out⟩
end Go.Proofs.Ytblbcoknefgcaaa
