/-
  The program's ring: what its sectors have. No statement is proved here. No condition.
-/
import Derived.Test.YtplpfhgdanclhaaRRun
namespace Go.Proofs.Ytplpfhgdanclhaa
open Go.RowKit

/-- the pieces of the first j sectors -/
def thereTo (S : List (List UInt8)) (j : Nat) : List (Option Pc) := (List.range S.length).map fun i => if i < j then pcOf (S.getD i []) i S.length else none
theorem thereTo_length (S : List (List UInt8)) (j : Nat) : (thereTo S j).length = S.length := by unfold thereTo; rw [List.length_map, List.length_range]
theorem thereTo_get (S : List (List UInt8)) (j i : Nat) (h : i < S.length) : (thereTo S j)[i]? = some (if i < j then pcOf (S.getD i []) i S.length else none) := by
  unfold thereTo
  rw [List.getElem?_map, List.getElem?_range h]
  rfl
theorem thereTo_next (S : List (List UInt8)) (j : Nat) : thereTo S (j + 1) = (thereTo S j).set j (pcOf (S.getD j []) j S.length) := by
  apply List.ext_getElem?
  intro i
  by_cases hi : i < S.length
  · rw [thereTo_get _ _ _ hi, List.getElem?_set, thereTo_length, thereTo_get _ _ _ hi]
    by_cases hj : j = i
    · subst hj
      rw [if_pos rfl, if_pos hi, if_pos (by omega)]
    · rw [if_neg hj]
      by_cases hl : i < j
      · rw [if_pos hl, if_pos (by omega)]
      · rw [if_neg hl, if_neg (by omega)]
  · rw [List.getElem?_eq_none (by rw [thereTo_length]; omega), List.getElem?_eq_none (by rw [List.length_set, thereTo_length]; omega)]
theorem thereTo_same (S : List (List UInt8)) (j : Nat) (h : pcOf (S.getD j []) j S.length = none) : thereTo S (j + 1) = thereTo S j := by
  rw [thereTo_next, h]
  apply List.ext_getElem?
  intro i
  rw [List.getElem?_set]
  by_cases hj : j = i
  · subst hj
    rw [if_pos rfl]
    by_cases hl : j < (thereTo S j).length
    · rw [if_pos hl, thereTo_get _ _ _ (by rw [thereTo_length] at hl; exact hl), if_neg (Nat.lt_irrefl _)]
    · rw [if_neg hl, List.getElem?_eq_none (by omega)]
  · rw [if_neg hj]

theorem info_PcR : (Try.prog.info? 81).map (fun i => (i.zero, i.size, i.bytes)) = some (some (.agg #[.int .i64 0, .bool false, .slice none 0 0]), 3, 40) := by kernel_rfl

/-- new memory for pieces: none is there -/
theorem there_made (w : World) (S : List (List UInt8)) (N : Nat → Prop) : ThereAt (w.alloc (.cells (madeCells (Value.agg #[.int .i64 0, .bool false, .slice none 0 0]).cells (S.length * 3)) 81)) N w.heap.size (thereTo S 0) := by
  refine ⟨_, heap_alloc_new w _, by rw [size_madeCells, thereTo_length], fun i o ho => ?_⟩
  have hi : i < S.length := by have := (List.getElem?_eq_some_iff.1 ho).1; rwa [thereTo_length] at this
  rw [thereTo_get _ _ _ hi, if_neg (Nat.not_lt_zero _)] at ho
  obtain rfl := (Option.some.inj ho).symm
  have key : ∀ k, k < S.length * 3 → (madeCells (Value.agg #[.int .i64 0, .bool false, .slice none 0 0]).cells (S.length * 3))[k]? = some ((#[.int .i64 0, .bool false, .slice none 0 0] : Array Value)[k % 3]!) := fun k hk => by
    unfold madeCells
    rw [Array.getElem?_map, Array.getElem?_range, if_pos hk]
    rfl
  refine ⟨none, 0, 0, ?_, ?_, ?_, RdN.nil _ _⟩
  · rw [key _ (by omega), Nat.mul_mod_left]; rfl
  · rw [key _ (by omega), show (i * 3 + 1) % 3 = 1 by omega]; rfl
  · rw [key _ (by omega), show (i * 3 + 2) % 3 = 2 by omega]; rfl
/-- a piece is noted -/
theorem ThereAt.put {w : World} {N : Nat → Prop} {g j : Nat} {L : List (Option Pc)} (h : ThereAt w N g L) (hj : j < L.length) (hN : ∀ x, N x → x ≠ g) (o : Option Pc) (Au : Option Addr) (nu cu : Nat) (hu : RdN w N (.slice Au nu cu) (dataO o)) :
    ThereAt (((w.setCell ⟨g, j * 3, none⟩ (.int .i64 (numO o : Int))).setCell ⟨g, j * 3 + 1, none⟩ (.bool (lastO o))).setCell ⟨g, j * 3 + 2, none⟩ (.slice Au nu cu)) N g (L.set j o) := by
  obtain ⟨C, h1, h2, h3⟩ := h
  have hb := Joins.block_setCell (Joins.block_setCell (Joins.block_setCell h1 (.int .i64 (numO o : Int)) (i := j * 3)) (.bool (lastO o)) (i := j * 3 + 1)) (.slice Au nu cu) (i := j * 3 + 2)
  have hk : ∀ x, N x → x < w.heap.size → (((w.setCell ⟨g, j * 3, none⟩ (.int .i64 (numO o : Int))).setCell ⟨g, j * 3 + 1, none⟩ (.bool (lastO o))).setCell ⟨g, j * 3 + 2, none⟩ (.slice Au nu cu)).heap[x]? = w.heap[x]? := fun x hx _ => by
    have := hN x hx
    rw [set_other this, set_other this, set_other this]
  refine ⟨_, hb, by simp only [Array.size_setIfInBounds, List.length_set]; exact h2, fun i o' ho => ?_⟩
  rw [List.getElem?_set] at ho
  have hC : C.size = L.length * 3 := h2
  by_cases hi : j = i
  · subst hi
    rw [if_pos rfl, if_pos hj] at ho
    obtain rfl := Option.some.inj ho
    refine ⟨Au, nu, cu, ?_, ?_, ?_, hu.kept (fun _ h _ => h) (by simp) hk⟩
    · rw [Array.getElem?_setIfInBounds_ne (by omega), Array.getElem?_setIfInBounds_ne (by omega), Array.getElem?_setIfInBounds_self_of_lt (by omega)]
    · rw [Array.getElem?_setIfInBounds_ne (by omega), Array.getElem?_setIfInBounds_self_of_lt (by simp only [Array.size_setIfInBounds]; omega)]
    · rw [Array.getElem?_setIfInBounds_self_of_lt (by simp only [Array.size_setIfInBounds]; omega)]
  · rw [if_neg hi] at ho
    obtain ⟨A', n', c', k1, k2, k3, k4⟩ := h3 i o' ho
    refine ⟨A', n', c', ?_, ?_, ?_, k4.kept (fun _ h _ => h) (by simp) hk⟩
    all_goals rw [Array.getElem?_setIfInBounds_ne (by omega), Array.getElem?_setIfInBounds_ne (by omega), Array.getElem?_setIfInBounds_ne (by omega)]
    · exact k1
    · exact k2
    · exact k3

/-- what a ring's sectors read as -/
def seen (D : DS) (first count : Nat) : List (List UInt8) := secs (setAll D.lasts D.waits) first count
theorem seen_length {D : DS} {first count : Nat} (h : first + count ≤ D.lasts.length) : (seen D first count).length = count := by unfold seen; exact secs_length (by rw [setAll_length]; exact h)
theorem seen_get {D : DS} {first count i : Nat} (h : first + count ≤ D.lasts.length) (hi : i < count) : (seen D first count).getD i [] = look D.lasts D.waits (first + i) := by
  unfold seen
  rw [secs_get hi, look_all _ _ _ (by omega)]

/-- what look's loop keeps -/
structure LookInv (w wr : World) (r q : Nat) (R : RG) (S : List (List UInt8)) (g j : Nat) : Prop where
  kept : Kept w wr (fun x => x = r)
  ring : RgAt wr r q { R with top := topTo S R.top j }
  there : ThereAt wr (fun x => w.heap.size < x) g (thereTo S j)
  top : topTo S R.top j ≤ 4611686018427387904
end Go.Proofs.Ytplpfhgdanclhaa
