/-
  Waits, plainly: what is asked of all of them, and what is left. No statement is proved here. No condition.
-/
import Derived.Test.YtclfhidapkoiiabRecs
namespace Go.Proofs.Ytclfhidapkoiiab
open Go.RowKit

/-- a request that waits -/
structure WT where
  req : Int
  key : ByteArray
  client : Int
  id : Int
  first : Int
  last : Int
  marked : Bool
def WT.agg (x : WT) : Value := .agg #[.int .i64 x.req, .string x.key, .int .i64 x.client, .int .i64 x.id, .int .i64 x.first, .int .i64 x.last, .bool x.marked]
def zW : WT := ⟨0, ⟨#[]⟩, 0, 0, 0, 0, false⟩
/-- waits in memory -/
def wtR : Rec WT where
  vals x := [.int .i64 x.req, .string x.key, .int .i64 x.client, .int .i64 x.id, .int .i64 x.first, .int .i64 x.last, .bool x.marked]
  size := 7
  len _ := rfl
  one p u hu := by simp at hu; rcases hu with rfl | rfl | rfl | rfl | rfl | rfl | rfl <;> rfl
def WT.cells (x : WT) : Array Value := #[.int .i64 x.req, .string x.key, .int .i64 x.client, .int .i64 x.id, .int .i64 x.first, .int .i64 x.last, .bool x.marked]
theorem WT.cells_eq (x : WT) : (wtR.vals x).toArray = x.cells := rfl
theorem WT.agg_cells (x : WT) : x.agg.cells = x.cells := rfl
/-- is a tick so many ago at now, or more (as machines reckon) -/
def agoB (t many now : Int) : Bool := decide (1 ≤ many) && (decide (t ≤ now) && decide (many ≤ wrap64 (now - t)))
/-- what is asked of each: none: nothing; some: it is told, as this -/
def markA (k : ByteArray) (x : WT) : Option WT := if x.key = k then some { x with marked := true } else none
def dueA (now every : Int) (x : WT) : Option WT := if agoB x.last every now = true then some { x with last := now } else none
def oldA (now most : Int) (x : WT) : Option WT := if agoB x.first most now = true then some x else none
def allA (x : WT) : Option WT := some x
/-- what is left of one: it is gone when it is told, or stays as it is told -/
def leftF (gone : Bool) (ask : WT → Option WT) (m : Nat × WT) : Option (Nat × WT) :=
  match ask m.2 with
  | some y => if gone then none else some (m.1, y)
  | none => some m
/-- the same of waits alone -/
def leftW (gone : Bool) (ask : WT → Option WT) (x : WT) : Option WT :=
  match ask x with
  | some y => if gone then none else some y
  | none => some x
theorem leftF_snd (gone : Bool) (ask : WT → Option WT) (m : Nat × WT) : (leftF gone ask m).map (·.2) = leftW gone ask m.2 := by
  unfold leftF leftW
  cases ask m.2 with
  | none => rfl
  | some y => cases gone <;> rfl
theorem left_snds (gone : Bool) (ask : WT → Option WT) (M : List (Nat × WT)) : (M.filterMap (leftF gone ask)).map (·.2) = (M.map (·.2)).filterMap (leftW gone ask) := by
  rw [List.map_filterMap, List.filterMap_map]
  congr 1
  funext m
  exact leftF_snd gone ask m
/-- a request's answer keeps its number -/
def Keeps (ask : WT → Option WT) : Prop := ∀ x y, ask x = some y → y.req = x.req
theorem mark_keeps (k : ByteArray) : Keeps (markA k) := fun x y h => by
  unfold markA at h
  split at h
  · injection h with h
    rw [← h]
  · cases h
theorem due_keeps (now every : Int) : Keeps (dueA now every) := fun x y h => by
  unfold dueA at h
  split at h
  · injection h with h
    rw [← h]
  · cases h
theorem old_keeps (now most : Int) : Keeps (oldA now most) := fun x y h => by
  unfold oldA at h
  split at h
  · injection h with h
    rw [← h]
  · cases h
theorem all_keeps : Keeps allA := fun x y h => by
  unfold allA at h
  injection h with h
  rw [← h]
theorem leftF_keeps {gone : Bool} {ask : WT → Option WT} (hk : Keeps ask) {m n : Nat × WT} (h : leftF gone ask m = some n) : n.1 = m.1 ∧ n.2.req = m.2.req := by
  unfold leftF at h
  cases ha : ask m.2 with
  | none =>
    rw [ha] at h
    have h := Option.some.inj h
    rw [← h]
    exact ⟨rfl, rfl⟩
  | some y =>
    rw [ha] at h
    cases gone with
    | true => cases h
    | false =>
      have h := Option.some.inj h
      rw [← h]
      exact ⟨rfl, hk _ _ ha⟩
/-- what is left, of a row's beginning turned, the rest as it was -/
def midM (gone : Bool) (ask : WT → Option WT) (M : List (Nat × WT)) (i : Nat) : List (Nat × WT) := (M.take i).filterMap (leftF gone ask) ++ M.drop i
theorem mid_zero (gone : Bool) (ask : WT → Option WT) (M : List (Nat × WT)) : midM gone ask M 0 = M := by simp [midM]
theorem mid_end (gone : Bool) (ask : WT → Option WT) (M : List (Nat × WT)) : midM gone ask M M.length = M.filterMap (leftF gone ask) := by simp [midM]
theorem drop_at {α : Type} {l : List α} {j : Nat} {p : α} (h : l[j]? = some p) : l.drop j = p :: l.drop (j + 1) := by
  obtain ⟨hl, he⟩ := List.getElem?_eq_some_iff.1 h
  rw [List.drop_eq_getElem_cons hl, he]
theorem mid_at {gone : Bool} {ask : WT → Option WT} {M : List (Nat × WT)} {i : Nat} {m : Nat × WT} (h : M[i]? = some m) : midM gone ask M i = (M.take i).filterMap (leftF gone ask) ++ m :: M.drop (i + 1) := by
  unfold midM
  rw [drop_at h]
theorem mid_succ {gone : Bool} {ask : WT → Option WT} {M : List (Nat × WT)} {i : Nat} {m : Nat × WT} (h : M[i]? = some m) : midM gone ask M (i + 1) = (M.take i).filterMap (leftF gone ask) ++ ((leftF gone ask m).toList ++ M.drop (i + 1)) := by
  unfold midM
  rw [List.take_add_one, h, List.filterMap_append, List.append_assoc]
  congr 1
theorem toList_inj {a b : ByteArray} (h : a.toList = b.toList) : a = b := by
  rw [ByteArray.toList_eq, ByteArray.toList_eq] at h
  cases a with | mk x => cases b with | mk y => congr 1; exact Array.toList_inj.1 h
end Go.Proofs.Ytclfhidapkoiiab
