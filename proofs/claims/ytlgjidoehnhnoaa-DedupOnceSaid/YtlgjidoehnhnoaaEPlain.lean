/-
  What operations do to lists of pairs, and what requests do once: plainly. No statement is proved here. No condition.
-/
import Derived.Test.YtlgjidoehnhnoaaRecs
namespace Go.Proofs.Ytlgjidoehnhnoaa
open Go.RowKit

/-- a pair -/
structure PP where
  key : ByteArray
  val : ByteArray
/-- a result -/
structure PR where
  kind : Int
  found : Bool
  val : ByteArray
/-- a client's last write -/
structure PL where
  client : Int
  id : Int
  res : PR
/-- an operation -/
structure PO where
  kind : Int
  key : ByteArray
  val : ByteArray
  old : ByteArray
  had : Bool
def PR.vals (r : PR) : List Value := [.int .u8 r.kind, .bool r.found, .string r.val]
def PR.agg (r : PR) : Value := .agg #[.int .u8 r.kind, .bool r.found, .string r.val]
def PP.agg (p : PP) : Value := .agg #[.string p.key, .string p.val]
def PL.agg (l : PL) : Value := .agg #[.int .i64 l.client, .int .i64 l.id, .int .u8 l.res.kind, .bool l.res.found, .string l.res.val]
def PO.agg (o : PO) : Value := .agg #[.int .u8 o.kind, .string o.key, .string o.val, .string o.old, .bool o.had]
/-- pairs in memory, and last writes -/
def pairR : Rec PP where
  vals p := [.string p.key, .string p.val]
  size := 2
  len _ := rfl
  one p u hu := by simp at hu; rcases hu with rfl | rfl <;> rfl
def lastR : Rec PL where
  vals l := [.int .i64 l.client, .int .i64 l.id, .int .u8 l.res.kind, .bool l.res.found, .string l.res.val]
  size := 5
  len _ := rfl
  one p u hu := by simp at hu; rcases hu with rfl | rfl | rfl | rfl | rfl <;> rfl
/-- texts in order, byte by byte -/
def bLt (a b : ByteArray) : Bool := Op.bytesLess a.toList b.toList
def zR : PR := ⟨0, false, ⟨#[]⟩⟩

theorem less_irrefl (x : List UInt8) : Op.bytesLess x x = false := by
  induction x with
  | nil => rfl
  | cons a x ih => simp [Op.bytesLess, ih]
theorem less_trans : ∀ {x y z : List UInt8}, Op.bytesLess x y = true → Op.bytesLess y z = true → Op.bytesLess x z = true := by
  intro x
  induction x with
  | nil =>
    intro y z h1 h2
    cases z with
    | nil => simp [Op.bytesLess] at h2
    | cons c z => rfl
  | cons a x ih =>
    intro y z h1 h2
    cases y with
    | nil => simp [Op.bytesLess] at h1
    | cons b y =>
      cases z with
      | nil => simp [Op.bytesLess] at h2
      | cons c z =>
        simp only [Op.bytesLess, Bool.or_eq_true, decide_eq_true_eq, Bool.and_eq_true, beq_iff_eq] at h1 h2 ⊢
        rcases h1 with h1 | ⟨rfl, h1⟩
        · rcases h2 with h2 | ⟨rfl, h2⟩
          · exact .inl (UInt8.lt_trans h1 h2)
          · exact .inl h1
        · rcases h2 with h2 | ⟨rfl, h2⟩
          · exact .inl h2
          · exact .inr ⟨rfl, ih h1 h2⟩
theorem less_total {x : List UInt8} : ∀ {y : List UInt8}, Op.bytesLess x y = false → Op.bytesLess y x = false → x = y := by
  induction x with
  | nil =>
    intro y h1 h2
    cases y with
    | nil => rfl
    | cons b y => simp [Op.bytesLess] at h1
  | cons a x ih =>
    intro y h1 h2
    cases y with
    | nil => simp [Op.bytesLess] at h2
    | cons b y =>
      simp only [Op.bytesLess, Bool.or_eq_false_iff, decide_eq_false_iff_not, Bool.and_eq_false_iff, beq_eq_false_iff_ne] at h1 h2
      have hab : a = b := UInt8.le_antisymm (UInt8.not_lt.1 h2.1) (UInt8.not_lt.1 h1.1)
      subst hab
      rw [ih (h1.2.resolve_left (fun h => h rfl)) (h2.2.resolve_left (fun h => h rfl))]
theorem less_asymm {x y : List UInt8} (h : Op.bytesLess x y = true) : Op.bytesLess y x = false := by
  cases e : Op.bytesLess y x with
  | false => rfl
  | true =>
    have := less_trans h e
    rw [less_irrefl] at this
    exact Bool.noConfusion this
theorem toList_inj {a b : ByteArray} (h : a.toList = b.toList) : a = b := by
  rw [ByteArray.toList_eq, ByteArray.toList_eq] at h
  cases a with | mk x => cases b with | mk y => congr 1; exact Array.toList_inj.1 h
theorem bLt_irrefl (a : ByteArray) : bLt a a = false := less_irrefl _
theorem bLt_trans {a b c : ByteArray} (h : bLt a b = true) (k : bLt b c = true) : bLt a c = true := less_trans h k
theorem bLt_total {a b : ByteArray} (h : bLt a b = false) (k : bLt b a = false) : a = b := toList_inj (less_total h k)
theorem bLt_asymm {a b : ByteArray} (h : bLt a b = true) : bLt b a = false := less_asymm h
theorem bLt_ne {a b : ByteArray} (h : bLt a b = true) : a ≠ b := fun e => by rw [e, bLt_irrefl] at h; cases h
theorem gtr_bLt (a b : ByteArray) : (!(Op.bytesLess a.toList b.toList || a.toList == b.toList)) = bLt b a := by
  cases h : bLt b a with
  | true =>
    have h1 : Op.bytesLess a.toList b.toList = false := bLt_asymm h
    have h2 : a.toList ≠ b.toList := fun e => bLt_ne h (toList_inj e).symm
    simp [h1, h2]
  | false =>
    cases k : bLt a b with
    | true =>
      have k1 : Op.bytesLess a.toList b.toList = true := k
      simp [k1]
    | false =>
      have e := bLt_total h k
      subst e
      simp
section
variable {α : Type}
/-- in the place of the first one that fits; else ahead of the first greater one, or last -/
def repl (eq : α → Bool) (x : α) : List α → List α
  | [] => [x]
  | a :: l => if eq a then x :: l else a :: repl eq x l
def ins (gt : α → Bool) (x : α) : List α → List α
  | [] => [x]
  | a :: l => if gt a then x :: a :: l else a :: ins gt x l
def putBy (eq gt : α → Bool) (x : α) (l : List α) : List α := if l.any eq then repl eq x l else ins gt x l
theorem repl_length (eq : α → Bool) (x : α) (l : List α) : (repl eq x l).length ≤ l.length + 1 := by
  induction l with
  | nil => exact Nat.le_refl _
  | cons a l ih =>
    unfold repl
    split
    · simp
    · simp only [List.length_cons]; omega
theorem ins_length (gt : α → Bool) (x : α) (l : List α) : (ins gt x l).length = l.length + 1 := by
  induction l with
  | nil => rfl
  | cons a l ih =>
    unfold ins
    split
    · simp
    · simp only [List.length_cons, ih]
theorem putBy_length (eq gt : α → Bool) (x : α) (l : List α) : (putBy eq gt x l).length ≤ l.length + 1 := by
  unfold putBy
  split
  · exact repl_length eq x l
  · exact Nat.le_of_eq (ins_length gt x l)
end

def findP : List PP → ByteArray → Option ByteArray
  | [], _ => none
  | p :: l, k => if p.key = k then some p.val else findP l k
def putP (l : List PP) (p : PP) : List PP := putBy (fun q => decide (q.key = p.key)) (fun q => bLt p.key q.key) p l
def delP (l : List PP) (k : ByteArray) : List PP := l.filter fun q => decide (q.key ≠ k)
def noteP (l : List PL) (x : PL) : List PL := putBy (fun q => decide (q.client = x.client)) (fun q => decide (x.client < q.client)) x l
def PO.err (o : PO) : Int := if o.kind = 0 ∨ 4 < o.kind then 1 else if o.key.size < 1 ∨ 32 < o.key.size ∨ 2000 < o.val.size ∨ 2000 < o.old.size then 40 else 0
def bytesSum (l : List UInt8) : Nat := (l.map UInt8.toNat).sum
def placeP (k : ByteArray) (n : Int) : Int := if n < 1 then 0 else (bytesSum k.data.toList : Int) % n
def fits (l : List PP) (o : PO) : Bool := match findP l o.key with
  | some v => o.had && decide (v = o.old)
  | none => !o.had
def doP (l : List PP) (o : PO) : List PP × PR :=
  if o.kind = 1 then (l, ⟨1, (findP l o.key).isSome, (findP l o.key).getD ⟨#[]⟩⟩)
  else if o.kind = 2 then (putP l ⟨o.key, o.val⟩, ⟨1, false, ⟨#[]⟩⟩)
  else if o.kind = 4 then (if fits l o then (putP l ⟨o.key, o.val⟩, ⟨1, true, ⟨#[]⟩⟩) else (l, ⟨1, false, ⟨#[]⟩⟩))
  else (delP l o.key, ⟨1, (findP l o.key).isSome, ⟨#[]⟩⟩)
def seenP : List PL → Int → Int → PR × Int
  | [], _, _ => (zR, 5)
  | x :: l, c, i => if x.client = c then (if x.id = i then (x.res, 0) else if i < x.id then (zR, 6) else (zR, 5)) else seenP l c i
/-- all that a Step tells: the lists, the result, the error (the lists are none where there is one) -/
def stepErr (l : List PL) (c i : Int) (o : PO) : Int := if o.err ≠ 0 then o.err else if o.kind = 1 then 1 else if (seenP l c i).2 = 6 then 6 else 0
def stepP (m : List PP) (l : List PL) (c i : Int) (o : PO) : List PP × List PL × PR :=
  if stepErr l c i o ≠ 0 then ([], [], zR)
  else if (seenP l c i).2 = 0 then (m, l, (seenP l c i).1)
  else ((doP m o).1, noteP l ⟨c, i, (doP m o).2⟩, (doP m o).2)

theorem findP_any (l : List PP) (k : ByteArray) : (findP l k).isSome = l.any fun q => decide (q.key = k) := by
  induction l with
  | nil => rfl
  | cons p l ih =>
    unfold findP
    rw [List.any_cons]
    by_cases h : p.key = k
    · rw [if_pos h]; simp [h]
    · rw [if_neg h, ih]; simp [h]
theorem putP_length (l : List PP) (p : PP) : (putP l p).length ≤ l.length + 1 := putBy_length _ _ _ _
theorem delP_length (l : List PP) (k : ByteArray) : (delP l k).length ≤ l.length := List.length_filter_le _ _
theorem noteP_length (l : List PL) (x : PL) : (noteP l x).length ≤ l.length + 1 := putBy_length _ _ _ _
theorem doP_length (l : List PP) (o : PO) : (doP l o).1.length ≤ l.length + 1 := by
  unfold doP
  split
  · exact Nat.le_succ _
  · split
    · exact putP_length _ _
    · split
      · split
        · exact putP_length _ _
        · exact Nat.le_succ _
      · exact Nat.le_trans (delP_length _ _) (Nat.le_succ _)
theorem bytesSum_le (l : List UInt8) : bytesSum l ≤ l.length * 255 := by
  induction l with
  | nil => simp [bytesSum]
  | cons a l ih =>
    have h : bytesSum (a :: l) = a.toNat + bytesSum l := by simp [bytesSum]
    have := a.toNat_lt
    rw [h, List.length_cons]
    omega
theorem bytesSum_snoc {l : List UInt8} {i : Nat} {a : UInt8} (h : l[i]? = some a) : bytesSum (l.take (i + 1)) = bytesSum (l.take i) + a.toNat := by
  unfold bytesSum
  rw [List.take_add_one, h, List.map_append, List.sum_append]
  simp
end Go.Proofs.Ytlgjidoehnhnoaa
