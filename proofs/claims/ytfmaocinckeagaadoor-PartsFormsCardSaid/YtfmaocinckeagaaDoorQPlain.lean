/-
  Stage 11's words on plain lists: a message's parts, their packets, what a packet may be. No statement is proved here. No condition.
-/
import Derived.Test.YtfmaocinckeagaaDoorReaderC
import Derived.Test.YtfmaocinckeagaaDoorPlainD
import Derived.Test.YtfmaocinckeagaaDoorOpenRef
namespace Go.Proofs.YtfmaocinckeagaaDoor
open Go.RowKit

/-- a packet of a part: its number, its place, how many, its bytes -/
def pbody (n p m : Nat) (d : List UInt8) : List UInt8 := uv n ++ uv p ++ uv m ++ tv d
def pkt (n p m : Nat) (d : List UInt8) : List UInt8 := frame 1 (pbody n p m d)
/-- a part of a message -/
def piece (l : List UInt8) (i : Nat) : List UInt8 := (l.drop (380 * i)).take 380
def many (l : List UInt8) : Nat := max 1 ((l.length + 379) / 380)
theorem many_pos (l : List UInt8) : 1 ≤ many l := by unfold many; omega
def cutErr (n : Int) (l : List UInt8) : Int := if n < 0 ∨ 2147483647 < n then 1 else if 8192 < l.length then 40 else 0
/-- what Cut tells -/
def cutP (n : Int) (l : List UInt8) : List (List UInt8) := if cutErr n l = 0 then (List.range (many l)).map (fun i => pkt n.toNat i (many l) (piece l i)) else []
theorem pbody_small {n p m : Nat} {d : List UInt8} (hn : n ≤ 2147483647) (hp : p ≤ 2147483647) (hm : m ≤ 2147483647) (hd : d.length ≤ 380) : (pbody n p m d).length ≤ 412 := by
  have h1 := uv_length64 n (by unfold U64; omega)
  have h2 := uv_length64 p (by unfold U64; omega)
  have h3 := uv_length64 m (by unfold U64; omega)
  have h4 := uv_length 1 d.length (by omega)
  unfold pbody tv
  simp only [List.length_append]
  omega
theorem piece_length (l : List UInt8) (i : Nat) : (piece l i).length ≤ 380 := by unfold piece; rw [List.length_take]; omega
theorem many_small {l : List UInt8} (h : l.length ≤ 8192) : many l ≤ 22 := by unfold many; omega
theorem pkt_small {n p m : Nat} {d : List UInt8} (hn : n ≤ 2147483647) (hp : p ≤ 22) (hm : m ≤ 22) (hd : d.length ≤ 380) : (pkt n p m d).length ≤ 400 := by
  have h1 := uv_length 4 n (by omega)
  have h2 := uv_length 0 p (by omega)
  have h3 := uv_length 0 m (by omega)
  have h4 := uv_length 1 d.length (by omega)
  unfold pkt pbody tv
  rw [frame_length]
  simp only [List.length_append]
  omega
theorem pkt_sealed {n p m : Nat} {d : List UInt8} (hn : n ≤ 2147483647) (hp : p ≤ 2147483647) (hm : m ≤ 2147483647) (hd : d.length ≤ 380) : sealedOf 1 (pbody n p m d) = (0, pkt n p m d) := by
  have := pbody_small hn hp hm hd
  unfold sealedOf
  rw [if_neg (by omega)]
  rfl

/-- may these be a part's place, count and length -/
def mayBe (p m n : Nat) : Bool := decide (p < m) && (if p + 1 < m then decide (n = 380) else (m == 1) || (decide (0 < n) && decide ((m - 1) * 380 + n ≤ 8192)))
/-- what a packet says -/
structure Part where
  number : Nat
  place : Nat
  many : Nat
  data : List UInt8
/-- a part out of a frame's body -/
def partIn (b : List UInt8) : Option Part :=
  match gCount 2147483647 b with
  | none => none
  | some (n, t1) => match gCount 22 t1 with
    | none => none
    | some (p, t2) => match gCount 22 t2 with
      | none => none
      | some (m, t3) => match gStr 380 t3 with
        | none => none
        | some (d, t4) => if t4 = [] ∧ mayBe p.toNat m.toNat d.length = true then some ⟨n.toNat, p.toNat, m.toNat, d⟩ else none
/-- what reading a packet comes to: an error's number, or a part -/
def readP (l : List UInt8) : Int × Option Part :=
  if (openedOf l).1 ≠ 0 then ((openedOf l).1, none)
  else if (openedOf l).2.1 ≠ 1 then (4, none)
  else match partIn (openedOf l).2.2 with
    | none => (4, none)
    | some p => (0, some p)
end Go.Proofs.YtfmaocinckeagaaDoor
