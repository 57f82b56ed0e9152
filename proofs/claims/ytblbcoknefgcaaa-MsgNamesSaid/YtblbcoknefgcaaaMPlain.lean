/-
  Messages, plainly, and how they lie in memory. No statement is proved here. No condition.
-/
import Derived.Test.YtblbcoknefgcaaaRecs
namespace Go.Proofs.Ytblbcoknefgcaaa
open Go.RowKit

/-- a pair -/
structure PP where
  key : ByteArray
  val : ByteArray
/-- a result -/
structure PR where
  kind : Int
  found : Bool
  val : ByteArray
/-- a client's last write -/
structure PL where
  client : Int
  id : Int
  res : PR
/-- an operation -/
structure PO where
  kind : Int
  key : ByteArray
  val : ByteArray
  old : ByteArray
  had : Bool
/-- a log's entry -/
structure EN where
  term : Int
  kind : Int
  data : ByteArray
  list : List Int
/-- a command -/
structure CM where
  kind : Int
  shard : Int
  store : Int
  epoch : Int
/-- a message -/
structure MG where
  kind : Int
  shard : Int
  epoch : Int
  owner : Int
  req : Int
  client : Int
  id : Int
  op : PO
  code : Int
  res : PR
  grant : Int
  term : Int
  index : Int
  prev : Int
  commit : Int
  granted : Bool
  entries : List EN
  list : List Int
  state : ByteArray
  part : Int
  last : Bool
  pairs : List PP
  lasts : List PL
  cmd : CM
/-- lists held against each other -/
def sameL {α : Type} (f : α → α → Bool) : List α → List α → Bool
  | [], [] => true
  | a :: l, b :: m => f a b && sameL f l m
  | _, _ => false
theorem sameL_len {α : Type} {f : α → α → Bool} : ∀ {l m : List α}, l.length ≠ m.length → sameL f l m = false
  | [], [], h => absurd rfl h
  | a :: l, b :: m, h => by
    unfold sameL
    rw [sameL_len (l := l) (m := m) (fun e => h (by simp [e])), Bool.and_false]
  | [], b :: m, _ => rfl
  | a :: l, [], _ => rfl
theorem sameL_at {α : Type} {f : α → α → Bool} : ∀ {l m : List α} {i : Nat} {x y : α}, l[i]? = some x → m[i]? = some y → f x y = false → sameL f l m = false
  | [], [], i, x, y, h, _, _ => by simp at h
  | a :: l, b :: m, 0, x, y, h, k, hf => by
    rw [List.getElem?_cons_zero] at h k
    injection h with h
    injection k with k
    unfold sameL
    rw [h, k, hf, Bool.false_and]
  | a :: l, b :: m, i + 1, x, y, h, k, hf => by
    rw [List.getElem?_cons_succ] at h k
    unfold sameL
    rw [sameL_at h k hf, Bool.and_false]
  | [], b :: m, i, x, y, _, _, _ => rfl
  | a :: l, [], i, x, y, _, _, _ => rfl
theorem sameL_all {α : Type} {f : α → α → Bool} : ∀ {l m : List α}, l.length = m.length → (∀ (i : Nat) (x y : α), l[i]? = some x → m[i]? = some y → f x y = true) → sameL f l m = true
  | [], [], _, _ => rfl
  | a :: l, b :: m, h, k => by
    unfold sameL
    rw [k 0 a b rfl rfl, Bool.true_and]
    exact sameL_all (by simpa using h) fun i x y hx hy => k (i + 1) x y hx hy
  | [], b :: m, h, _ => by simp at h
  | a :: l, [], h, _ => by simp at h
def iSame (x y : Int) : Bool := x == y
def PP.same (a b : PP) : Bool := a.key.toList == b.key.toList && (a.val.toList == b.val.toList && true)
def PR.same (a b : PR) : Bool := a.kind == b.kind && (a.found == b.found && (a.val.toList == b.val.toList && true))
def PL.same (a b : PL) : Bool := a.client == b.client && (a.id == b.id && (a.res.same b.res && true))
def PO.same (a b : PO) : Bool := a.kind == b.kind && (a.key.toList == b.key.toList && (a.val.toList == b.val.toList && (a.old.toList == b.old.toList && (a.had == b.had && true))))
def CM.same (a b : CM) : Bool := a.kind == b.kind && (a.shard == b.shard && (a.store == b.store && (a.epoch == b.epoch && true)))
def EN.same (a b : EN) : Bool := a.term == b.term && (a.kind == b.kind && (a.data.toList == b.data.toList && sameL iSame a.list b.list))
/-- messages held against each other, in the order of their fields -/
def MG.same (a b : MG) : Bool :=
  a.kind == b.kind && (a.shard == b.shard && (a.epoch == b.epoch && (a.owner == b.owner && (a.req == b.req && (a.client == b.client && (a.id == b.id && (a.op.same b.op && (a.code == b.code && (a.res.same b.res && (a.grant == b.grant && (a.term == b.term && (a.index == b.index && (a.prev == b.prev && (a.commit == b.commit && (a.granted == b.granted && (sameL EN.same a.entries b.entries && (sameL iSame a.list b.list && (a.state.toList == b.state.toList && (a.part == b.part && (a.last == b.last && (sameL PP.same a.pairs b.pairs && (sameL PL.same a.lasts b.lasts && a.cmd.same b.cmd))))))))))))))))))))))
/-- numbers, pairs, last writes, and entries as their cells have them -/
def inR : Rec Int where
  vals n := [.int .i64 n]
  size := 1
  len _ := rfl
  one p u hu := by simp at hu; rw [hu]; rfl
def pairR : Rec PP where
  vals p := [.string p.key, .string p.val]
  size := 2
  len _ := rfl
  one p u hu := by simp at hu; rcases hu with rfl | rfl <;> rfl
def lastR : Rec PL where
  vals l := [.int .i64 l.client, .int .i64 l.id, .int .u8 l.res.kind, .bool l.res.found, .string l.res.val]
  size := 5
  len _ := rfl
  one p u hu := by simp at hu; rcases hu with rfl | rfl | rfl | rfl | rfl <;> rfl
structure RE where
  term : Int
  kind : Int
  data : ByteArray
  la : Option Addr
  ln : Nat
  lc : Nat
def RE.lv (r : RE) : Value := .slice r.la r.ln r.lc
def entR : Rec RE where
  vals r := [.int .i64 r.term, .int .u8 r.kind, .string r.data, .slice r.la r.ln r.lc]
  size := 4
  len _ := rfl
  one p u hu := by simp at hu; rcases hu with rfl | rfl | rfl | rfl <;> rfl
/-- an entry's cells against the entry -/
structure EntAt (w : World) (N : Nat → Prop) (r : RE) (e : EN) : Prop where
  term : r.term = e.term
  kind : r.kind = e.kind
  data : r.data = e.data
  ln : r.ln = e.list.length
  list : inR.N w N (.slice r.la r.ln r.lc) e.list
/-- a slice reads as entries -/
def EntN (w : World) (N : Nat → Prop) (v : Value) (l : List EN) : Prop := ∃ rs : List RE, entR.N w N v rs ∧ rs.length = l.length ∧ ∀ (i : Nat) (r : RE) (e : EN), rs[i]? = some r → l[i]? = some e → EntAt w N r e
/-- a message's cells -/
def MG.cells (m : MG) (vE vL vP vX : Value) : Array Value :=
  #[.int .u8 m.kind, .int .i64 m.shard, .int .i64 m.epoch, .int .i64 m.owner, .int .i64 m.req, .int .i64 m.client, .int .i64 m.id,
    .int .u8 m.op.kind, .string m.op.key, .string m.op.val, .string m.op.old, .bool m.op.had,
    .int .i64 m.code, .int .u8 m.res.kind, .bool m.res.found, .string m.res.val,
    .int .i64 m.grant, .int .i64 m.term, .int .i64 m.index, .int .i64 m.prev, .int .i64 m.commit, .bool m.granted,
    vE, vL, .string m.state, .int .i64 m.part, .bool m.last, vP, vX,
    .int .u8 m.cmd.kind, .int .i64 m.cmd.shard, .int .i64 m.cmd.store, .int .i64 m.cmd.epoch]
/-- the lists of a message in memory -/
structure MsgL (w : World) (N : Nat → Prop) (m : MG) (vE vL vP vX : Value) : Prop where
  e : EntN w N vE m.entries
  l : inR.N w N vL m.list
  p : pairR.N w N vP m.pairs
  x : lastR.N w N vX m.lasts
theorem EntAt.grow {w w' : World} {N : Nat → Prop} {r : RE} {e : EN} (h : EntAt w N r e) (hb : Below w.heap.size w w') : EntAt w' N r e := { h with list := h.list.grow hb }
theorem EntN.grow {w w' : World} {N : Nat → Prop} {v : Value} {l : List EN} (h : EntN w N v l) (hb : Below w.heap.size w w') : EntN w' N v l := by
  obtain ⟨rs, h1, h2, h3⟩ := h
  exact ⟨rs, h1.grow hb, h2, fun i r e hr he => (h3 i r e hr he).grow hb⟩
theorem MsgL.grow {w w' : World} {N : Nat → Prop} {m : MG} {vE vL vP vX : Value} (h : MsgL w N m vE vL vP vX) (hb : Below w.heap.size w w') : MsgL w' N m vE vL vP vX :=
  ⟨h.e.grow hb, h.l.grow hb, h.p.grow hb, h.x.grow hb⟩
theorem EntN.slice {w : World} {N : Nat → Prop} {v : Value} {l : List EN} (h : EntN w N v l) : ∃ A c, v = .slice A l.length c ∧ l.length ≤ c ∧ c ≤ maxLen := by
  obtain ⟨rs, h1, h2, -⟩ := h
  obtain ⟨A, c, hv, k1, k2⟩ := h1.slice
  rw [h2] at hv k1
  exact ⟨A, c, hv, k1, k2⟩
theorem EntN.cell {w : World} {N : Nat → Prop} {v : Value} {l : List EN} (h : EntN w N v l) {i : Nat} {e : EN} (hi : l[i]? = some e) :
    ∃ b o n k A c, v = .slice (some ⟨b, o, none⟩) n k ∧ N b ∧ b < w.heap.size ∧ inR.N w N (.slice A e.list.length c) e.list ∧
      w.cell? ⟨b, o + i * 4, none⟩ = some (.int .i64 e.term) ∧ w.cell? ⟨b, o + i * 4 + 1, none⟩ = some (.int .u8 e.kind) ∧ w.cell? ⟨b, o + i * 4 + 2, none⟩ = some (.string e.data) ∧ w.cell? ⟨b, o + i * 4 + 3, none⟩ = some (.slice A e.list.length c) := by
  obtain ⟨rs, h1, h2, h3⟩ := h
  obtain ⟨r, hr⟩ : ∃ r, rs[i]? = some r := ⟨_, List.getElem?_eq_getElem (by rw [h2]; exact (List.getElem?_eq_some_iff.1 hi).1)⟩
  obtain ⟨b, o, n, k, hv, hN, hb, hc⟩ := h1.cell hr
  have ha := h3 i r e hr hi
  refine ⟨b, o, n, k, r.la, r.lc, hv, hN, hb, by have := ha.list; rw [ha.ln] at this; exact this, ?_, ?_, ?_, ?_⟩
  · rw [← ha.term]; exact hc 0 _ rfl
  · rw [← ha.kind]; exact hc 1 _ rfl
  · rw [← ha.data]; exact hc 2 _ rfl
  · rw [← ha.ln]; exact hc 3 _ rfl
end Go.Proofs.Ytblbcoknefgcaaa
