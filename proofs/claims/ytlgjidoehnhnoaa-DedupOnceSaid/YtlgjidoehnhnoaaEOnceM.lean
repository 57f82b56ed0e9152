/-
  DedupOnce: requests as records in memory, and what the loop holds. No statement is proved here. No condition.
-/
import Derived.Test.YtlgjidoehnhnoaaEMut
import Derived.Test.YtlgjidoehnhnoaaEOnce
import Derived.Test.YtlgjidoehnhnoaaEPut
namespace Go.Proofs.Ytlgjidoehnhnoaa
open Go.RowKit

/-- a request -/
structure PA where
  client : Int
  again : Int
  late : Bool
  op : PO
  hk : 0 ≤ op.kind ∧ op.kind ≤ 255
def PO.vals (o : PO) : List Value := [.int .u8 o.kind, .string o.key, .string o.val, .string o.old, .bool o.had]
def askR : Rec PA where
  vals a := [.int .i64 a.client, .int .i64 a.again, .bool a.late, .int .u8 a.op.kind, .string a.op.key, .string a.op.val, .string a.op.old, .bool a.op.had]
  size := 8
  len _ := rfl
  one p u hu := by simp at hu; rcases hu with rfl | rfl | rfl | rfl | rfl | rfl | rfl | rfl <;> rfl
def wasR : Rec PW where
  vals x := [.int .i64 x.client, .int .i64 x.id, .int .u8 x.op.kind, .string x.op.key, .string x.op.val, .string x.op.old, .bool x.op.had, .int .u8 x.res.kind, .bool x.res.found, .string x.res.val]
  size := 10
  len _ := rfl
  one p u hu := by simp at hu; rcases hu with rfl | rfl | rfl | rfl | rfl | rfl | rfl | rfl | rfl | rfl <;> rfl
theorem ask_cell {w : World} {N : Nat → Prop} {v : Value} {l : List PA} (h : askR.N w N v l) {i : Nat} {a : PA} (hi : l[i]? = some a) :
    ∃ b o n k, v = .slice (some ⟨b, o, none⟩) n k ∧ N b ∧ b < w.heap.size ∧ w.cell? ⟨b, o + i * 8, none⟩ = some (.int .i64 a.client) ∧ w.cell? ⟨b, o + i * 8 + 1, none⟩ = some (.int .i64 a.again) ∧ w.cell? ⟨b, o + i * 8 + 2, none⟩ = some (.bool a.late) ∧ w.cell? ⟨b, o + i * 8 + 3, none⟩ = some (.int .u8 a.op.kind) ∧ w.cell? ⟨b, o + i * 8 + 4, none⟩ = some (.string a.op.key) ∧ w.cell? ⟨b, o + i * 8 + 5, none⟩ = some (.string a.op.val) ∧ w.cell? ⟨b, o + i * 8 + 6, none⟩ = some (.string a.op.old) ∧ w.cell? ⟨b, o + i * 8 + 7, none⟩ = some (.bool a.op.had) := by
  obtain ⟨b, o, n, k, hv, hb, hs, hc⟩ := h.cell hi
  exact ⟨b, o, n, k, hv, hb, hs, hc 0 _ rfl, hc 1 _ rfl, hc 2 _ rfl, hc 3 _ rfl, hc 4 _ rfl, hc 5 _ rfl, hc 6 _ rfl, hc 7 _ rfl⟩
theorem was_cell {w : World} {N : Nat → Prop} {v : Value} {l : List PW} (h : wasR.N w N v l) {i : Nat} {x : PW} (hi : l[i]? = some x) :
    ∃ b o n k, v = .slice (some ⟨b, o, none⟩) n k ∧ N b ∧ b < w.heap.size ∧ w.cell? ⟨b, o + i * 10, none⟩ = some (.int .i64 x.client) ∧ w.cell? ⟨b, o + i * 10 + 1, none⟩ = some (.int .i64 x.id) ∧ w.cell? ⟨b, o + i * 10 + 2, none⟩ = some (.int .u8 x.op.kind) ∧ w.cell? ⟨b, o + i * 10 + 3, none⟩ = some (.string x.op.key) ∧ w.cell? ⟨b, o + i * 10 + 4, none⟩ = some (.string x.op.val) ∧ w.cell? ⟨b, o + i * 10 + 5, none⟩ = some (.string x.op.old) ∧ w.cell? ⟨b, o + i * 10 + 6, none⟩ = some (.bool x.op.had) ∧ w.cell? ⟨b, o + i * 10 + 7, none⟩ = some (.int .u8 x.res.kind) ∧ w.cell? ⟨b, o + i * 10 + 8, none⟩ = some (.bool x.res.found) ∧ w.cell? ⟨b, o + i * 10 + 9, none⟩ = some (.string x.res.val) := by
  obtain ⟨b, o, n, k, hv, hb, hs, hc⟩ := h.cell hi
  exact ⟨b, o, n, k, hv, hb, hs, hc 0 _ rfl, hc 1 _ rfl, hc 2 _ rfl, hc 3 _ rfl, hc 4 _ rfl, hc 5 _ rfl, hc 6 _ rfl, hc 7 _ rfl, hc 8 _ rfl, hc 9 _ rfl⟩
theorem info_PW : (Try.prog.info? 63).map (fun i => (i.zero, i.size, i.bytes)) = some (some (.agg #[.int .i64 0, .int .i64 0, .int .u8 0, .string ⟨#[]⟩, .string ⟨#[]⟩, .string ⟨#[]⟩, .bool false, .int .u8 0, .bool false, .string ⟨#[]⟩]), 10, 104) := by kernel_rfl
/-- the clients' last IDs -/
def IdsAt (w : World) (G : Nat) (K : List Int) : Prop := w.heap[G]? = some (.cells (K.map (Value.int .i64)).toArray 3 (0, 0))
theorem IdsAt.cell {w : World} {G : Nat} {K : List Int} (h : IdsAt w G K) {c : Nat} {k : Int} (hc : K[c]? = some k) : w.cell? ⟨G, c, none⟩ = some (.int .i64 k) ∧ w.frozen? ⟨G, c, none⟩ = false := by
  refine ⟨?_, (blk_cells h).2 c⟩
  rw [(blk_cells h).1 c, List.getElem?_toArray, List.getElem?_map, hc]
  rfl
theorem IdsAt.lt {w : World} {G : Nat} {K : List Int} (h : IdsAt w G K) : G < w.heap.size := (Array.getElem?_eq_some_iff.1 h).1
theorem IdsAt.set {w : World} {G : Nat} {K : List Int} (h : IdsAt w G K) (c : Nat) (k : Int) : IdsAt (w.setCell ⟨G, c, none⟩ (.int .i64 k)) G (K.set c k) := by
  unfold IdsAt
  rw [setCell_eq_setRow w G c _ 3 (0, 0) (.int .i64 k) h, setRow_heap w G _ _ 3 (0, 0) h]
  congr 2
  apply Array.toList_inj.1
  simp [List.map_set]
/-- what the loop holds in memory -/
def Apart (G : Nat) (s : Value) (b : Nat) : Prop := b ≠ G ∧ s.ownBlock ≠ some b
structure OM (w0 w : World) (G : Nat) (s3 s4 s5 s6 : Value) (A : List PW) (M : List PP) (S : List PL) (K : List Int) : Prop where
  all : wasR.Own w (G + 1) 63 s3 A
  m : pairR.N w (Apart G s3) s4 M
  plain : pairR.N w (Apart G s3) s5 M
  seen : lastR.N w (Apart G s3) s6 S
  ids : IdsAt w G K
  bel : Below w0.heap.size w0 w
  base : w0.heap.size ≤ G
section
variable {w0 w w' : World} {G : Nat} {s3 s4 s5 s6 : Value} {A : List PW} {M : List PP} {S : List PL} {K : List Int}
theorem OM.grow (h : OM w0 w G s3 s4 s5 s6 A M S K) (hb : Below w.heap.size w w') : OM w0 w' G s3 s4 s5 s6 A M S K :=
  ⟨h.all.below hb, h.m.grow hb, h.plain.grow hb, h.seen.grow hb, (hb.block _ h.ids.lt).trans h.ids, h.bel.trans (Joins.below_le hb h.bel.size), h.base⟩
/-- a client's last ID is set -/
theorem OM.set (h : OM w0 w G s3 s4 s5 s6 A M S K) (c : Nat) (k : Int) : OM w0 (w.setCell ⟨G, c, none⟩ (.int .i64 k)) G s3 s4 s5 s6 A M S (K.set c k) := by
  have hf : ∀ b, b ≠ G → (w.setCell ⟨G, c, none⟩ (.int .i64 k)).heap[b]? = w.heap[b]? := fun b hb => Below.heap_setCell w ⟨G, c, none⟩ _ b hb
  have hs : w.heap.size ≤ (w.setCell ⟨G, c, none⟩ (.int .i64 k)).heap.size := by rw [World.size_setCell]; exact Nat.le_refl _
  exact ⟨h.all.same fun b hb _ => hf b (by omega), h.m.kept (fun _ h _ => h) hs fun b hb _ => hf b hb.1, h.plain.kept (fun _ h _ => h) hs fun b hb _ => hf b hb.1, h.seen.kept (fun _ h _ => h) hs fun b hb _ => hf b hb.1, h.ids.set c k, h.bel.setCell (p := ⟨G, c, none⟩) h.base _, h.base⟩
theorem OM.start (hG : w.heap.size ≤ G) (hb : Below w.heap.size w w') (hi : IdsAt w' G [0, 0, 0]) : OM w w' G (.slice none 0 0) (.slice none 0 0) (.slice none 0 0) (.slice none 0 0) [] [] [] [0, 0, 0] :=
  ⟨Rec.Own.none _ _ _ _, Rec.N.nil _ _, Rec.N.nil _ _, Rec.N.nil _ _, hi, hb, hG⟩
/-- new lists, and one more that was done -/
theorem OM.more {w1 w2 : World} {a b p : Value} {M' : List PP} {S' : List PL} (h : OM w0 w G s3 s4 s5 s6 A M S K) (x : PW) {B : Nat} (hB : G < B) (ha : pairR.N w (fun b => B ≤ b) a M') (hp : lastR.N w (fun b => B ≤ b) p S') (hbb : pairR.N w (fun b => B ≤ b) b M') (hs3 : ∀ g, s3.ownBlock = some g → g < B) (hA : A.length ≤ 1000)
    (hw1 : w1.heap = w.heap ∧ w1.os = w.os ∧ w1.tape = w.tape ∧ w1.output = w.output) (hw2 : w2 = w1.alloc (.cells (wasR.vals x).toArray 63)) :
    ∃ s3' w3, (Builtin.append_ #[58, 58] 58 #[s3, .slice (some ⟨w.heap.size, 0, none⟩) 1 1]).run Try.prog w2 = .ok s3' w3 ∧ OM w0 w3 G s3' a b p (A ++ [x]) M' S' K := by
  obtain ⟨iu, hiu, z0, z1, z2⟩ := info_parts info_PW
  have hb1 : Below w.heap.size w w1 := ⟨hw1.2.1, hw1.2.2.1, hw1.2.2.2, by rw [hw1.1]; exact Nat.le_refl _, fun _ _ => by rw [hw1.1]⟩
  have hsz : w1.heap.size = w.heap.size := by rw [hw1.1]
  have hb2 : Below w.heap.size w w2 := by rw [hw2]; exact hb1.alloc (by omega) _
  have h2 := h.grow hb2
  have hx : w2.heap[w.heap.size]? = some (.cells (wasR.vals x).toArray 63 (0, 0)) := by rw [hw2, ← hsz]; exact heap_alloc_new w1 _
  have hrow := Rec.one_row (R := wasR) (N := Any) hx trivial
  have hG := h2.ids.lt
  obtain ⟨s3', w3, hr, ho, hg, hat⟩ := Rec.app (P := Try.prog) (t := 58) Try.underlying58 hiu z0 z1 z2 rfl (by decide) h2.all hrow (by unfold maxLen; simp; omega) (by simp; omega) (by omega)
  have hk : ∀ b, Apart G s3 b → b < w2.heap.size → w3.heap[b]? = w2.heap[b]? := fun b hb hs => hg.block b hs fun e => hb.2 e.symm
  have hin : ∀ b, B ≤ b → b < w.heap.size → Apart G s3 b := fun b hb _ => ⟨by omega, fun e => by have := hs3 b e; omega⟩
  have hout : ∀ b, Apart G s3 b → b < w2.heap.size → Apart G s3' b := fun b hb hs => ⟨hb.1, fun e => by
    rcases hat with hat | hat
    · rw [hat] at e; exact hb.2 e
    · rw [hat] at e
      have := Option.some.inj e
      omega⟩
  have hnoG : ∀ k, s3.ownBlock = some k → G + 1 ≤ k := fun k hk => (h.all.lt k hk).1
  refine ⟨s3', w3, hr, ho, ?_, ?_, ?_, ?_, ?_, h2.base⟩
  · exact ((ha.mono hin).grow hb2).kept hout hg.size hk
  · exact ((hbb.mono hin).grow hb2).kept hout hg.size hk
  · exact ((hp.mono hin).grow hb2).kept hout hg.size hk
  · exact (hg.block G hG (fun e => by have := hnoG G e.symm; omega)).trans h2.ids
  · exact h2.bel.grown hg h2.bel.size fun k hk => by have := hnoG k hk; have := h2.base; omega
end
end Go.Proofs.Ytlgjidoehnhnoaa
