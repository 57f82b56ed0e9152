/-
  Entries take the place of all from a place on: the program's turn. No statement is proved here. No condition.
-/
import Derived.Test.YtackfigkhjdidaaLPart
import Derived.Test.YtackfigkhjdidaaLRead
namespace Go.Proofs.Ytackfigkhjdidaa
open Go.RowKit

/-- what a log's call may turn: the log's block, and its row's -/
structure Turned (p : Nat) (v : Value) (w w' : World) : Prop where
  os : w'.os = w.os
  tape : w'.tape = w.tape
  output : w'.output = w.output
  size : w.heap.size ≤ w'.heap.size
  block : ∀ b, b < w.heap.size → b ≠ p → v.ownBlock ≠ some b → w'.heap[b]? = w.heap[b]?
theorem Turned.of_below {p : Nat} {v : Value} {w w' : World} (h : Below w.heap.size w w') : Turned p v w w' := ⟨h.os, h.tape, h.output, h.size, fun b hb _ _ => h.block b hb⟩
theorem Turned.below {p B : Nat} {v : Value} {g : LG} {w w' : World} (h : Turned p v w w') (hl : LogAt w B p v g) (hB : B ≤ w.heap.size) : Below B w w' := ⟨h.os, h.tape, h.output, h.size, fun b hb => h.block b (by omega) (by have := hl.pB; omega) fun e => by
  obtain ⟨rs, he⟩ := hl.ent
  have := (he.row.lt b e).1
  omega⟩
theorem Turned.pre {p : Nat} {v : Value} {w w1 w' : World} (h : Below w.heap.size w w1) (k : Turned p v w1 w') : Turned p v w w' :=
  ⟨k.os.trans h.os, k.tape.trans h.tape, k.output.trans h.output, Nat.le_trans h.size k.size, fun b hb hp hv => (k.block b (Nat.lt_of_lt_of_le hb h.size) hp hv).trans (h.block b hb)⟩
/-- clear, its run known -/
theorem wpList_clr {P : Program} {w : World} {ops : Array Oper} {rest : List Oper} {o : Oper} {a : Act} {Q : Exit → Act → World → Prop} (hgd : o.guard = none) (d : Operand) (t : TypeId)
    (ho : o.op = .call { callee := .builtin .clear, args := #[d], argTypes := #[t] }) (v : Value) (hd : a.eval d = v) {v' : Value} {w' : World}
    (hr : (Builtin.clear_ #[t] o.type #[v]).run P w = .ok v' w') (h : wpList P ops Q rest (a.put o.dst v') w') : wpList P ops Q (o :: rest) a w := by
  refine wpList_plain hgd fun K hK => ?_
  unfold Oper.wp execOp
  simp only [ho, resolve, invoke, builtin, Sem.run_bind, Sem.run_pure, Result.andThen_ok, List.map_toArray, List.map_cons, List.map_nil, hd, hr]
  exact hK _ _ h
theorem EntO.slice {w : World} {B : Nat} {v : Value} {rs : List RE} {l : List EN} (h : EntO w B v rs l) : ∃ A c, v = .slice A l.length c := by
  obtain ⟨A, c, hv⟩ := h.row.slice
  exact ⟨A, c, by rw [hv, h.len]⟩
/-- the lists of entries stay where the row alone is turned -/
theorem list_far {w w' : World} {B g : Nat} {x : Value} {L : List Int} {C : Array Value} (hx : inR.Own w B 3 x L) (hg : w.heap[g]? = some (.cells C 50 (0, 0))) (hf : ∀ b, b ≠ g → b < w.heap.size → w'.heap[b]? = w.heap[b]?) : inR.Own w' B 3 x L :=
  row_same hx fun b hb => hf b (fun e => by
    subst e
    obtain ⟨cur, hc⟩ := row_type hx hb
    exact apart_T hc hg (by decide) rfl) (hx.lt b hb).2
set_option maxRecDepth 100000 in
/-- a row's end cleared -/
theorem ents_cleared (w : World) {B g cap k : Nat} {rs : List RE} {l : List EN} (h : EntO w B (.slice (some ⟨g, 0, none⟩) l.length cap) rs l) (hk : k ≤ l.length) :
    ∃ w1, (Builtin.clear_ #[31] 0 #[.slice (atFrom (some ⟨g, 0, none⟩) cap k 4) (l.length - k) (cap - k)]).run Try.prog w = .ok (.tuple #[]) w1 ∧ EntO w1 B (.slice (some ⟨g, 0, none⟩) k cap) (rs.take k) (l.take k) ∧ (∀ b, b ≠ g → w1.heap[b]? = w.heap[b]?) ∧ w1.heap.size = w.heap.size ∧ Below B w w1 := by
  obtain ⟨iu, hiu, z0, z1, z2⟩ := info_parts info_cEntry
  have hrl := h.len
  rcases own_opened h.row with ⟨hv, -⟩ | ⟨g', cap', rest, hv, hb, hg, hn, hc, hr⟩
  · cases hv
  · injection hv with v1 v2 v3
    injection v1 with v1
    injection v1 with v1
    subst v1 v3
    have hrow : (entR.row (rs.take k)).length = k * 4 := by rw [entR.row_length, List.length_take, hrl, Nat.min_eq_left hk]; rfl
    have h4 : entR.size = 4 := rfl
    rw [h4] at hr
    have hrk : (rs.take k).length = k := by rw [List.length_take, hrl, Nat.min_eq_left hk]
    have hent : ∀ (w1 : World), (∀ b, b ≠ g → w1.heap[b]? = w.heap[b]?) → entR.Own w1 B 50 (.slice (some ⟨g, 0, none⟩) k cap) (rs.take k) → EntO w1 B (.slice (some ⟨g, 0, none⟩) k cap) (rs.take k) (l.take k) := fun w1 hf ho =>
      ⟨ho, by rw [List.length_take, List.length_take, hrl], fun i r e hr he => by
        rw [List.getElem?_take] at hr he
        split at hr
        · rename_i hi
          rw [if_pos hi] at he
          have := h.ent i r e hr he
          exact ⟨this.1, list_far this.2 hg fun b hb _ => hf b hb⟩
        · cases hr⟩
    by_cases hm : l.length - k = 0
    · refine ⟨w, ?_, hent w (fun _ _ => rfl) ?_, fun _ _ => rfl, rfl, Below.refl _ _⟩
      · rw [hm]
        simp [Builtin.clear_, run_underlying Try.underlying31]
        cases hA : atFrom (some ⟨g, 0, none⟩) cap k 4 <;> simp
      · have hkl : k = rs.length := by omega
        have := Rec.own_closed (R := entR) (B := B) (l := rs) (rest := rest) (cap := cap) hb hg hn hc hr
        rw [hkl, List.take_length]
        exact this
    · have hne : ¬ cap = k := by omega
      have hA : atFrom (some ⟨g, 0, none⟩) cap k 4 = some ⟨g, k * 4, none⟩ := by unfold atFrom; rw [if_neg hne]; show some ((⟨g, 0, none⟩ : Addr).add (k * 4)) = _; rw [plus_zero, Nat.zero_add]
      rw [hA]
      have hg2 : w.heap[g]? = some (.cells (entR.row (rs.take k) ++ entR.row (rs.drop k) ++ rest).toArray 50 (0, 0)) := by rw [← entR.row_take_drop]; exact hg
      have hzc : (Value.agg #[.int .i64 0, .int .u8 0, .string ⟨#[]⟩, .slice none 0 0]).cells.size = 4 := rfl
      have hold : (entR.row (rs.drop k)).length = (l.length - k) * (Value.agg #[.int .i64 0, .int .u8 0, .string ⟨#[]⟩, .slice none 0 0]).cells.size := by rw [entR.row_length, List.length_drop, hrl]; rfl
      have hcl := run_clearK (P := Try.prog) 31 0 50 (g := g) (o := k * 4) (m := l.length - k) (c := cap - k) (T := 50) (pre := entR.row (rs.take k)) (old := entR.row (rs.drop k)) (post := rest) Try.underlying31 hiu z0 (by omega) hg2 hrow hold (by simp [Value.cells, Value.oneCell'])
      have hfar : ∀ (cs : Array Value) b, b ≠ g → (w.setRow g cs).heap[b]? = w.heap[b]? := fun cs b hb => setRow_other w g b cs hb
      refine ⟨_, hcl, hent _ (hfar _) ?_, hfar _, by simp, below_setRow (Below.refl _ _) hb _⟩
      have e := setRow_heap w g _ (entR.row (rs.take k) ++ (Builtin.zeroCells (Value.agg #[.int .i64 0, .int .u8 0, .string ⟨#[]⟩, .slice none 0 0]).cells (l.length - k)).toList ++ rest).toArray 50 _ hg2
      rw [List.append_assoc] at e
      have hz : ((Builtin.zeroCells (Value.agg #[.int .i64 0, .int .u8 0, .string ⟨#[]⟩, .slice none 0 0]).cells (l.length - k)).toList).length = (l.length - k) * 4 := size_zeroCells _ _
      have := Rec.own_closed (R := entR) (B := B) (l := rs.take k) (rest := (Builtin.zeroCells (Value.agg #[.int .i64 0, .int .u8 0, .string ⟨#[]⟩, .slice none 0 0]).cells (l.length - k)).toList ++ rest) (cap := cap) hb e (by omega) hc (by rw [List.length_append, hz, hrk, h4]; omega)
      rw [hrk] at this
      rw [List.append_assoc]
      exact this
/-- entries of one's own behind others -/
theorem EntO.app {w w' : World} {B B2 : Nat} {v v2 v' : Value} {rs rs2 : List RE} {l l2 : List EN} (h : EntO w B v rs l) (h2 : EntO w B2 v2 rs2 l2) (hB : B ≤ B2) (hrow : entR.Own w' B 50 v' (rs ++ rs2)) (hk : ∀ b, b < w.heap.size → v.ownBlock ≠ some b → w'.heap[b]? = w.heap[b]?) : EntO w' B v' (rs ++ rs2) (l ++ l2) := by
  have oth : ∀ (C : Nat) (x : Value) (L : List Int), inR.Own w C 3 x L → inR.Own w' C 3 x L := fun C x L hx => row_same hx fun b hb => hk b (hx.lt b hb).2 fun e2 => by
    obtain ⟨c1, h1⟩ := row_type hx hb
    obtain ⟨c2, h2⟩ := row_type h.row e2
    exact apart_T h1 h2 (by decide) rfl
  refine ⟨hrow, by rw [List.length_append, List.length_append, h.len, h2.len], fun j r e hr he => ?_⟩
  by_cases hj : j < rs.length
  · rw [List.getElem?_append_left hj] at hr
    rw [List.getElem?_append_left (by rw [← h.len]; exact hj)] at he
    have := h.ent j r e hr he
    exact ⟨this.1, oth _ _ _ this.2⟩
  · rw [List.getElem?_append_right (by omega)] at hr
    rw [List.getElem?_append_right (by rw [← h.len]; omega), ← h.len] at he
    have := h2.ent _ r e hr he
    exact ⟨this.1, own_base (oth _ _ _ this.2) hB⟩
end Go.Proofs.Ytackfigkhjdidaa
