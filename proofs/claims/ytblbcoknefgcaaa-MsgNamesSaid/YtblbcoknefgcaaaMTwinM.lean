/-
  Messages in memory of their own. No statement is proved here. No condition.
-/
import Derived.Test.YtblbcoknefgcaaaMClone
import Derived.Test.YtblbcoknefgcaaaEMut
import Derived.Test.YtblbcoknefgcaaaMSameF
namespace Go.Proofs.Ytblbcoknefgcaaa
open Go.RowKit

theorem lt_of_heap {w : World} {p : Nat} {o : Obj} (h : w.heap[p]? = some o) : p < w.heap.size := (Array.getElem?_eq_some_iff.1 h).1
theorem apart_T {w : World} {a b : Nat} {x y : Array Value} {T U : TypeId} {f g : Nat × Nat} (ha : w.heap[a]? = some (.cells x T f)) (hb : w.heap[b]? = some (.cells y U g)) (h : T ≠ U) : a ≠ b := fun e => by
  subst e
  rw [ha] at hb
  injection hb with hb
  injection hb with _ h2
  exact h h2
section
variable {α : Type} {R : Rec α}
theorem Rec.row_poke {x y : α} {L : List α} {i j : Nat} {u : Value} (hx : L[i]? = some x) (hy : R.vals y = (R.vals x).set j u) (hj : j < R.size) : R.row (L.set i y) = (R.row L).set (i * R.size + j) u := by
  induction L generalizing i with
  | nil => simp at hx
  | cons a L ih =>
    cases i with
    | zero =>
      rw [List.getElem?_cons_zero] at hx
      have hx := Option.some.inj hx
      subst hx
      rw [List.set_cons_zero, R.row_cons, R.row_cons, hy, Nat.zero_mul, Nat.zero_add, List.set_append_left _ _ (by rw [R.len]; exact hj)]
    | succ i =>
      rw [List.getElem?_cons_succ] at hx
      rw [List.set_cons_succ, R.row_cons, R.row_cons, ih hx, List.set_append_right _ _ (by rw [R.len, Nat.succ_mul]; omega)]
      congr 2
      rw [R.len, Nat.succ_mul]
      omega
/-- one cell of an owned row is written -/
theorem rec_poke {w : World} {B : Nat} {T : TypeId} {v : Value} {L : List α} {x y : α} {i j : Nat} {u : Value} (h : R.Own w B T v L) (hx : L[i]? = some x) (hy : R.vals y = (R.vals x).set j u) (hj : j < R.size) :
    ∃ g c, v = .slice (some ⟨g, 0, none⟩) L.length c ∧ B ≤ g ∧ g < w.heap.size ∧ (∀ q t, (R.vals x)[q]? = some t → w.cell? ⟨g, i * R.size + q, none⟩ = some t) ∧ (∀ q, w.frozen? ⟨g, q, none⟩ = false) ∧ R.Own (w.setCell ⟨g, i * R.size + j, none⟩ u) B T v (L.set i y) := by
  rcases own_opened h with ⟨-, rfl⟩ | ⟨g, cap, rest, rfl, hb, hg, hn, hc, hr⟩
  · simp at hx
  · have hil := (List.getElem?_eq_some_iff.1 hx).1
    have hm := Nat.mul_le_mul_right R.size (show i + 1 ≤ L.length by omega)
    rw [Nat.succ_mul] at hm
    refine ⟨g, cap, rfl, hb, lt_of_heap hg, fun q t ht => ?_, (blk_cells hg).2, ?_⟩
    · rw [(blk_cells hg).1, List.getElem?_toArray, List.getElem?_append_left]
      · exact R.row_get hx ht
      · have hq := (List.getElem?_eq_some_iff.1 ht).1
        rw [R.len] at hq
        rw [R.row_length]
        omega
    · have e : (w.setCell ⟨g, i * R.size + j, none⟩ u).heap[g]? = some (.cells (R.row (L.set i y) ++ rest).toArray T (0, 0)) := by
        rw [Joins.block_setCell hg _, Rec.row_poke hx hy hj]
        have hlen : i * R.size + j < (R.row L).length := by
          rw [R.row_length]
          omega
        congr 2
        rw [List.setIfInBounds_toArray, List.set_append_left _ _ hlen]
      have := Rec.own_closed (R := R) (B := B) (l := L.set i y) (rest := rest) (cap := cap) hb e (by simpa using hn) hc (by simpa using hr)
      simpa using this
end
/-- a raw entry against an entry -/
structure EntIs (r : RE) (e : EN) : Prop where
  term : r.term = e.term
  kind : r.kind = e.kind
  data : r.data = e.data
  ln : r.ln = e.list.length
/-- entries of one's own -/
structure EntO (w : World) (B : Nat) (v : Value) (rs : List RE) (l : List EN) : Prop where
  row : entR.Own w B 79 v rs
  len : rs.length = l.length
  ent : ∀ (i : Nat) (r : RE) (e : EN), rs[i]? = some r → l[i]? = some e → EntIs r e ∧ inR.Own w B 3 r.lv e.list
/-- a message's lists of one's own -/
structure MsgO (w : World) (B : Nat) (m : MG) (vE vL vP vX : Value) : Prop where
  e : ∃ rs, EntO w B vE rs m.entries
  l : inR.Own w B 3 vL m.list
  p : pairR.Own w B 67 vP m.pairs
  x : lastR.Own w B 88 vX m.lasts
theorem EntO.n {w : World} {B : Nat} {v : Value} {rs : List RE} {l : List EN} (h : EntO w B v rs l) : EntN w Any v l :=
  ⟨rs, h.row.n.any, h.len, fun i r e hr he => by
    obtain ⟨h1, h2⟩ := h.ent i r e hr he
    exact ⟨h1.term, h1.kind, h1.data, h1.ln, h2.n.any⟩⟩
theorem MsgO.n {w : World} {B : Nat} {m : MG} {vE vL vP vX : Value} (h : MsgO w B m vE vL vP vX) : MsgL w Any m vE vL vP vX := by
  obtain ⟨rs, he⟩ := h.e
  exact ⟨he.n, h.l.n.any, h.p.n.any, h.x.n.any⟩
theorem EntO.below {w w' : World} {B : Nat} {v : Value} {rs : List RE} {l : List EN} (h : EntO w B v rs l) (hb : Below w.heap.size w w') : EntO w' B v rs l :=
  ⟨h.row.below hb, h.len, fun i r e hr he => ⟨(h.ent i r e hr he).1, (h.ent i r e hr he).2.below hb⟩⟩
theorem MsgO.below {w w' : World} {B : Nat} {m : MG} {vE vL vP vX : Value} (h : MsgO w B m vE vL vP vX) (hb : Below w.heap.size w w') : MsgO w' B m vE vL vP vX := by
  obtain ⟨rs, he⟩ := h.e
  exact ⟨⟨rs, he.below hb⟩, h.l.below hb, h.p.below hb, h.x.below hb⟩
/-- how long a message's lists are at most -/
structure MsgS (m : MG) : Prop where
  e : m.entries.length ≤ 2513169434916
  es : ∀ e ∈ m.entries, e.list.length ≤ 17592186044416
  l : m.list.length ≤ 17592186044416
  p : m.pairs.length ≤ 4398046511104
  x : m.lasts.length ≤ 3518437208883
def zC : Array Value := #[.int .u8 0, .int .i64 0, .int .i64 0, .int .i64 0, .int .i64 0, .int .i64 0, .int .i64 0, .int .u8 0, .string ⟨#[]⟩, .string ⟨#[]⟩, .string ⟨#[]⟩, .bool false, .int .i64 0, .int .u8 0, .bool false, .string ⟨#[]⟩, .int .i64 0, .int .i64 0, .int .i64 0, .int .i64 0, .int .i64 0, .bool false, .slice none 0 0, .slice none 0 0, .string ⟨#[]⟩, .int .i64 0, .bool false, .slice none 0 0, .slice none 0 0, .int .u8 0, .int .i64 0, .int .i64 0, .int .i64 0]
theorem zero_msg (W : World) : (zeroValue 38).run Try.prog W = .ok (.agg zC) W := by kernel_rfl
theorem msg_size : (Try.prog.info? 38).map (·.size) = some 33 := by kernel_rfl
/-- the four cells of a message that are written -/
theorem set_e (m : MG) (vE vL vP vX u : Value) : (m.cells vE vL vP vX).setIfInBounds 22 u = m.cells u vL vP vX := rfl
theorem set_l (m : MG) (vE vL vP vX u : Value) : (m.cells vE vL vP vX).setIfInBounds 23 u = m.cells vE u vP vX := rfl
theorem set_p (m : MG) (vE vL vP vX u : Value) : (m.cells vE vL vP vX).setIfInBounds 27 u = m.cells vE vL u vX := rfl
theorem set_x (m : MG) (vE vL vP vX u : Value) : (m.cells vE vL vP vX).setIfInBounds 28 u = m.cells vE vL vP u := rfl
theorem cells_one (m : MG) (A1 A2 A3 A4 : Option Addr) (n1 n2 n3 n4 c1 c2 c3 c4 : Nat) : (m.cells (.slice A1 n1 c1) (.slice A2 n2 c2) (.slice A3 n3 c3) (.slice A4 n4 c4)).all (·.oneCell') = true := by
  unfold MG.cells
  simp [Value.oneCell']
theorem cells_size (m : MG) (vE vL vP vX : Value) : (m.cells vE vL vP vX).size = 33 := rfl
theorem msg_sized (m : MG) (vE vL vP vX : Value) : (Try.prog.info? 38).map (·.size) = some (m.cells vE vL vP vX).size := msg_size
/-- what the loop of a twin holds: the first i have lists of their own -/
structure TwL (w : World) (B : Nat) (v : Value) (rs : List RE) (l : List EN) (i : Nat) : Prop where
  row : entR.Own w B 79 v rs
  len : rs.length = l.length
  own : ∀ (j : Nat) (r : RE) (e : EN), rs[j]? = some r → l[j]? = some e → EntIs r e ∧ (j < i → inR.Own w B 3 r.lv e.list) ∧ (i ≤ j → inR.N w (fun b => b < B) r.lv e.list)
theorem TwL.below {w w' : World} {B : Nat} {v : Value} {rs : List RE} {l : List EN} {i : Nat} (h : TwL w B v rs l i) (hb : Below w.heap.size w w') : TwL w' B v rs l i :=
  ⟨h.row.below hb, h.len, fun j r e hr he => ⟨(h.own j r e hr he).1, fun hj => ((h.own j r e hr he).2.1 hj).below hb, fun hj => ((h.own j r e hr he).2.2 hj).grow hb⟩⟩
/-- the next one's list is written -/
theorem TwL.step {w : World} {B : Nat} {v u : Value} {rs : List RE} {l : List EN} {i : Nat} {r : RE} {e : EN} {A : Option Addr} {c : Nat} (h : TwL w B v rs l i) (hr : rs[i]? = some r) (he : l[i]? = some e) (hu : u = .slice A e.list.length c) (ho : inR.Own w B 3 u e.list) :
    ∃ g c', v = .slice (some ⟨g, 0, none⟩) rs.length c' ∧ B ≤ g ∧ g < w.heap.size ∧ w.cell? ⟨g, i * 4 + 3, none⟩ = some (.slice r.la r.ln r.lc) ∧ (∀ q, w.frozen? ⟨g, q, none⟩ = false) ∧ TwL (w.setCell ⟨g, i * 4 + 3, none⟩ u) B v (rs.set i { r with la := A, ln := e.list.length, lc := c }) l (i + 1) := by
  obtain ⟨g, c', hv, hB, hg, hc, hf, hn⟩ := rec_poke (y := { r with la := A, ln := e.list.length, lc := c }) (j := 3) (u := u) h.row hr (by rw [hu]; rfl) (by decide)
  have h4 : entR.size = 4 := rfl
  rw [h4] at hc hn
  have far : ∀ b, b ≠ g → (w.setCell ⟨g, i * 4 + 3, none⟩ u).heap[b]? = w.heap[b]? := fun b hb => Below.heap_setCell w ⟨g, i * 4 + 3, none⟩ u b hb
  obtain ⟨cur, hcur⟩ := row_type h.row (p := g) (by rw [hv]; rfl)
  have oth : ∀ (x : Value) (L : List Int), inR.Own w B 3 x L → inR.Own (w.setCell ⟨g, i * 4 + 3, none⟩ u) B 3 x L := fun x L hx => row_same hx fun b hb => far b fun e => by
    subst e
    obtain ⟨cur2, hc2⟩ := row_type hx hb
    exact apart_T hcur hc2 (by decide) rfl
  refine ⟨g, c', hv, hB, hg, hc 3 _ rfl, hf, hn, by simpa using h.len, fun j r' e' hr' he' => ?_⟩
  by_cases hji : j = i
  · subst hji
    have hil := (List.getElem?_eq_some_iff.1 hr).1
    rw [List.getElem?_set_self hil] at hr'
    have hr' := Option.some.inj hr'
    have he' := Option.some.inj (he'.symm.trans he)
    subst he'
    have hi := (h.own j r e' hr he).1
    rw [← hr']
    refine ⟨⟨hi.term, hi.kind, hi.data, rfl⟩, fun _ => ?_, fun hj => by omega⟩
    show inR.Own _ B 3 (.slice A e'.list.length c) _
    rw [← hu]
    exact oth _ _ ho
  · rw [List.getElem?_set_ne (Ne.symm hji)] at hr'
    obtain ⟨h1, h2, h3⟩ := h.own j r' e' hr' he'
    refine ⟨h1, fun hj => oth _ _ (h2 (by omega)), fun hj => ?_⟩
    refine (h3 (by omega)).kept (fun _ h => fun _ => h) (by simp [World.setCell]) fun b hb _ => far b (by omega)
/-- a message's block is written: rows of other types stay -/
theorem own_set {α : Type} {R : Rec α} {w w' : World} {B p : Nat} {T : TypeId} {v : Value} {l : List α} {cs : Array Value} (h : R.Own w B T v l) (hp : w.heap[p]? = some (.cells cs 38 (0, 0))) (hT : T ≠ 38) (far : ∀ b, b ≠ p → w'.heap[b]? = w.heap[b]?) : R.Own w' B T v l :=
  row_same h fun b hb => far b fun e => by
    subst e
    obtain ⟨cur, hc⟩ := row_type h hb
    exact apart_T hc hp hT rfl
theorem EntO.set {w w' : World} {B p : Nat} {v : Value} {rs : List RE} {l : List EN} {cs : Array Value} (h : EntO w B v rs l) (hp : w.heap[p]? = some (.cells cs 38 (0, 0))) (far : ∀ b, b ≠ p → w'.heap[b]? = w.heap[b]?) : EntO w' B v rs l :=
  ⟨own_set h.row hp (by decide) far, h.len, fun i r e hr he => ⟨(h.ent i r e hr he).1, own_set (h.ent i r e hr he).2 hp (by decide) far⟩⟩
end Go.Proofs.Ytblbcoknefgcaaa
