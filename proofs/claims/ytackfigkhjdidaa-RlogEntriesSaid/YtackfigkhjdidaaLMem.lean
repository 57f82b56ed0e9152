/-
  Entries in memory of one's own: what the texts of this stage share. No statement is proved here. No condition.
-/
import Derived.Test.YtackfigkhjdidaaMPlain
import Derived.Test.YtackfigkhjdidaaEMut
import Derived.Lib.SliceRun
namespace Go.Proofs.Ytackfigkhjdidaa
open Go.RowKit

theorem info_parts {P : Program} {T : TypeId} {z : Value} {s b : Nat} (h : (P.info? T).map (fun i => (i.zero, i.size, i.bytes)) = some (some z, s, b)) : ∃ i, P.info? T = some i ∧ i.zero = some z ∧ i.size = s ∧ i.bytes = b := by
  cases hi : P.info? T with
  | none => rw [hi] at h; cases h
  | some i =>
    rw [hi] at h
    injection h with h
    injection h with h1 h2
    injection h2 with h2 h3
    exact ⟨i, rfl, h1, h2, h3⟩
theorem info_cEntry : (Try.prog.info? 50).map (fun i => (i.zero, i.size, i.bytes)) = some (some (.agg #[.int .i64 0, .int .u8 0, .string ⟨#[]⟩, .slice none 0 0]), 4, 56) := by kernel_rfl
theorem info_cint : (Try.prog.info? 3).map (fun i => (i.zero, i.size, i.bytes)) = some (some (.int .i64 0), 1, 8) := by kernel_rfl
theorem lt_of_heap {w : World} {p : Nat} {o : Obj} (h : w.heap[p]? = some o) : p < w.heap.size := (Array.getElem?_eq_some_iff.1 h).1
theorem apart_T {w : World} {a b : Nat} {x y : Array Value} {T U : TypeId} {f g : Nat × Nat} (ha : w.heap[a]? = some (.cells x T f)) (hb : w.heap[b]? = some (.cells y U g)) (h : T ≠ U) : a ≠ b := fun e => by
  subst e
  rw [ha] at hb
  injection hb with hb
  injection hb with _ h2
  exact h h2
section
variable {α : Type} {R : Rec α}
theorem Rec.row_poke {x y : α} {L : List α} {i j : Nat} {u : Value} (hx : L[i]? = some x) (hy : R.vals y = (R.vals x).set j u) (hj : j < R.size) : R.row (L.set i y) = (R.row L).set (i * R.size + j) u := by
  induction L generalizing i with
  | nil => simp at hx
  | cons a L ih =>
    cases i with
    | zero =>
      rw [List.getElem?_cons_zero] at hx
      have hx := Option.some.inj hx
      subst hx
      rw [List.set_cons_zero, R.row_cons, R.row_cons, hy, Nat.zero_mul, Nat.zero_add, List.set_append_left _ _ (by rw [R.len]; exact hj)]
    | succ i =>
      rw [List.getElem?_cons_succ] at hx
      rw [List.set_cons_succ, R.row_cons, R.row_cons, ih hx, List.set_append_right _ _ (by rw [R.len, Nat.succ_mul]; omega)]
      congr 2
      rw [R.len, Nat.succ_mul]
      omega
/-- one cell of an owned row is written -/
theorem rec_poke {w : World} {B : Nat} {T : TypeId} {v : Value} {L : List α} {x y : α} {i j : Nat} {u : Value} (h : R.Own w B T v L) (hx : L[i]? = some x) (hy : R.vals y = (R.vals x).set j u) (hj : j < R.size) :
    ∃ g c, v = .slice (some ⟨g, 0, none⟩) L.length c ∧ B ≤ g ∧ g < w.heap.size ∧ (∀ q t, (R.vals x)[q]? = some t → w.cell? ⟨g, i * R.size + q, none⟩ = some t) ∧ (∀ q, w.frozen? ⟨g, q, none⟩ = false) ∧ R.Own (w.setCell ⟨g, i * R.size + j, none⟩ u) B T v (L.set i y) := by
  rcases own_opened h with ⟨-, rfl⟩ | ⟨g, cap, rest, rfl, hb, hg, hn, hc, hr⟩
  · simp at hx
  · have hil := (List.getElem?_eq_some_iff.1 hx).1
    have hm := Nat.mul_le_mul_right R.size (show i + 1 ≤ L.length by omega)
    rw [Nat.succ_mul] at hm
    refine ⟨g, cap, rfl, hb, lt_of_heap hg, fun q t ht => ?_, (blk_cells hg).2, ?_⟩
    · rw [(blk_cells hg).1, List.getElem?_toArray, List.getElem?_append_left]
      · exact R.row_get hx ht
      · have hq := (List.getElem?_eq_some_iff.1 ht).1
        rw [R.len] at hq
        rw [R.row_length]
        omega
    · have e : (w.setCell ⟨g, i * R.size + j, none⟩ u).heap[g]? = some (.cells (R.row (L.set i y) ++ rest).toArray T (0, 0)) := by
        rw [Joins.block_setCell hg _, Rec.row_poke hx hy hj]
        have hlen : i * R.size + j < (R.row L).length := by
          rw [R.row_length]
          omega
        congr 2
        rw [List.setIfInBounds_toArray, List.set_append_left _ _ hlen]
      have := Rec.own_closed (R := R) (B := B) (l := L.set i y) (rest := rest) (cap := cap) hb e (by simpa using hn) hc (by simpa using hr)
      simpa using this
end
/-- a raw entry against an entry -/
structure EntIs (r : RE) (e : EN) : Prop where
  term : r.term = e.term
  kind : r.kind = e.kind
  data : r.data = e.data
  ln : r.ln = e.list.length
/-- entries of one's own -/
structure EntO (w : World) (B : Nat) (v : Value) (rs : List RE) (l : List EN) : Prop where
  row : entR.Own w B 50 v rs
  len : rs.length = l.length
  ent : ∀ (i : Nat) (r : RE) (e : EN), rs[i]? = some r → l[i]? = some e → EntIs r e ∧ inR.Own w B 3 r.lv e.list
theorem EntO.n {w : World} {B : Nat} {v : Value} {rs : List RE} {l : List EN} (h : EntO w B v rs l) : EntN w Any v l :=
  ⟨rs, h.row.n.any, h.len, fun i r e hr he => by
    obtain ⟨h1, h2⟩ := h.ent i r e hr he
    exact ⟨h1.term, h1.kind, h1.data, h1.ln, h2.n.any⟩⟩
theorem EntO.below {w w' : World} {B : Nat} {v : Value} {rs : List RE} {l : List EN} (h : EntO w B v rs l) (hb : Below w.heap.size w w') : EntO w' B v rs l :=
  ⟨h.row.below hb, h.len, fun i r e hr he => ⟨(h.ent i r e hr he).1, (h.ent i r e hr he).2.below hb⟩⟩
/-- one more entry of one's own -/
theorem EntO.push {w w' : World} {B : Nat} {v v' : Value} {rs : List RE} {l : List EN} {i : Nat} {r : RE} {e : EN} (h : EntO w B v rs (l.take i)) (he : l[i]? = some e) (hr : EntIs r e) (ho : inR.Own w B 3 r.lv e.list) (hrow : entR.Own w' B 50 v' (rs ++ [r])) (hk : ∀ b, b < w.heap.size → v.ownBlock ≠ some b → w'.heap[b]? = w.heap[b]?) : EntO w' B v' (rs ++ [r]) (l.take (i + 1)) := by
  have hil := (List.getElem?_eq_some_iff.1 he).1
  have hlen : rs.length = i := by rw [h.len, List.length_take]; omega
  have oth : ∀ (x : Value) (L : List Int), inR.Own w B 3 x L → inR.Own w' B 3 x L := fun x L hx => row_same hx fun b hb => hk b (hx.lt b hb).2 fun e2 => by
    obtain ⟨c1, h1⟩ := row_type hx hb
    obtain ⟨c2, h2⟩ := row_type h.row e2
    exact apart_T h1 h2 (by decide) rfl
  refine ⟨hrow, by rw [List.length_append, hlen, List.length_take]; simp; omega, fun j r' e' hr' he' => ?_⟩
  rw [List.take_add_one, he] at he'
  by_cases hj : j < i
  · rw [List.getElem?_append_left (by omega)] at hr'
    rw [List.getElem?_append_left (by rw [List.length_take]; omega)] at he'
    obtain ⟨h1, h2⟩ := h.ent j r' e' hr' he'
    exact ⟨h1, oth _ _ h2⟩
  · have hji : j = i := by
      have := (List.getElem?_eq_some_iff.1 hr').1
      rw [List.length_append, hlen] at this
      simp at this
      omega
    subst hji
    rw [List.getElem?_append_right (by omega), hlen, Nat.sub_self] at hr'
    rw [List.getElem?_append_right (by rw [List.length_take]; omega), List.length_take, Nat.min_eq_left (by omega), Nat.sub_self] at he'
    have hr' := Option.some.inj hr'
    have he' : e = e' := by simpa using he'
    subst he'
    rw [← hr']
    exact ⟨hr, oth _ _ ho⟩
/-- append([]T{}, l...): a row of one's own -/
theorem lit_app {α : Type} {R : Rec α} {w : World} {B : Nat} {T t : TypeId} {i : TypeInfo} {z : Value} {bytes : Nat} (ht : Try.prog.underlying t = some (.slice T)) (hi : Try.prog.info? T = some i) (hz : i.zero = some z) (hsize : i.size = R.size) (hby : i.bytes = bytes) (hzs : z.cells.size = R.size) (hsz : 0 < R.size)
    {x : Value} {l : List α} (hx : R.N w Any x l) (hlen : l.length ≤ maxLen) (hbytes : l.length * bytes ≤ 140737488355328) (hB : B ≤ w.heap.size) :
    ∃ A c w', (Builtin.append_ #[t, t] t #[.slice (some ⟨w.heap.size, 0, none⟩) 0 0, x]).run Try.prog (w.alloc (.cells #[] T)) = .ok (.slice A l.length c) w' ∧ R.Own w' B T (.slice A l.length c) l ∧ Below w.heap.size w w' := by
  have hb1 : Below w.heap.size w (w.alloc (.cells #[] T)) := (Below.refl _ _).alloc (Nat.le_refl _) _
  have hown1 : R.Own (w.alloc (.cells #[] T)) w.heap.size T (.slice (some ⟨w.heap.size, 0, none⟩) 0 0) [] := World.ownsRow_lit w #[] 0 (Nat.le_refl _) (by unfold maxLen; omega) (Nat.zero_mul _).symm
  obtain ⟨v', w', hr, ho, hg, -⟩ := Rec.app (P := Try.prog) (t := t) ht hi hz hsize hby hzs hsz hown1 (hx.grow hb1) (by simpa using hlen) (by simpa using hbytes) hb1.size
  rw [List.nil_append] at ho
  obtain ⟨A, c, rfl⟩ := ho.slice
  exact ⟨A, c, w', hr, own_base ho hB, hb1.grown hg hb1.size fun p hp => by have h1 : w.heap.size = p := Option.some.inj hp; omega⟩
/-- what the loop of a twin holds: the first i have lists of their own -/
structure TwL (w : World) (B : Nat) (v : Value) (rs : List RE) (l : List EN) (i : Nat) : Prop where
  row : entR.Own w B 50 v rs
  len : rs.length = l.length
  own : ∀ (j : Nat) (r : RE) (e : EN), rs[j]? = some r → l[j]? = some e → EntIs r e ∧ (j < i → inR.Own w B 3 r.lv e.list) ∧ (i ≤ j → inR.N w (fun b => b < B) r.lv e.list)
theorem TwL.below {w w' : World} {B : Nat} {v : Value} {rs : List RE} {l : List EN} {i : Nat} (h : TwL w B v rs l i) (hb : Below w.heap.size w w') : TwL w' B v rs l i :=
  ⟨h.row.below hb, h.len, fun j r e hr he => ⟨(h.own j r e hr he).1, fun hj => ((h.own j r e hr he).2.1 hj).below hb, fun hj => ((h.own j r e hr he).2.2 hj).grow hb⟩⟩
/-- the next one's list is written -/
theorem TwL.step {w : World} {B : Nat} {v u : Value} {rs : List RE} {l : List EN} {i : Nat} {r : RE} {e : EN} {A : Option Addr} {c : Nat} (h : TwL w B v rs l i) (hr : rs[i]? = some r) (he : l[i]? = some e) (hu : u = .slice A e.list.length c) (ho : inR.Own w B 3 u e.list) :
    ∃ g c', v = .slice (some ⟨g, 0, none⟩) rs.length c' ∧ B ≤ g ∧ g < w.heap.size ∧ w.cell? ⟨g, i * 4 + 3, none⟩ = some (.slice r.la r.ln r.lc) ∧ (∀ q, w.frozen? ⟨g, q, none⟩ = false) ∧ TwL (w.setCell ⟨g, i * 4 + 3, none⟩ u) B v (rs.set i { r with la := A, ln := e.list.length, lc := c }) l (i + 1) := by
  obtain ⟨g, c', hv, hB, hg, hc, hf, hn⟩ := rec_poke (y := { r with la := A, ln := e.list.length, lc := c }) (j := 3) (u := u) h.row hr (by rw [hu]; rfl) (by decide)
  have h4 : entR.size = 4 := rfl
  rw [h4] at hc hn
  have far : ∀ b, b ≠ g → (w.setCell ⟨g, i * 4 + 3, none⟩ u).heap[b]? = w.heap[b]? := fun b hb => Below.heap_setCell w ⟨g, i * 4 + 3, none⟩ u b hb
  obtain ⟨cur, hcur⟩ := row_type h.row (p := g) (by rw [hv]; rfl)
  have oth : ∀ (x : Value) (L : List Int), inR.Own w B 3 x L → inR.Own (w.setCell ⟨g, i * 4 + 3, none⟩ u) B 3 x L := fun x L hx => row_same hx fun b hb => far b fun e => by
    subst e
    obtain ⟨cur2, hc2⟩ := row_type hx hb
    exact apart_T hcur hc2 (by decide) rfl
  refine ⟨g, c', hv, hB, hg, hc 3 _ rfl, hf, hn, by simpa using h.len, fun j r' e' hr' he' => ?_⟩
  by_cases hji : j = i
  · subst hji
    have hil := (List.getElem?_eq_some_iff.1 hr).1
    rw [List.getElem?_set_self hil] at hr'
    have hr' := Option.some.inj hr'
    have he' := Option.some.inj (he'.symm.trans he)
    subst he'
    have hi := (h.own j r e' hr he).1
    rw [← hr']
    refine ⟨⟨hi.term, hi.kind, hi.data, rfl⟩, fun _ => ?_, fun hj => by omega⟩
    show inR.Own _ B 3 (.slice A e'.list.length c) _
    rw [← hu]
    exact oth _ _ ho
  · rw [List.getElem?_set_ne (Ne.symm hji)] at hr'
    obtain ⟨h1, h2, h3⟩ := h.own j r' e' hr' he'
    refine ⟨h1, fun hj => oth _ _ (h2 (by omega)), fun hj => ?_⟩
    refine (h3 (by omega)).kept (fun _ h => fun _ => h) (by simp [World.setCell]) fun b hb _ => far b (by omega)
theorem setIf_same {cs : Array Value} {o : Nat} {v : Value} (hc : cs[o]? = some v) : cs.setIfInBounds o v = cs := by
  apply Array.ext_getElem?
  intro i
  rw [Array.getElem?_setIfInBounds]
  by_cases e : o = i
  · subst e
    obtain ⟨h, -⟩ := Array.getElem?_eq_some_iff.mp hc
    rw [if_pos rfl, if_pos h, hc]
  · rw [if_neg e]
theorem setCell_same (w : World) {b o : Nat} {cs : Array Value} {T : TypeId} {f : Nat × Nat} {v : Value} (hg : w.heap[b]? = some (.cells cs T f)) (hc : cs[o]? = some v) : w.setCell ⟨b, o, none⟩ v = w := by
  have e : w.heap.modify b (fun
      | .cells c elem frozen => .cells (c.setIfInBounds o v) elem frozen
      | o => o) = w.heap := by
    apply Array.ext_getElem?
    intro i
    rw [Array.getElem?_modify]
    by_cases h : b = i
    · subst h; rw [if_pos rfl, hg]; simp [setIf_same hc]
    · rw [if_neg h]
  unfold World.setCell
  exact congrArg (fun h => ({ w with heap := h } : World)) e
end Go.Proofs.Ytackfigkhjdidaa
