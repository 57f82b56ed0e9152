/-
  Rows of records in memory: slices of structs, read, owned, grown. No statement is proved here. No condition.
-/
import Derived.Test.YtblbcoknefgcaaaHeap
import Derived.Maps.AppendAt
import Derived.Lib.AppendZeros
import Derived.Lib.SmallJoins
import Derived.Deep.DeepCutAuto
import Derived.Deep.RegionHeld3
import Derived.Deep.RegionLaw
import Derived.Deep.RegionWith
import Derived.Laws.ResultCell
import Derived.BigRegion
namespace Go.Proofs.Ytblbcoknefgcaaa
open Go.RowKit

/-- a slice reads as cells, in blocks of N -/
def RowN (w : World) (N : Nat → Prop) (v : Value) (n size : Nat) (xs : List Value) : Prop :=
  ∃ A c, v = .slice A n c ∧ xs.length = n * size ∧ n ≤ c ∧ c ≤ maxLen ∧ (A = none → c = 0) ∧ (0 < n → ∃ b o, A = some ⟨b, o, none⟩ ∧ N b ∧ b < w.heap.size ∧ ∀ j u, xs[j]? = some u → w.cell? ⟨b, o + j, none⟩ = some u)
section
variable {w w' : World} {N N' : Nat → Prop} {v : Value} {n size : Nat} {xs : List Value}
theorem RowN.at (h : RowN w N v n size xs) : RowAt w v n size xs := by
  obtain ⟨A, c, rfl, h1, h2, h3, h4, h5⟩ := h
  exact ⟨A, c, rfl, h1, h2, h3, h4, fun h0 => by obtain ⟨b, o, hA, -, -, hc⟩ := h5 h0; exact ⟨b, o, hA, hc⟩⟩
theorem RowN.kept (h : RowN w N v n size xs) (hN : ∀ b, N b → b < w.heap.size → N' b) (hs : w.heap.size ≤ w'.heap.size) (hk : ∀ b, N b → b < w.heap.size → w'.heap[b]? = w.heap[b]?) : RowN w' N' v n size xs := by
  obtain ⟨A, c, rfl, h1, h2, h3, h4, h5⟩ := h
  refine ⟨A, c, rfl, h1, h2, h3, h4, fun h0 => ?_⟩
  obtain ⟨b, o, hA, hb, hs', hc⟩ := h5 h0
  exact ⟨b, o, hA, hN b hb hs', by omega, fun i x hx => (World.cell?_of_block (a := ⟨b, o + i, none⟩) (hk b hb hs')).trans (hc i x hx)⟩
theorem RowN.mono (h : RowN w N v n size xs) (hN : ∀ b, N b → b < w.heap.size → N' b) : RowN w N' v n size xs := h.kept hN (Nat.le_refl _) fun _ _ _ => rfl
theorem RowN.grow (h : RowN w N v n size xs) (hb : Below w.heap.size w w') : RowN w' N v n size xs := h.kept (fun _ h _ => h) hb.size fun b _ hs => hb.block b hs
theorem RowN.nil (w : World) (N : Nat → Prop) (size : Nat) : RowN w N (.slice none 0 0) 0 size [] := ⟨none, 0, rfl, by simp, Nat.le_refl _, by unfold maxLen; omega, fun _ => rfl, fun h => absurd h (by omega)⟩
theorem RowN.of_own {base : Nat} {e : TypeId} (h : w.ownsRow base e size v n xs) (hN : ∀ b, v.ownBlock = some b → N b) : RowN w N v n size xs := by
  rcases h.2 with ⟨rfl, h0⟩ | ⟨g, cap, cur, rfl, hb, hg, hnc, hcm, hcs, htake⟩
  · subst h0
    exact ⟨none, 0, rfl, h.1, Nat.le_refl _, by unfold maxLen; omega, fun _ => rfl, fun h => absurd h (by omega)⟩
  · refine ⟨_, cap, rfl, h.1, hnc, hcm, (fun h => by cases h), fun _ => ⟨g, 0, rfl, hN g rfl, (h.lt g rfl).2, fun j u hu => ?_⟩⟩
    have := h.cells (g := g) rfl j u hu
    rw [plus_zero] at this
    exact this
theorem RowN.slice (h : RowN w N v n size xs) : ∃ A c, v = .slice A n c ∧ n ≤ c ∧ c ≤ maxLen := by
  obtain ⟨A, c, rfl, -, h2, h3, -⟩ := h
  exact ⟨A, c, rfl, h2, h3⟩
end
def Any : Nat → Prop := fun _ => True
/-- an operation is taken first, its slot spelt out -/
theorem takeD {P : Program} {md : Region.Mode} {ops : Array Oper} {Q : Exit → Act → World → Prop} {S : World → Prop} {i : Nat} {oi : Oper} {d : Tmp} {v : Value} {fuel : Nat} {listed : Array Bool} {a : Act} {w : World} (hi : ops[i]? = some oi) (hd : oi.dst = some d)
    (hs : Region.noSelect ops = true) (hf : Region.free md ops listed i = true) (hr : (Region.ready md ops listed).contains i = true)
    (hQ : ∀ c a w, Q (.panic c) (a.put (some d) v) w → Q (.panic c) a w) (hy : YieldsIf P ops S oi v a) (hS : S w)
    (h : wpAnyH P md ops Q S fuel (listed.setIfInBounds i true) (a.put (some d) v) w) : wpAnyH P md ops Q S (fuel + 1) listed a w :=
  wpAnyH_take hi hs hf hr (by rw [hd]; exact hQ) hy hS (by rw [hd]; exact h)
theorem own_slice {w : World} {base : Nat} {e : TypeId} {size : Nat} {v : Value} {n : Nat} {xs : List Value} (h : w.ownsRow base e size v n xs) : ∃ A c, v = .slice A n c := by
  rcases h.2 with ⟨rfl, h0⟩ | ⟨g, cap, cur, rfl, _⟩
  · subst h0; exact ⟨none, 0, rfl⟩
  · exact ⟨_, cap, rfl⟩

section
variable {P : Program} {w : World}
theorem run_appAt (base : Nat) (t ty e : TypeId) (i : TypeInfo) (z : Value) (size bytes : Nat) (ht : P.underlying t = some (.slice e)) (hi : P.info? e = some i) (hz : i.zero = some z) (hsize : i.size = size) (hby : i.bytes = bytes) (hzs : z.cells.size = size) (hsz : 0 < size)
    (v x : Value) (n : Nat) (xs : List Value) (hown : w.ownsRow base e size v n xs) (m : Nat) (ys : List Value) (hx : RowAt w x m size ys) (h1 : ∀ u ∈ ys, u.oneCell' = true) (h63 : n + m ≤ maxLen) (hbytes : (n + m) * bytes ≤ 140737488355328) (hbase : base ≤ w.heap.size) :
    ∃ A c w', (Builtin.append_ #[t, t] ty #[v, x]).run P w = .ok (.slice A (n + m) c) w' ∧ w'.ownsRow base e size (.slice A (n + m) c) (n + m) (xs ++ ys) ∧ w.grownBy w' v.ownBlock ∧ ((Value.slice A (n + m) c).ownBlock = v.ownBlock ∨ (Value.slice A (n + m) c).ownBlock = some w.heap.size) := by
  obtain ⟨A, c, rfl, hl, hmc, hcm, h3, h4⟩ := hx
  cases A with
  | none =>
    have hc := h3 rfl
    have hm : m = 0 := by omega
    subst hm
    subst hc
    have hys : ys = [] := List.eq_nil_of_length_eq_zero (by omega)
    subst hys
    obtain ⟨A0, c0, rfl⟩ := own_slice hown
    exact ⟨A0, c0, w, run_append_owned_none w base t ty e i size ht hi _ n xs hown, by simpa using hown, ⟨rfl, rfl, rfl, Nat.le_refl _, fun _ _ _ => rfl⟩, .inl rfl⟩
  | some ad =>
    obtain ⟨v', w', hr, k2, k3, _, k5⟩ := run_append_own_at (P := P) w base t ty e i z size bytes ht hi hz hsize hby hzs hsz v n xs hown ad m c ys hl
      (fun j u hj => by
        obtain ⟨b, o, hA, hc⟩ := h4 (by
          rcases Nat.eq_zero_or_pos m with h0 | h0
          · subst h0
            have : ys = [] := List.eq_nil_of_length_eq_zero (by omega)
            subst this
            simp at hj
          · exact h0)
        injection hA with hA
        subst hA
        rw [plus_zero]
        exact hc j u hj) h1 h63 hbytes hbase
    obtain ⟨A0, c0, rfl⟩ := own_slice k2
    exact ⟨A0, c0, w', hr, k2, k3, k5⟩
theorem wpList_appAt {ops : Array Oper} {rest : List Oper} {o : Oper} {a : Act} {Q : Exit → Act → World → Prop} (hgd : o.guard = none) (s x : Operand) (t : TypeId)
    (ho : o.op = .call { callee := .builtin .append, args := #[s, x], argTypes := #[t, t] })
    (base : Nat) (e : TypeId) (i : TypeInfo) (z : Value) (size bytes : Nat) (ht : P.underlying t = some (.slice e)) (hi : P.info? e = some i) (hz : i.zero = some z) (hsize : i.size = size) (hby : i.bytes = bytes) (hzs : z.cells.size = size) (hsz : 0 < size)
    (v y : Value) (n : Nat) (xs : List Value) (m : Nat) (ys : List Value) (hs : a.eval s = v) (hy : a.eval x = y) (hown : w.ownsRow base e size v n xs) (hx : RowAt w y m size ys) (h1 : ∀ u ∈ ys, u.oneCell' = true)
    (h63 : n + m ≤ maxLen) (hbytes : (n + m) * bytes ≤ 140737488355328) (hbase : base ≤ w.heap.size)
    (h : ∀ A c w', w'.ownsRow base e size (.slice A (n + m) c) (n + m) (xs ++ ys) → w.grownBy w' v.ownBlock → ((Value.slice A (n + m) c).ownBlock = v.ownBlock ∨ (Value.slice A (n + m) c).ownBlock = some w.heap.size) → wpList P ops Q rest (a.put o.dst (.slice A (n + m) c)) w') : wpList P ops Q (o :: rest) a w := by
  refine wpList_plain hgd fun K hK => ?_
  obtain ⟨A, c, w', hr, h2, h3, h4⟩ := run_appAt (P := P) (w := w) base t o.type e i z size bytes ht hi hz hsize hby hzs hsz v y n xs hown m ys hx h1 h63 hbytes hbase
  unfold Oper.wp execOp
  simp only [ho, resolve, invoke, builtin, Sem.run_bind, Sem.run_pure, Result.andThen_ok, List.map_toArray, List.map_cons, List.map_nil, hs, hy, hr]
  exact hK _ _ (h A c w' h2 h3 h4)
end
theorem own_base {w : World} {b c : Nat} {e : TypeId} {size : Nat} {v : Value} {n : Nat} {xs : List Value} (h : w.ownsRow b e size v n xs) (hc : c ≤ b) : w.ownsRow c e size v n xs := by
  refine ⟨h.1, ?_⟩
  rcases h.2 with h0 | ⟨g, cap, cur, h1, h2, h3⟩
  · exact .inl h0
  · exact .inr ⟨g, cap, cur, h1, Nat.le_trans hc h2, h3⟩
theorem blk_cells {w : World} {R : Nat} {C : Array Value} {T : TypeId} (h : w.heap[R]? = some (.cells C T (0, 0))) : (∀ i, w.cell? ⟨R, i, none⟩ = C[i]?) ∧ (∀ i, w.frozen? ⟨R, i, none⟩ = false) :=
  ⟨fun i => cell_of_row w R i C T (0, 0) h, fun i => by simp [World.frozen?, h]⟩

/-- a kind of records: the cells of each -/
structure Rec (α : Type) where
  vals : α → List Value
  size : Nat
  len : ∀ a, (vals a).length = size
  one : ∀ a, ∀ u ∈ vals a, u.oneCell' = true
section
variable {α : Type} (R : Rec α)
def Rec.row (l : List α) : List Value := l.flatMap R.vals
theorem Rec.row_nil : R.row [] = [] := rfl
theorem Rec.row_cons (a : α) (l : List α) : R.row (a :: l) = R.vals a ++ R.row l := rfl
theorem Rec.row_append (l m : List α) : R.row (l ++ m) = R.row l ++ R.row m := List.flatMap_append
theorem Rec.row_length (l : List α) : (R.row l).length = l.length * R.size := by
  induction l with
  | nil => simp [Rec.row]
  | cons a l ih => rw [R.row_cons, List.length_append, ih, R.len, List.length_cons, Nat.succ_mul]; omega
theorem Rec.row_one (l : List α) : ∀ u ∈ R.row l, u.oneCell' = true := by
  intro u hu
  obtain ⟨a, -, h⟩ := List.mem_flatMap.1 hu
  exact R.one a u h
theorem Rec.row_get {l : List α} {i j : Nat} {a : α} {u : Value} (h : l[i]? = some a) (hj : (R.vals a)[j]? = some u) : (R.row l)[i * R.size + j]? = some u := by
  induction l generalizing i with
  | nil => simp at h
  | cons d l ih =>
    rw [R.row_cons]
    cases i with
    | zero =>
      rw [List.getElem?_cons_zero] at h
      injection h with h
      subst h
      rw [Nat.zero_mul, Nat.zero_add, List.getElem?_append_left (List.getElem?_eq_some_iff.1 hj).1]
      exact hj
    | succ i =>
      rw [List.getElem?_cons_succ] at h
      rw [List.getElem?_append_right (by rw [R.len, Nat.succ_mul]; omega), R.len, show (i + 1) * R.size + j - R.size = i * R.size + j by rw [Nat.succ_mul]; omega]
      exact ih h
/-- a slice reads as records, in blocks of N -/
def Rec.N (w : World) (N : Nat → Prop) (v : Value) (l : List α) : Prop := RowN w N v l.length R.size (R.row l)
variable {R}
theorem Rec.N.grow {w w' : World} {N : Nat → Prop} {v : Value} {l : List α} (h : R.N w N v l) (hb : Below w.heap.size w w') : R.N w' N v l := RowN.grow h hb
theorem Rec.N.kept {w w' : World} {N N' : Nat → Prop} {v : Value} {l : List α} (h : R.N w N v l) (hN : ∀ b, N b → b < w.heap.size → N' b) (hs : w.heap.size ≤ w'.heap.size) (hk : ∀ b, N b → b < w.heap.size → w'.heap[b]? = w.heap[b]?) : R.N w' N' v l := RowN.kept h hN hs hk
theorem Rec.N.any {w : World} {N : Nat → Prop} {v : Value} {l : List α} (h : R.N w N v l) : R.N w Any v l := RowN.mono h fun _ _ _ => trivial
theorem Rec.N.slice {w : World} {N : Nat → Prop} {v : Value} {l : List α} (h : R.N w N v l) : ∃ A c, v = .slice A l.length c ∧ l.length ≤ c ∧ c ≤ maxLen := RowN.slice h
theorem Rec.N.nil (w : World) (N : Nat → Prop) : R.N w N (.slice none 0 0) [] := RowN.nil w N R.size
/-- the record at i: its block, its cells -/
theorem Rec.N.cell {w : World} {N : Nat → Prop} {v : Value} {l : List α} (h : R.N w N v l) {i : Nat} {a : α} (hi : l[i]? = some a) :
    ∃ b o n k, v = .slice (some ⟨b, o, none⟩) n k ∧ N b ∧ b < w.heap.size ∧ ∀ j u, (R.vals a)[j]? = some u → w.cell? ⟨b, o + i * R.size + j, none⟩ = some u := by
  obtain ⟨A, k, rfl, h1, h2, h3, h4, h5⟩ := h
  have hl := (List.getElem?_eq_some_iff.1 hi).1
  obtain ⟨b, o, rfl, hb, hs, hc⟩ := h5 (by omega)
  exact ⟨b, o, _, _, rfl, hb, hs, fun j u hu => by rw [Nat.add_assoc]; exact hc _ _ (R.row_get hi hu)⟩
/-- an owned row of records -/
def Rec.Own (R : Rec α) (w : World) (B : Nat) (T : TypeId) (v : Value) (l : List α) : Prop := w.ownsRow B T R.size v l.length (R.row l)
theorem Rec.Own.n {w : World} {B : Nat} {T : TypeId} {v : Value} {l : List α} (h : R.Own w B T v l) : R.N w (fun b => B ≤ b) v l := RowN.of_own h fun b hb => (h.lt b hb).1
theorem Rec.Own.slice {w : World} {B : Nat} {T : TypeId} {v : Value} {l : List α} (h : R.Own w B T v l) : ∃ A c, v = .slice A l.length c := own_slice h
theorem Rec.Own.below {w w' : World} {B : Nat} {T : TypeId} {v : Value} {l : List α} (h : R.Own w B T v l) (hb : Below w.heap.size w w') : R.Own w' B T v l := row_same h fun p hp => hb.block p (h.lt p hp).2
theorem Rec.Own.same {w w' : World} {B : Nat} {T : TypeId} {v : Value} {l : List α} (h : R.Own w B T v l) (hk : ∀ b, B ≤ b → b < w.heap.size → w'.heap[b]? = w.heap[b]?) : R.Own w' B T v l := row_same h fun p hp => hk p (h.lt p hp).1 (h.lt p hp).2
theorem Rec.Own.base {w : World} {B C : Nat} {T : TypeId} {v : Value} {l : List α} (h : R.Own w B T v l) (hC : C ≤ B) : R.Own w C T v l := own_base h hC
theorem Rec.Own.none (R : Rec α) (w : World) (B : Nat) (T : TypeId) : R.Own w B T (.slice none 0 0) [] := ⟨by simp [Rec.row], .inl ⟨rfl, rfl⟩⟩
/-- one record, in a block that a literal has made -/
theorem Rec.one_row {w : World} {p : Nat} {T : TypeId} {a : α} {N : Nat → Prop} (h : w.heap[p]? = some (.cells (R.vals a).toArray T (0, 0))) (hN : N p) : R.N w N (.slice (some ⟨p, 0, none⟩) 1 1) [a] := by
  refine ⟨_, 1, rfl, by rw [R.row_length], Nat.le_refl _, by unfold maxLen; omega, (fun h => by cases h), fun _ => ⟨p, 0, rfl, hN, (Array.getElem?_eq_some_iff.1 h).1, fun j u hu => ?_⟩⟩
  rw [Rec.row_cons, Rec.row_nil, List.append_nil] at hu
  rw [Nat.zero_add, (blk_cells h).1 j, List.getElem?_toArray]
  exact hu
/-- append: an owned row, and any row behind it -/
theorem Rec.app {P : Program} {w : World} {B : Nat} {T t : TypeId} {i : TypeInfo} {z : Value} {bytes : Nat} (ht : P.underlying t = some (.slice T)) (hi : P.info? T = some i) (hz : i.zero = some z) (hsize : i.size = R.size) (hby : i.bytes = bytes) (hzs : z.cells.size = R.size) (hsz : 0 < R.size)
    {v x : Value} {l m : List α} {N : Nat → Prop} (h : R.Own w B T v l) (hx : R.N w N x m) (hlen : l.length + m.length ≤ maxLen) (hbytes : (l.length + m.length) * bytes ≤ 140737488355328) (hB : B ≤ w.heap.size) :
    ∃ v' w', (Builtin.append_ #[t, t] t #[v, x]).run P w = .ok v' w' ∧ R.Own w' B T v' (l ++ m) ∧ w.grownBy w' v.ownBlock ∧ (v'.ownBlock = v.ownBlock ∨ v'.ownBlock = some w.heap.size) := by
  obtain ⟨A, c, w', hr, h2, h3, h4⟩ := run_appAt (P := P) (w := w) B t t T i z R.size bytes ht hi hz hsize hby hzs hsz v x l.length _ h m.length _ (RowN.at hx) (R.row_one m) hlen hbytes hB
  refine ⟨_, w', hr, ?_, h3, h4⟩
  unfold Rec.Own
  rw [List.length_append, R.row_append]
  exact h2
end
end Go.Proofs.Ytblbcoknefgcaaa
