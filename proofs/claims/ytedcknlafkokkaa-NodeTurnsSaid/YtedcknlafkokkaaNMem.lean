/-
  Nodes, plainly and in memory. No statement is proved here. No condition.
-/
import Derived.Test.YtedcknlafkokkaaHeap
import Derived.Test.YtedcknlafkokkaaPlain
import Derived.Test.YtedcknlafkokkaaWorks
import Derived.Lib.SmallJoins
import Derived.Deep.DeepCutAuto
import Derived.Deep.RegionHeld3
import Derived.Deep.RegionLaw
import Derived.Deep.RegionWith
import Derived.Laws.ResultCell
import Derived.BigRegion
namespace Go.Proofs.Ytedcknlafkokkaa
open Go.RowKit

/-- a cell of a node -/
structure PC where
  key : ByteArray
  val : ByteArray
  long : Int
  size : Int
/-- a node -/
structure PN where
  leaf : Bool
  cells : List PC
  kids : List Int

def PC.vals (c : PC) : List Value := [.string c.key, .string c.val, .int .i64 c.long, .int .i64 c.size]
def PC.agg (c : PC) : Value := .agg #[.string c.key, .string c.val, .int .i64 c.long, .int .i64 c.size]
def CsV (l : List PC) : List Value := l.flatMap PC.vals
def KsV (l : List Int) : List Value := l.map fun k => .int .i64 k
theorem CsV_nil : CsV [] = [] := rfl
theorem CsV_cons (c : PC) (l : List PC) : CsV (c :: l) = c.vals ++ CsV l := rfl
theorem CsV_append (l m : List PC) : CsV (l ++ m) = CsV l ++ CsV m := List.flatMap_append
theorem CsV_length (l : List PC) : (CsV l).length = l.length * 4 := by
  induction l with
  | nil => rfl
  | cons c l ih => rw [CsV_cons, List.length_append, ih, List.length_cons]; show 4 + _ = _; omega
theorem CsV_one (l : List PC) : ∀ u ∈ CsV l, u.oneCell' = true := by
  intro u hu
  obtain ⟨c, -, h⟩ := List.mem_flatMap.1 hu
  simp [PC.vals] at h
  rcases h with rfl | rfl | rfl | rfl <;> rfl
theorem CsV_get {l : List PC} {i : Nat} {c : PC} (h : l[i]? = some c) : (CsV l)[i * 4]? = some (.string c.key) ∧ (CsV l)[i * 4 + 1]? = some (.string c.val) ∧ (CsV l)[i * 4 + 2]? = some (.int .i64 c.long) ∧ (CsV l)[i * 4 + 3]? = some (.int .i64 c.size) := by
  induction l generalizing i with
  | nil => simp at h
  | cons d l ih =>
    rw [CsV_cons]
    cases i with
    | zero =>
      rw [List.getElem?_cons_zero] at h
      injection h with h
      subst h
      exact ⟨rfl, rfl, rfl, rfl⟩
    | succ i =>
      rw [List.getElem?_cons_succ] at h
      obtain ⟨a, b, c1, d1⟩ := ih h
      have e : ∀ k, ((d.vals ++ CsV l)[(i + 1) * 4 + k]?) = (CsV l)[i * 4 + k]? := fun k => by
        rw [List.getElem?_append_right (by show 4 ≤ _; omega)]
        congr 1
        show (i + 1) * 4 + k - 4 = _
        omega
      exact ⟨(e 0).trans a, (e 1).trans b, (e 2).trans c1, (e 3).trans d1⟩
theorem CsV_take (l : List PC) (k : Nat) : CsV (l.take k) = (CsV l).take (k * 4) := by
  induction l generalizing k with
  | nil => simp [CsV]
  | cons c l ih =>
    cases k with
    | zero => simp [CsV]
    | succ k =>
      rw [List.take_succ_cons, CsV_cons, CsV_cons, ih, List.take_append]
      have : c.vals.length = 4 := rfl
      rw [this, List.take_of_length_le (l := c.vals) (by rw [this]; omega), show (k + 1) * 4 - 4 = k * 4 by omega]
theorem CsV_drop (l : List PC) (k : Nat) : CsV (l.drop k) = (CsV l).drop (k * 4) := by
  induction l generalizing k with
  | nil => simp [CsV]
  | cons c l ih =>
    cases k with
    | zero => simp
    | succ k =>
      rw [List.drop_succ_cons, CsV_cons, ih, List.drop_append]
      have : c.vals.length = 4 := rfl
      rw [this, List.drop_of_length_le (l := c.vals) (by rw [this]; omega), show (k + 1) * 4 - 4 = k * 4 by omega]
      rfl
theorem KsV_length (l : List Int) : (KsV l).length = l.length := by simp [KsV]
theorem KsV_append (l m : List Int) : KsV (l ++ m) = KsV l ++ KsV m := by simp [KsV]
theorem KsV_one (l : List Int) : ∀ u ∈ KsV l, u.oneCell' = true := by
  intro u hu
  obtain ⟨k, -, rfl⟩ := List.mem_map.1 hu
  rfl
theorem KsV_get {l : List Int} {i : Nat} {k : Int} (h : l[i]? = some k) : (KsV l)[i]? = some (.int .i64 k) := by
  unfold KsV
  rw [List.getElem?_map, h]
  rfl

/-- a slice reads as cells, in blocks of N -/
def RowN (w : World) (N : Nat → Prop) (v : Value) (n size : Nat) (xs : List Value) : Prop :=
  ∃ A c, v = .slice A n c ∧ xs.length = n * size ∧ n ≤ c ∧ c ≤ maxLen ∧ (A = none → c = 0) ∧ (0 < n → ∃ b o, A = some ⟨b, o, none⟩ ∧ N b ∧ b < w.heap.size ∧ ∀ j u, xs[j]? = some u → w.cell? ⟨b, o + j, none⟩ = some u)
section
variable {w w' : World} {N N' : Nat → Prop} {v : Value} {n size : Nat} {xs : List Value}
theorem RowN.at (h : RowN w N v n size xs) : RowAt w v n size xs := by
  obtain ⟨A, c, rfl, h1, h2, h3, h4, h5⟩ := h
  exact ⟨A, c, rfl, h1, h2, h3, h4, fun h0 => by obtain ⟨b, o, hA, -, -, hc⟩ := h5 h0; exact ⟨b, o, hA, hc⟩⟩
theorem RowN.kept (h : RowN w N v n size xs) (hN : ∀ b, N b → b < w.heap.size → N' b) (hs : w.heap.size ≤ w'.heap.size) (hk : ∀ b, N b → b < w.heap.size → w'.heap[b]? = w.heap[b]?) : RowN w' N' v n size xs := by
  obtain ⟨A, c, rfl, h1, h2, h3, h4, h5⟩ := h
  refine ⟨A, c, rfl, h1, h2, h3, h4, fun h0 => ?_⟩
  obtain ⟨b, o, hA, hb, hs', hc⟩ := h5 h0
  exact ⟨b, o, hA, hN b hb hs', by omega, fun i x hx => (World.cell?_of_block (a := ⟨b, o + i, none⟩) (hk b hb hs')).trans (hc i x hx)⟩
theorem RowN.mono (h : RowN w N v n size xs) (hN : ∀ b, N b → b < w.heap.size → N' b) : RowN w N' v n size xs := h.kept hN (Nat.le_refl _) fun _ _ _ => rfl
theorem RowN.grow (h : RowN w N v n size xs) (hb : Below w.heap.size w w') : RowN w' N v n size xs := h.kept (fun _ h _ => h) hb.size fun b _ hs => hb.block b hs
theorem RowN.nil (w : World) (N : Nat → Prop) (size : Nat) : RowN w N (.slice none 0 0) 0 size [] := ⟨none, 0, rfl, by simp, Nat.le_refl _, by unfold maxLen; omega, fun _ => rfl, fun h => absurd h (by omega)⟩
theorem RowN.of_own {base : Nat} {e : TypeId} (h : w.ownsRow base e size v n xs) (hN : ∀ b, v.ownBlock = some b → N b) : RowN w N v n size xs := by
  rcases h.2 with ⟨rfl, h0⟩ | ⟨g, cap, cur, rfl, hb, hg, hnc, hcm, hcs, htake⟩
  · subst h0
    exact ⟨none, 0, rfl, h.1, Nat.le_refl _, by unfold maxLen; omega, fun _ => rfl, fun h => absurd h (by omega)⟩
  · refine ⟨_, cap, rfl, h.1, hnc, hcm, (fun h => by cases h), fun _ => ⟨g, 0, rfl, hN g rfl, (h.lt g rfl).2, fun j u hu => ?_⟩⟩
    have := h.cells (g := g) rfl j u hu
    rw [plus_zero] at this
    exact this
theorem RowN.slice (h : RowN w N v n size xs) : ∃ A c, v = .slice A n c ∧ n ≤ c ∧ c ≤ maxLen := by
  obtain ⟨A, c, rfl, -, h2, h3, -⟩ := h
  exact ⟨A, c, rfl, h2, h3⟩
end
/-- the cells and the kids of a node -/
def CsN (w : World) (N : Nat → Prop) (v : Value) (l : List PC) : Prop := RowN w N v l.length 4 (CsV l)
def KsN (w : World) (N : Nat → Prop) (v : Value) (l : List Int) : Prop := RowN w N v l.length 1 (KsV l)
theorem CsN.grow {w w' : World} {N : Nat → Prop} {v : Value} {l : List PC} (h : CsN w N v l) (hb : Below w.heap.size w w') : CsN w' N v l := RowN.grow h hb
theorem KsN.grow {w w' : World} {N : Nat → Prop} {v : Value} {l : List Int} (h : KsN w N v l) (hb : Below w.heap.size w w') : KsN w' N v l := RowN.grow h hb
theorem CsN.cell {w : World} {N : Nat → Prop} {v : Value} {l : List PC} (h : CsN w N v l) {i : Nat} {c : PC} (hi : l[i]? = some c) : ∃ b o n k, v = .slice (some ⟨b, o, none⟩) n k ∧ N b ∧ b < w.heap.size ∧ w.cell? ⟨b, o + i * 4, none⟩ = some (.string c.key) ∧ w.cell? ⟨b, o + i * 4 + 1, none⟩ = some (.string c.val) ∧ w.cell? ⟨b, o + i * 4 + 2, none⟩ = some (.int .i64 c.long) ∧ w.cell? ⟨b, o + i * 4 + 3, none⟩ = some (.int .i64 c.size) := by
  obtain ⟨A, k, rfl, h1, h2, h3, h4, h5⟩ := h
  have hl := (List.getElem?_eq_some_iff.1 hi).1
  obtain ⟨b, o, rfl, hb, hs, hc⟩ := h5 (by omega)
  obtain ⟨a0, a1, a2, a3⟩ := CsV_get hi
  exact ⟨b, o, _, _, rfl, hb, hs, hc _ _ a0, hc _ _ a1, hc _ _ a2, hc _ _ a3⟩
theorem KsN.cell {w : World} {N : Nat → Prop} {v : Value} {l : List Int} (h : KsN w N v l) {i : Nat} {c : Int} (hi : l[i]? = some c) : ∃ b o n k, v = .slice (some ⟨b, o, none⟩) n k ∧ N b ∧ b < w.heap.size ∧ w.cell? ⟨b, o + i, none⟩ = some (.int .i64 c) := by
  obtain ⟨A, k, rfl, h1, h2, h3, h4, h5⟩ := h
  have hl := (List.getElem?_eq_some_iff.1 hi).1
  obtain ⟨b, o, rfl, hb, hs, hc⟩ := h5 (by omega)
  exact ⟨b, o, _, _, rfl, hb, hs, hc _ _ (KsV_get hi)⟩
/-- a node, as a value -/
def NodeN (w : World) (N : Nat → Prop) (v : Value) (n : PN) : Prop := ∃ vc vk, v = .agg #[.bool n.leaf, vc, vk] ∧ CsN w N vc n.cells ∧ KsN w N vk n.kids
theorem NodeN.kept {w w' : World} {N N' : Nat → Prop} {v : Value} {n : PN} (h : NodeN w N v n) (hN : ∀ b, N b → b < w.heap.size → N' b) (hs : w.heap.size ≤ w'.heap.size) (hk : ∀ b, N b → b < w.heap.size → w'.heap[b]? = w.heap[b]?) : NodeN w' N' v n := by
  obtain ⟨vc, vk, rfl, h1, h2⟩ := h
  exact ⟨vc, vk, rfl, h1.kept hN hs hk, h2.kept hN hs hk⟩
theorem NodeN.grow {w w' : World} {N : Nat → Prop} {v : Value} {n : PN} (h : NodeN w N v n) (hb : Below w.heap.size w w') : NodeN w' N v n := h.kept (fun _ h _ => h) hb.size fun b _ hs => hb.block b hs
theorem NodeN.mono {w : World} {N N' : Nat → Prop} {v : Value} {n : PN} (h : NodeN w N v n) (hN : ∀ b, N b → b < w.heap.size → N' b) : NodeN w N' v n := h.kept hN (Nat.le_refl _) fun _ _ _ => rfl
def Any : Nat → Prop := fun _ => True
/-- an operation is taken first, its slot spelt out -/
theorem takeD {P : Program} {md : Region.Mode} {ops : Array Oper} {Q : Exit → Act → World → Prop} {S : World → Prop} {i : Nat} {oi : Oper} {d : Tmp} {v : Value} {fuel : Nat} {listed : Array Bool} {a : Act} {w : World} (hi : ops[i]? = some oi) (hd : oi.dst = some d)
    (hs : Region.noSelect ops = true) (hf : Region.free md ops listed i = true) (hr : (Region.ready md ops listed).contains i = true)
    (hQ : ∀ c a w, Q (.panic c) (a.put (some d) v) w → Q (.panic c) a w) (hy : YieldsIf P ops S oi v a) (hS : S w)
    (h : wpAnyH P md ops Q S fuel (listed.setIfInBounds i true) (a.put (some d) v) w) : wpAnyH P md ops Q S (fuel + 1) listed a w :=
  wpAnyH_take hi hs hf hr (by rw [hd]; exact hQ) hy hS (by rw [hd]; exact h)
end Go.Proofs.Ytedcknlafkokkaa
