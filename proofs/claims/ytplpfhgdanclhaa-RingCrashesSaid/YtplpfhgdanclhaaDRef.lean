/-
  The document's own disk (butteryref03) in memory, and what each call makes of it. Conditions: none but that it lies in memory and its lists are not too long.
-/
import Derived.Test.YtplpfhgdanclhaaDPlain
import Derived.Deep.DeepCutAuto
import Derived.Deep.RegionWith
import Derived.BigRegion
import Derived.Lib.SmallJoins
namespace Go.Proofs.Ytplpfhgdanclhaa
open Go.RowKit

def SS (l : List (List UInt8)) : List Value := l.map fun s => .string ⟨s.toArray⟩
def WS (l : List (Nat × List UInt8)) : List Value := l.flatMap fun x => [.int .i64 (x.1 : Int), .string ⟨x.2.toArray⟩]
def KS (l : List Bool) : List Value := l.map .bool
theorem WS_get {l : List (Nat × List UInt8)} {k : Nat} {x : Nat × List UInt8} (h : l[k]? = some x) : (WS l)[k * 2]? = some (.int .i64 (x.1 : Int)) ∧ (WS l)[k * 2 + 1]? = some (.string ⟨x.2.toArray⟩) := by
  induction l generalizing k with
  | nil => simp at h
  | cons y l ih =>
    cases k with
    | zero =>
      simp only [List.getElem?_cons_zero, Option.some.injEq] at h
      subst h
      exact ⟨rfl, rfl⟩
    | succ k =>
      have := ih (k := k) (by simpa using h)
      rw [show (k + 1) * 2 = k * 2 + 1 + 1 by omega]
      exact this
theorem WS_append (l m : List (Nat × List UInt8)) : WS (l ++ m) = WS l ++ WS m := by unfold WS; rw [List.flatMap_append]
theorem SS_set (l : List (List UInt8)) (i : Nat) (s : List UInt8) : SS (l.set i s) = (SS l).set i (.string ⟨s.toArray⟩) := by unfold SS; rw [List.map_set]
theorem SS_get {l : List (List UInt8)} {i : Nat} (h : i < l.length) : (SS l)[i]? = some (.string ⟨(l.getD i []).toArray⟩) := by
  unfold SS
  rw [List.getElem?_map, List.getElem?_eq_getElem h]
  simp [List.getD, h]
theorem KS_get {l : List Bool} {i : Nat} {b : Bool} (h : l[i]? = some b) : (KS l)[i]? = some (.bool b) := by unfold KS; rw [List.getElem?_map, h]; rfl

theorem row_not {w : World} {p : Nat} {C : Array Value} {T e : TypeId} {base size n : Nat} {v : Value} {xs : List Value} (h : w.heap[p]? = some (.cells C T (0, 0))) (ho : w.ownsRow base e size v n xs) (hne : e ≠ T) : ∀ b, v.ownBlock = some b → b ≠ p := by
  intro b hb e1
  subst e1
  obtain ⟨cur, hc⟩ := row_type ho hb
  rw [hc] at h
  injection h with h
  injection h with _ h
  exact hne h
theorem row7 {w : World} {p : Nat} {C : Array Value} {T : TypeId} (h : w.heap[p]? = some (.cells C T (0, 0))) : (∀ i, w.cell? ⟨p, i, none⟩ = C[i]?) ∧ (∀ i, w.frozen? ⟨p, i, none⟩ = false) :=
  ⟨fun i => cell_of_row w p i C T (0, 0) h, fun i => by simp [World.frozen?, h]⟩

theorem set_other {w : World} {p i : Nat} {u : Value} {b : Nat} (h : b ≠ p) : (w.setCell ⟨p, i, none⟩ u).heap[b]? = w.heap[b]? := Below.heap_setCell w ⟨p, i, none⟩ u b h

/-- a row that is read is kept where its block is -/
theorem RowAt.kept {w w' : World} {v : Value} {n size : Nat} {xs : List Value} (h : RowAt w v n size xs) (hk : ∀ b, v.ownBlock = some b → w'.heap[b]? = w.heap[b]?) : RowAt w' v n size xs := by
  obtain ⟨A, c, rfl, h1, h2, h3, h4, h5⟩ := h
  refine ⟨A, c, rfl, h1, h2, h3, h4, fun hn => ?_⟩
  obtain ⟨b, o, rfl, hc⟩ := h5 hn
  exact ⟨b, o, rfl, fun j u hu => (World.cell?_of_block (hk b rfl)).trans (hc j u hu)⟩
theorem own_eq {w : World} {b1 b2 : Nat} {e : TypeId} {size : Nat} {v : Value} {n m : Nat} {xs ys : List Value} (h : w.ownsRow b1 e size v n xs) (hn : n = m) (hx : xs = ys) (hb : b2 ≤ b1) : w.ownsRow b2 e size v m ys := by
  subst hn
  subst hx
  exact World.ownsRow.mono h hb

end Go.Proofs.Ytplpfhgdanclhaa
