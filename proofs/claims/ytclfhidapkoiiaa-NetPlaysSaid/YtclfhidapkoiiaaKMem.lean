/-
  A net in memory: its block, its row. No statement is proved here. No condition.
-/
import Derived.Test.YtclfhidapkoiiaaKPlain
import Derived.Laws.CopyRow
import Derived.Laws.CopyOwn
namespace Go.Proofs.Ytclfhidapkoiiaa
open Go.RowKit

theorem drew_heap (w : World) : w.drew.heap = w.heap := rfl
theorem stepApp {P : Program} {ops : Array Oper} {o : Oper} {a : Act} {w w' : World} {v' : Value} {K : Act → World → Prop} {Q : Exit → Act → World → Prop} {E : Prop} (hg : o.guard = none) (s x : Operand) (t : TypeId)
    (hop : o.op = Op.call { callee := Callee.builtin Builtin.append, args := #[s, x], argTypes := #[t, t] }) (vs vx : Value) (hs : a.eval s = vs) (hx : a.eval x = vx)
    (hrun : (Builtin.append_ #[t, t] o.type #[vs, vx]).run P w = .ok v' w') (hK : K (a.put o.dst v') w') : if Region.wanted o (yielded ops a.tmps) = true then Oper.wp P o a w K Q else E := by
  have hw : Region.wanted o (yielded ops a.tmps) = true := by simp [Region.wanted, hg]
  rw [if_pos hw]
  unfold Oper.wp execOp
  simp only [hop, resolve, invoke, builtin, Sem.run_bind, Sem.run_pure, Result.andThen_ok, List.map_toArray, List.map_cons, List.map_nil, hs, hx, hrun]
  exact hK
theorem heap_setCell_far (w : World) (g o : Nat) (x : Value) {b : Nat} (hb : b ≠ g) : (w.setCell ⟨g, o, none⟩ x).heap[b]? = w.heap[b]? := Below.heap_setCell w ⟨g, o, none⟩ x b hb
theorem set1_at {w : World} {g : Nat} {T : TypeId} {a b c x : Value} (h : w.heap[g]? = some (.cells #[a, b, c] T (0, 0))) : (w.setCell ⟨g, 1, none⟩ x).heap[g]? = some (.cells #[a, x, c] T (0, 0)) := by
  rw [setCell_eq_setRow w g 1 _ T (0, 0) x h]
  exact setRow_heap w g _ _ T _ h
theorem set2_at {w : World} {g : Nat} {T : TypeId} {a b c x : Value} (h : w.heap[g]? = some (.cells #[a, b, c] T (0, 0))) : (w.setCell ⟨g, 2, none⟩ x).heap[g]? = some (.cells #[a, b, x] T (0, 0)) := by
  rw [setCell_eq_setRow w g 2 _ T (0, 0) x h]
  exact setRow_heap w g _ _ T _ h
theorem own_far {α : Type} {R : Rec α} {w w' : World} {B : Nat} {T : TypeId} {v : Value} {l : List α} (h : R.Own w B T v l) (hk : ∀ b, v.ownBlock = some b → w'.heap[b]? = w.heap[b]?) : R.Own w' B T v l := row_same h fun p hp => hk p hp
/-- the net at block p, its row a value v: T the net's type, U the packet's -/
structure NetM (w : World) (B p : Nat) (T U : TypeId) (v : Value) (n : NT) : Prop where
  net : w.heap[p]? = some (.cells #[.int .i64 (n.most : Int), .int .i64 (n.lost : Int), v] T (0, 0))
  base : B ≤ p
  row : pkR.Own w B U v n.row
/-- nothing of what was there has turned but the net's block and its row -/
def Moved (p : Nat) (v : Value) (w w' : World) : Prop := ∀ b, b < w.heap.size → b ≠ p → v.ownBlock ≠ some b → w'.heap[b]? = w.heap[b]?
section
variable {w w' : World} {B p : Nat} {T U : TypeId} {v : Value} {n : NT}
theorem NetM.lt (h : NetM w B p T U v n) : p < w.heap.size := (Array.getElem?_eq_some_iff.1 h.net).1
theorem NetM.apart (h : NetM w B p T U v n) (hTU : T ≠ U) : v.ownBlock ≠ some p := fun e => by
  rcases h.row.2 with ⟨rfl, -⟩ | ⟨g, cap, cur, rfl, -, hg, -⟩
  · cases e
  · have : g = p := Option.some.inj e
    rw [this, h.net] at hg
    injection hg with hg
    injection hg with h1 h2
    exact hTU h2
theorem NetM.grow (h : NetM w B p T U v n) (hb : Below w.heap.size w w') : NetM w' B p T U v n := ⟨(hb.block _ h.lt).trans h.net, h.base, h.row.below hb⟩
theorem NetM.kept (h : NetM w B p T U v n) (hk : ∀ b, b < w.heap.size → b = p ∨ v.ownBlock = some b → w'.heap[b]? = w.heap[b]?) : NetM w' B p T U v n :=
  ⟨(hk p h.lt (.inl rfl)).trans h.net, h.base, own_far h.row fun b hb => hk b (h.row.lt b hb).2 (.inr hb)⟩
theorem Moved.below (h : Below w.heap.size w w') : Moved p v w w' := fun b hb _ _ => h.block b hb
end
end Go.Proofs.Ytclfhidapkoiiaa
