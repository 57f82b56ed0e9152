/-
  The program's net in memory: its block, its row; what lies beside it. No statement is proved here. No condition.
-/
import Derived.Test.YtclfhidapkoiiaaKTake
import Derived.Test.YtclfhidapkoiiaaEMut
namespace Go.Proofs.Ytclfhidapkoiiaa
open Go.RowKit

/-- the program's net at block p, its row a value v: T the net's type, U the packet's -/
structure PNetM (w : World) (B p : Nat) (T U : TypeId) (v : Value) (n : NT) : Prop where
  net : w.heap[p]? = some (.cells #[.int .i64 (n.most : Int), v, .int .i64 (n.lost : Int)] T (0, 0))
  base : B ≤ p
  row : pkR.Own w B U v n.row
/-- a block's type -/
def TyAt (w : World) (g : Nat) (T : TypeId) : Prop := ∃ C, w.heap[g]? = some (.cells C T (0, 0))
theorem TyAt.ne {w : World} {g h : Nat} {T U : TypeId} (a : TyAt w g T) (b : TyAt w h U) (hne : T ≠ U) : g ≠ h := fun e => by
  obtain ⟨C, hC⟩ := a
  obtain ⟨D, hD⟩ := b
  rw [e, hD] at hC
  injection hC with hC
  injection hC with _ h2
  exact hne h2.symm
theorem own_type {α : Type} {R : Rec α} {w : World} {B : Nat} {U : TypeId} {v : Value} {l : List α} (h : R.Own w B U v l) {g : Nat} (hg : v.ownBlock = some g) : TyAt w g U := by
  rcases h.2 with ⟨rfl, -⟩ | ⟨g', cap, cur, rfl, -, hh, -⟩
  · cases hg
  · have : g' = g := Option.some.inj hg
    subst this
    exact ⟨_, hh⟩
section
variable {w w' : World} {B p q : Nat} {T U T' U' : TypeId} {v u : Value} {n m : NT}
theorem PNetM.ty (h : PNetM w B p T U v n) : TyAt w p T := ⟨_, h.net⟩
theorem NetM.ty (h : NetM w B p T U v n) : TyAt w p T := ⟨_, h.net⟩
theorem PNetM.lt (h : PNetM w B p T U v n) : p < w.heap.size := (Array.getElem?_eq_some_iff.1 h.net).1
theorem PNetM.apart (h : PNetM w B p T U v n) (hTU : T ≠ U) : v.ownBlock ≠ some p := fun e => h.ty.ne (own_type h.row e) hTU rfl
theorem PNetM.grow (h : PNetM w B p T U v n) (hb : Below w.heap.size w w') : PNetM w' B p T U v n := ⟨(hb.block _ h.lt).trans h.net, h.base, h.row.below hb⟩
theorem PNetM.kept (h : PNetM w B p T U v n) (hk : ∀ b, b < w.heap.size → b = p ∨ v.ownBlock = some b → w'.heap[b]? = w.heap[b]?) : PNetM w' B p T U v n :=
  ⟨(hk p h.lt (.inl rfl)).trans h.net, h.base, own_far h.row fun b hb => hk b (h.row.lt b hb).2 (.inr hb)⟩
/-- what is done to the program's net leaves the document's -/
theorem NetM.beside (h : NetM w B q T' U' u m) (k : PNetM w B p T U v n) (hm : Moved p v w w') (a1 : T' ≠ T) (a2 : T' ≠ U) (a3 : U' ≠ T) (a4 : U' ≠ U) : NetM w' B q T' U' u m :=
  h.kept fun b hb hbq => by
    rcases hbq with rfl | hbu
    · exact hm b hb (h.ty.ne k.ty a1) (fun e => h.ty.ne (own_type k.row e) a2 rfl)
    · have tb := own_type h.row hbu
      exact hm b hb (tb.ne k.ty a3) (fun e => tb.ne (own_type k.row e) a4 rfl)
/-- and the other way -/
theorem PNetM.beside (h : PNetM w B q T' U' u m) (k : NetM w B p T U v n) (hm : Moved p v w w') (a1 : T' ≠ T) (a2 : T' ≠ U) (a3 : U' ≠ T) (a4 : U' ≠ U) : PNetM w' B q T' U' u m :=
  h.kept fun b hb hbq => by
    rcases hbq with rfl | hbu
    · exact hm b hb (h.ty.ne k.ty a1) (fun e => h.ty.ne (own_type k.row e) a2 rfl)
    · have tb := own_type h.row hbu
      exact hm b hb (tb.ne k.ty a3) (fun e => tb.ne (own_type k.row e) a4 rfl)
/-- an owned row of other things -/
theorem own_beside {α : Type} {R : Rec α} {x : Value} {l : List α} {X : TypeId} (h : R.Own w B X x l) (hm : Moved p v w w') (hp : TyAt w p T) (hv : ∀ g, v.ownBlock = some g → TyAt w g U) (a1 : X ≠ T) (a2 : X ≠ U) : R.Own w' B X x l :=
  own_far h fun b hb => by
    have tb := own_type h hb
    exact hm b (h.lt b hb).2 (tb.ne hp a1) (fun e => tb.ne (hv b e) a2 rfl)
end
theorem info_PK : (Try.prog.info? 36).map (fun i => (i.zero, i.size, i.bytes)) = some (some (.agg #[.int .i64 0, .int .i64 0, .string ⟨#[]⟩]), 3, 32) := by kernel_rfl
theorem types_P : 54 ≠ 36 := by decide
theorem zero_pk : ∀ W, (zeroValue 36).run Try.prog W = .ok (.agg #[.int .i64 0, .int .i64 0, .string ⟨#[]⟩]) W := fun W => by kernel_rfl
theorem zero_net : ∀ W, (zeroValue 54).run Try.prog W = .ok (.agg #[.int .i64 0, .slice none 0 0, .int .i64 0]) W := fun W => by kernel_rfl
end Go.Proofs.Ytclfhidapkoiiaa
