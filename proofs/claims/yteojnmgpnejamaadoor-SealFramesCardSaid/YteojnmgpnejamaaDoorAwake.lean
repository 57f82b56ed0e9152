/-
  The laws' own helper 'awake' returns true, and turns nothing that was there. Condition: the table reads as the program lays it.
-/
import Derived.Test.YteojnmgpnejamaaDoorOpenRef
import Derived.Test.YteojnmgpnejamaaDoorFacts
import Derived.Lib.SmallJoins
namespace Go.Proofs.YteojnmgpnejamaaDoor
open Go.RowKit

/-- what a call owns, opened -/
theorem own_open {w : World} {base : Nat} {e : TypeId} {v : Value} {n : Nat} {l : List UInt8} (h : w.ownsRow base e 1 v n (BS l)) (hl : 0 < l.length) :
    ∃ g cap, v = .slice (some ⟨g, 0, none⟩) l.length cap ∧ base ≤ g ∧ g < w.heap.size ∧ (∀ i x, l[i]? = some x → w.cell? ⟨g, i, none⟩ = some (.int .u8 (x.toNat : Int))) ∧ (∀ i, w.frozen? ⟨g, i, none⟩ = false) := by
  have hn := own_count h
  subst hn
  obtain ⟨g, cap, rfl, hb, hg⟩ := h.form hl
  refine ⟨g, cap, rfl, hb, hg, fun i x hx => ?_, fun i => h.frozenAt i⟩
  rw [h.cellAt i (by have := (List.getElem?_eq_some_iff.1 hx).1; omega)]
  unfold BS
  rw [List.getElem?_map, hx]
  rfl

/-- a literal text as bytes: its block, with the mark that the model lays on it -/
theorem lit_bytes (w : World) (C : Array Value) (l : List UInt8) (n : Nat) (h : C.toList = BS l) (hn : n = l.length) (hl : l.length ≤ maxLen) : ∃ w', (convert 22 22 (.slice (some ⟨w.heap.size, 0, none⟩) n n)).run Tryd.prog (w.alloc (.cells C 5)) = .ok (.slice (some ⟨w.heap.size, 0, none⟩) n n) w' ∧
    Rd w' w'.heap.size (.slice (some ⟨w.heap.size, 0, none⟩) n n) l ∧ Below w.heap.size w w' ∧ w'.heap.size = w.heap.size + 1 :=
  ⟨_, Go.Joins.run_convert_bytes_const_at (P := Tryd.prog) w 22 5 C n n w.heap.size rfl Tryd.underlying22 Tryd.underlying5, (Rd.litsF w _ C _ l n h hn hl).keep (by simp) (fun _ _ => rfl), (Below.refl _ _).alloc (Nat.le_refl _) _, by simp⟩

def F7 : List UInt8 := [7, 2, 0, 97, 98, 20, 185, 81, 1]
theorem sealed_ab : sealedOf 7 [97, 98] = (0, F7) := by decide +kernel
theorem opened_ab : openedOf F7 = (0, 7, [97, 98]) := by decide +kernel
theorem turned_ab : openedOf (F7.set 0 6) = (30, 0, []) := by decide +kernel

set_option maxHeartbeats 1000000 in
theorem awake_any (w : World) (ht : Tab w) : Calls Tryd.prog 9 #[] w fun e w' => e = .returned (.bool true) ∧ Below w.heap.size w w' := by
  obtain ⟨w0, hcv, hr0, hb0, hs0⟩ := lit_bytes w #[.int .u8 97, .int .u8 98] [97, 98] 2 rfl rfl (by unfold maxLen; decide)
  have c1 := seal_any 7 [97, 98] _ w0 (ht.below hb0 ht.1) hr0 (by decide)
  unfold SealedPost at c1
  rw [sealed_ab, show ((7 : UInt8).toNat : Int) = 7 from rfl] at c1
  go_enter Tryd.func9, Tryd.ntmps9
  go_wp2_with fail
  refine c1.mono ?_
  rintro e w1 ⟨v1, n1, rfl, ho1, hb1⟩
  have hb1' := hb0.trans (hb1.mono hb0.size)
  obtain ⟨g, cap, rfl, hg, hgw, hcell, hfz⟩ := own_open ho1 (by decide)
  have d0 := hcell 0 7 rfl
  have d1 := hcell 1 2 rfl
  have d2 := hcell 2 0 rfl
  have d3 := hcell 3 97 rfl
  rw [show F7.length = 9 from rfl] at ho1 ⊢
  have hn1 := own_count ho1
  rw [show F7.length = 9 from rfl] at hn1
  subst hn1
  have c2 := open_any F7 _ w1 (ht.below hb1' ht.1) (Rd.own ho1) (by decide)
  unfold OpenedPost at c2
  rw [opened_ab, show ((7 : UInt8).toNat : Int) = 7 from rfl] at c2
  go_wp2_with fail
  refine c2.mono ?_
  rintro e w2 ⟨v2, n2, rfl, ho2, hb2⟩
  have hb2' := hb1'.trans (hb2.mono hb1'.size)
  have ho1' := own_below ho1 hb2 (Nat.le_refl _)
  obtain ⟨hst, hgs⟩ := ho1'.stored 0 (.int .u8 6)
  have hst' : (w2.setCell ⟨g, 0, none⟩ (.int .u8 6)).ownsRow w0.heap.size 5 1 (.slice (some ⟨g, 0, none⟩) 9 cap) 9 (BS (F7.set 0 6)) := hst
  have hgb : w.heap.size ≤ g := Nat.le_trans hb0.size hg
  have hb3 := hb2'.setCell (p := ⟨g, 0, none⟩) hgb (.int .u8 6)
  have e0 : w2.cell? ⟨g, 0, none⟩ = some (.int .u8 7) := (hb2.cell (p := ⟨g, 0, none⟩) hgw).trans d0
  have f0 := ho1'.frozenAt 0
  have c3 := open_any (F7.set 0 6) _ (w2.setCell ⟨g, 0, none⟩ (.int .u8 6)) (ht.below hb3 ht.1) (Rd.own hst') (by decide)
  have ho2' := own_same ho2 (w' := w2.setCell ⟨g, 0, none⟩ (.int .u8 6)) (fun p hp => Below.heap_setCell _ _ _ _ (by have := (ho2.lt p hp).1; show p ≠ g; omega))
  unfold OpenedPost at c3
  rw [turned_ab, show ((0 : UInt8).toNat : Int) = 0 from rfl] at c3
  clear hst c1 c2 hcell hfz d0 d1 d2 d3 hgs
  go_wp2_with fail
  refine c3.mono ?_
  rintro e w3 ⟨v3, n3, rfl, ho3, hb4⟩
  have hb4' := hb3.trans (hb4.mono hb3.size)
  have hcs := run_str (P := Tryd.prog) 22 5 9 Tryd.underlying22 Tryd.underlying5 Tryd.underlying9 (Rd.own (own_below ho2' hb4 (Nat.le_refl _)))
  go_wp2_with fail
  go_ret
  exact ⟨rfl, hb4'⟩
end Go.Proofs.YteojnmgpnejamaaDoor
