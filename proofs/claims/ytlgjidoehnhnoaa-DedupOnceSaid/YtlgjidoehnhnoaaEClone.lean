/-
  slices.Clone of records. No statement is proved here. No condition.
-/
import Derived.Test.YtlgjidoehnhnoaaEPut
import Derived.Lib.SliceRun
namespace Go.Proofs.Ytlgjidoehnhnoaa
open Go.RowKit

set_option maxRecDepth 100000 in
theorem clonePair_any (l : List PP) (v : Value) (w : World) (h : pairR.N w Any v l) (hl : l.length ≤ 4398046511000) :
    Calls Try.prog 28 #[v] w fun e w' => ∃ v', e = .returned v' ∧ pairR.Own w' w.heap.size 24 v' l ∧ Below w.heap.size w w' := by
  obtain ⟨iu, hiu, z0, z1, z2⟩ := info_parts info_PP
  obtain ⟨A, c, rfl, h2, h3⟩ := h.slice
  cases A with
  | none =>
    have hc : c = 0 := by
      obtain ⟨A', c', hv, -, -, -, h4, -⟩ := h
      injection hv with e1 _ e3
      subst e3
      exact h4 e1.symm
    have hl0 : l.length = 0 := by omega
    have hln : l = [] := List.eq_nil_of_length_eq_zero hl0
    subst hln hc
    have hnil : ∀ W : World, (binOp .eql 25 (.slice none 0 0) (.slice none 0 0)).run Try.prog W = .ok (.bool true) W := fun W => Lib.run_eql_slice_nil W _ _ none 0 0 0 0 Try.underlying25
    go_enter Try.func28, Try.ntmps28
    go_wp2_with fail
    go_ret
    exact ⟨_, rfl, Rec.Own.none _ _ _ _, Below.refl _ _⟩
  | some a =>
    have hb1 : Below w.heap.size w (w.alloc (.cells #[] 24)) := (Below.refl _ _).alloc (Nat.le_refl _) _
    have hown1 : pairR.Own (w.alloc (.cells #[] 24)) w.heap.size 24 (.slice (some ⟨w.heap.size, 0, none⟩) 0 0) [] := World.ownsRow_lit w #[] 0 (Nat.le_refl _) (by unfold maxLen; omega) rfl
    obtain ⟨v', w', hr, ho, hg, -⟩ := Rec.app (P := Try.prog) (t := 25) Try.underlying25 hiu z0 z1 z2 rfl (by decide) hown1 (h.grow hb1) (by unfold maxLen; simp; omega) (by simp; omega) hb1.size
    rw [List.nil_append] at ho
    have hbf : Below w.heap.size w w' := hb1.grown hg hb1.size (fun p hp => by have h1 : w.heap.size = p := Option.some.inj hp; omega)
    have HR := Lib.hid hr
    have HO := Lib.hid ho
    have HB := Lib.hid hbf
    clear hr ho hg hbf hown1 hb1 h hiu z0 z1 z2
    have hnil : ∀ W : World, (binOp .eql 25 (.slice (some a) l.length c) (.slice none 0 0)).run Try.prog W = .ok (.bool false) W := fun W => Lib.run_eql_slice_nil W _ _ (some a) _ _ 0 0 Try.underlying25
    go_enter Try.func28, Try.ntmps28
    go_wp2_with (at_builtin; go_must (refine Lib.wpList_append_run _ rfl (.tmp 5) (.tmp 6) 25 25 rfl _ _ rfl rfl _ _ HR.out ?_))
    go_ret
    exact ⟨_, rfl, HO.out, HB.out⟩

set_option maxRecDepth 100000 in
theorem cloneLast_any (l : List PL) (v : Value) (w : World) (h : lastR.N w Any v l) (hl : l.length ≤ 3518437208880) :
    Calls Try.prog 36 #[v] w fun e w' => ∃ v', e = .returned v' ∧ lastR.Own w' w.heap.size 46 v' l ∧ Below w.heap.size w w' := by
  obtain ⟨iu, hiu, z0, z1, z2⟩ := info_parts info_PL
  obtain ⟨A, c, rfl, h2, h3⟩ := h.slice
  cases A with
  | none =>
    have hc : c = 0 := by
      obtain ⟨A', c', hv, -, -, -, h4, -⟩ := h
      injection hv with e1 _ e3
      subst e3
      exact h4 e1.symm
    have hl0 : l.length = 0 := by omega
    have hln : l = [] := List.eq_nil_of_length_eq_zero hl0
    subst hln hc
    have hnil : ∀ W : World, (binOp .eql 33 (.slice none 0 0) (.slice none 0 0)).run Try.prog W = .ok (.bool true) W := fun W => Lib.run_eql_slice_nil W _ _ none 0 0 0 0 Try.underlying33
    go_enter Try.func36, Try.ntmps36
    go_wp2_with fail
    go_ret
    exact ⟨_, rfl, Rec.Own.none _ _ _ _, Below.refl _ _⟩
  | some a =>
    have hb1 : Below w.heap.size w (w.alloc (.cells #[] 46)) := (Below.refl _ _).alloc (Nat.le_refl _) _
    have hown1 : lastR.Own (w.alloc (.cells #[] 46)) w.heap.size 46 (.slice (some ⟨w.heap.size, 0, none⟩) 0 0) [] := World.ownsRow_lit w #[] 0 (Nat.le_refl _) (by unfold maxLen; omega) rfl
    obtain ⟨v', w', hr, ho, hg, -⟩ := Rec.app (P := Try.prog) (t := 33) Try.underlying33 hiu z0 z1 z2 rfl (by decide) hown1 (h.grow hb1) (by unfold maxLen; simp; omega) (by simp; omega) hb1.size
    rw [List.nil_append] at ho
    have hbf : Below w.heap.size w w' := hb1.grown hg hb1.size (fun p hp => by have h1 : w.heap.size = p := Option.some.inj hp; omega)
    have HR := Lib.hid hr
    have HO := Lib.hid ho
    have HB := Lib.hid hbf
    clear hr ho hg hbf hown1 hb1 h hiu z0 z1 z2
    have hnil : ∀ W : World, (binOp .eql 33 (.slice (some a) l.length c) (.slice none 0 0)).run Try.prog W = .ok (.bool false) W := fun W => Lib.run_eql_slice_nil W _ _ (some a) _ _ 0 0 Try.underlying33
    go_enter Try.func36, Try.ntmps36
    go_wp2_with (at_builtin; go_must (refine Lib.wpList_append_run _ rfl (.tmp 5) (.tmp 6) 33 33 rfl _ _ rfl rfl _ _ HR.out ?_))
    go_ret
    exact ⟨_, rfl, HO.out, HB.out⟩
end Go.Proofs.Ytlgjidoehnhnoaa
