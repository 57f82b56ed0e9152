/-
  slices.Clone, a node copied, cut at a place: the program's. No statement is proved here. No condition.
-/
import Derived.Test.YtedcknlafkokkaaNPut
import Derived.Test.YtedcknlafkokkaaNFind
import Derived.Lib.SliceRun
namespace Go.Proofs.Ytedcknlafkokkaa
open Go.RowKit

theorem info_C : (Try.prog.info? 59).map (fun i => (i.zero, i.size, i.bytes)) = some (some (.agg #[.string ⟨#[]⟩, .string ⟨#[]⟩, .int .i64 0, .int .i64 0]), 4, 48) := by kernel_rfl
theorem info_I : (Try.prog.info? 3).map (fun i => (i.zero, i.size, i.bytes)) = some (some (.int .i64 0), 1, 8) := by kernel_rfl
set_option maxRecDepth 100000 in
theorem clone_cells (l : List PC) (v : Value) (w : World) (h : CsN w Any v l) (hl : l.length ≤ 1000000) :
    Calls Try.prog 74 #[v] w fun e w' => ∃ A c, e = .returned (.slice A l.length c) ∧ w'.ownsRow w.heap.size 59 4 (.slice A l.length c) l.length (CsV l) ∧ Below w.heap.size w w' := by
  obtain ⟨iu, hiu, z0, z1, z2⟩ := info_parts info_C
  obtain ⟨A, c, rfl, h1, h2, h3, h4, h5⟩ := id h
  have HH := Lib.hid (RowN.at h)
  clear h h5
  cases A with
  | none =>
    have hc := h4 rfl
    have hl0 : l.length = 0 := by omega
    have hln : l = [] := List.eq_nil_of_length_eq_zero hl0
    subst hln hc
    have hnil : ∀ W : World, (binOp .eql 29 (.slice none 0 0) (.slice none 0 0)).run Try.prog W = .ok (.bool true) W := fun W => Lib.run_eql_slice_nil W _ _ none 0 0 0 0 Try.underlying29
    go_enter Try.func74, Try.ntmps74
    go_wp2_with fail
    go_ret
    exact ⟨none, 0, rfl, ⟨rfl, .inl ⟨rfl, rfl⟩⟩, Below.refl _ _⟩
  | some a =>
    have hb1 : Below w.heap.size w (w.alloc (.cells #[] 59)) := (Below.refl _ _).alloc (Nat.le_refl _) _
    have hown1 : (w.alloc (.cells #[] 59)).ownsRow w.heap.size 59 4 (.slice (some ⟨w.heap.size, 0, none⟩) 0 0) 0 [] := World.ownsRow_lit w #[] 0 (Nat.le_refl _) (by unfold maxLen; omega) rfl
    have hrow1 : RowAt (w.alloc (.cells #[] 59)) (.slice (some a) l.length c) l.length 4 (CsV l) := by
      obtain ⟨A', c', hv, q1, q2, q3, q4, q5⟩ := HH.out
      refine ⟨A', c', hv, q1, q2, q3, q4, fun h0 => ?_⟩
      obtain ⟨b, o, hA, hc⟩ := q5 h0
      exact ⟨b, o, hA, fun j u hj => by
        have h1 := hc j u hj
        have hb := World.block_lt_of_cell? w _ h1
        exact (hb1.cell (p := ⟨b, o + j, none⟩) hb).trans h1⟩
    have HO1 := Lib.hid hown1
    have HR1 := Lib.hid hrow1
    have HB1 := Lib.hid hb1
    have hs1 := hb1.size
    clear hown1 hrow1 hb1
    have hnil : ∀ W : World, (binOp .eql 29 (.slice (some a) l.length c) (.slice none 0 0)).run Try.prog W = .ok (.bool false) W := fun W => Lib.run_eql_slice_nil W _ _ (some a) _ _ 0 0 Try.underlying29
    go_enter Try.func74, Try.ntmps74
    go_wp2_with (at_builtin; go_must (refine wpList_appAt rfl (.tmp 5) (.tmp 6) 29 rfl w.heap.size 59 iu _ 4 48 Try.underlying29 hiu z0 z1 z2 rfl (by decide) _ _ 0 [] l.length (CsV l) rfl rfl HO1.out HR1.out (CsV_one _) (by unfold maxLen; omega) (by omega) hs1 ?_; intro A7 c7 w7 ho7 hg7 hat7))
    have ho : w7.ownsRow w.heap.size 59 4 (.slice A7 l.length c7) l.length (CsV l) := by
      have := ho7
      rw [Nat.zero_add] at this
      exact this
    have hbf : Below w.heap.size w w7 := HB1.out.grown hg7 hs1 (fun p hp => by have h1 : w.heap.size = p := Option.some.inj hp; omega)
    have HOF := Lib.hid ho
    have HBF := Lib.hid hbf
    clear ho7 ho hg7 hat7 hbf
    go_wp2_with fail
    go_ret
    exact ⟨A7, c7, rfl, HOF.out, HBF.out⟩
set_option maxRecDepth 100000 in
theorem clone_ints (l : List Int) (v : Value) (w : World) (h : KsN w Any v l) (hl : l.length ≤ 1000000) :
    Calls Try.prog 75 #[v] w fun e w' => ∃ A c, e = .returned (.slice A l.length c) ∧ w'.ownsRow w.heap.size 3 1 (.slice A l.length c) l.length (KsV l) ∧ Below w.heap.size w w' := by
  obtain ⟨iu, hiu, z0, z1, z2⟩ := info_parts info_I
  obtain ⟨A, c, rfl, h1, h2, h3, h4, h5⟩ := id h
  have HH := Lib.hid (RowN.at h)
  clear h h5
  cases A with
  | none =>
    have hc := h4 rfl
    have hl0 : l.length = 0 := by omega
    have hln : l = [] := List.eq_nil_of_length_eq_zero hl0
    subst hln hc
    have hnil : ∀ W : World, (binOp .eql 23 (.slice none 0 0) (.slice none 0 0)).run Try.prog W = .ok (.bool true) W := fun W => Lib.run_eql_slice_nil W _ _ none 0 0 0 0 Try.underlying23
    go_enter Try.func75, Try.ntmps75
    go_wp2_with fail
    go_ret
    exact ⟨none, 0, rfl, ⟨rfl, .inl ⟨rfl, rfl⟩⟩, Below.refl _ _⟩
  | some a =>
    have hb1 : Below w.heap.size w (w.alloc (.cells #[] 3)) := (Below.refl _ _).alloc (Nat.le_refl _) _
    have hown1 : (w.alloc (.cells #[] 3)).ownsRow w.heap.size 3 1 (.slice (some ⟨w.heap.size, 0, none⟩) 0 0) 0 [] := World.ownsRow_lit w #[] 0 (Nat.le_refl _) (by unfold maxLen; omega) rfl
    have hrow1 : RowAt (w.alloc (.cells #[] 3)) (.slice (some a) l.length c) l.length 1 (KsV l) := by
      obtain ⟨A', c', hv, q1, q2, q3, q4, q5⟩ := HH.out
      refine ⟨A', c', hv, q1, q2, q3, q4, fun h0 => ?_⟩
      obtain ⟨b, o, hA, hc⟩ := q5 h0
      exact ⟨b, o, hA, fun j u hj => by
        have h1 := hc j u hj
        have hb := World.block_lt_of_cell? w _ h1
        exact (hb1.cell (p := ⟨b, o + j, none⟩) hb).trans h1⟩
    have HO1 := Lib.hid hown1
    have HR1 := Lib.hid hrow1
    have HB1 := Lib.hid hb1
    have hs1 := hb1.size
    clear hown1 hrow1 hb1
    have hnil : ∀ W : World, (binOp .eql 23 (.slice (some a) l.length c) (.slice none 0 0)).run Try.prog W = .ok (.bool false) W := fun W => Lib.run_eql_slice_nil W _ _ (some a) _ _ 0 0 Try.underlying23
    go_enter Try.func75, Try.ntmps75
    go_wp2_with (at_builtin; go_must (refine wpList_appAt rfl (.tmp 5) (.tmp 6) 23 rfl w.heap.size 3 iu _ 1 8 Try.underlying23 hiu z0 z1 z2 rfl (by decide) _ _ 0 [] l.length (KsV l) rfl rfl HO1.out HR1.out (KsV_one _) (by unfold maxLen; omega) (by omega) hs1 ?_; intro A7 c7 w7 ho7 hg7 hat7))
    have ho : w7.ownsRow w.heap.size 3 1 (.slice A7 l.length c7) l.length (KsV l) := by
      have := ho7
      rw [Nat.zero_add] at this
      exact this
    have hbf : Below w.heap.size w w7 := HB1.out.grown hg7 hs1 (fun p hp => by have h1 : w.heap.size = p := Option.some.inj hp; omega)
    have HOF := Lib.hid ho
    have HBF := Lib.hid hbf
    clear ho7 ho hg7 hat7 hbf
    go_wp2_with fail
    go_ret
    exact ⟨A7, c7, rfl, HOF.out, HBF.out⟩
end Go.Proofs.Ytedcknlafkokkaa
