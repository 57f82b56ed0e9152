/-
  slices.Clone of rows. No statement is proved here. No condition.
-/
import Derived.Test.YtblbcoknefgcaaaMPlain
import Derived.Lib.SliceRun
namespace Go.Proofs.Ytblbcoknefgcaaa
open Go.RowKit

theorem info_parts {P : Program} {T : TypeId} {z : Value} {s b : Nat} (h : (P.info? T).map (fun i => (i.zero, i.size, i.bytes)) = some (some z, s, b)) : ∃ i, P.info? T = some i ∧ i.zero = some z ∧ i.size = s ∧ i.bytes = b := by
  cases hi : P.info? T with
  | none => rw [hi] at h; cases h
  | some i =>
    rw [hi] at h
    injection h with h
    injection h with h1 h2
    injection h2 with h2 h3
    exact ⟨i, rfl, h1, h2, h3⟩
theorem info_cEntry : (Try.prog.info? 79).map (fun i => (i.zero, i.size, i.bytes)) = some (some (.agg #[.int .i64 0, .int .u8 0, .string ⟨#[]⟩, .slice none 0 0]), 4, 56) := by kernel_rfl
theorem info_cint : (Try.prog.info? 3).map (fun i => (i.zero, i.size, i.bytes)) = some (some (.int .i64 0), 1, 8) := by kernel_rfl
theorem info_cPair : (Try.prog.info? 67).map (fun i => (i.zero, i.size, i.bytes)) = some (some (.agg #[.string ⟨#[]⟩, .string ⟨#[]⟩]), 2, 32) := by kernel_rfl
theorem info_cLast : (Try.prog.info? 88).map (fun i => (i.zero, i.size, i.bytes)) = some (some (.agg #[.int .i64 0, .int .i64 0, .int .u8 0, .bool false, .string ⟨#[]⟩]), 5, 40) := by kernel_rfl

set_option maxRecDepth 100000 in
theorem cloneint_any (l : List Int) (v : Value) (w : World) (h : inR.N w Any v l) (hl : l.length ≤ 17592186044416) :
    Calls Try.prog 69 #[v] w fun e w' => ∃ v', e = .returned v' ∧ inR.Own w' w.heap.size 3 v' l ∧ Below w.heap.size w w' := by
  obtain ⟨iu, hiu, z0, z1, z2⟩ := info_parts info_cint
  obtain ⟨A, c, rfl, h2, h3⟩ := h.slice
  cases A with
  | none =>
    have hc : c = 0 := by
      obtain ⟨A', c', hv, -, -, -, h4, -⟩ := h
      injection hv with e1 _ e3
      subst e3
      exact h4 e1.symm
    have hl0 : l.length = 0 := by omega
    have hln : l = [] := List.eq_nil_of_length_eq_zero hl0
    subst hln hc
    have hnil : ∀ W : World, (binOp .eql 32 (.slice none 0 0) (.slice none 0 0)).run Try.prog W = .ok (.bool true) W := fun W => Lib.run_eql_slice_nil W _ _ none 0 0 0 0 Try.underlying32
    go_enter Try.func69, Try.ntmps69
    go_wp2_with fail
    go_ret
    exact ⟨_, rfl, Rec.Own.none _ _ _ _, Below.refl _ _⟩
  | some a =>
    have hb1 : Below w.heap.size w (w.alloc (.cells #[] 3)) := (Below.refl _ _).alloc (Nat.le_refl _) _
    have hown1 : inR.Own (w.alloc (.cells #[] 3)) w.heap.size 3 (.slice (some ⟨w.heap.size, 0, none⟩) 0 0) [] := World.ownsRow_lit w #[] 0 (Nat.le_refl _) (by unfold maxLen; omega) rfl
    obtain ⟨v', w', hr, ho, hg, -⟩ := Rec.app (P := Try.prog) (t := 32) Try.underlying32 hiu z0 z1 z2 rfl (by decide) hown1 (h.grow hb1) (by unfold maxLen; simp; omega) (by simp; omega) hb1.size
    rw [List.nil_append] at ho
    have hbf : Below w.heap.size w w' := hb1.grown hg hb1.size (fun p hp => by have h1 : w.heap.size = p := Option.some.inj hp; omega)
    have HR := Lib.hid hr
    have HO := Lib.hid ho
    have HB := Lib.hid hbf
    clear hr ho hg hbf hown1 hb1 h hiu z0 z1 z2
    have hnil : ∀ W : World, (binOp .eql 32 (.slice (some a) l.length c) (.slice none 0 0)).run Try.prog W = .ok (.bool false) W := fun W => Lib.run_eql_slice_nil W _ _ (some a) _ _ 0 0 Try.underlying32
    go_enter Try.func69, Try.ntmps69
    go_wp2_with (at_builtin; go_must (refine Lib.wpList_append_run _ rfl (.tmp 5) (.tmp 6) 32 32 rfl _ _ rfl rfl _ _ HR.out ?_))
    go_ret
    exact ⟨_, rfl, HO.out, HB.out⟩

end Go.Proofs.Ytblbcoknefgcaaa
