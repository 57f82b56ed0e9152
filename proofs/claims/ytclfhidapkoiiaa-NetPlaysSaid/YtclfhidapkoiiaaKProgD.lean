/-
  The program's net: All and Copy. No statement is proved here. No condition.
-/
import Derived.Test.YtclfhidapkoiiaaKProgC
import Derived.Lib.SliceRun
namespace Go.Proofs.Ytclfhidapkoiiaa
open Go.RowKit

set_option maxRecDepth 100000 in
theorem pclone_any (l : List PK) (v : Value) (w : World) (h : pkR.N w Any v l) (hl : l.length ≤ 1000000) :
    Calls Try.prog 22 #[v] w fun e w' => ∃ v', e = .returned v' ∧ pkR.Own w' w.heap.size 36 v' l ∧ Below w.heap.size w w' := by
  obtain ⟨iu, hiu, z0, z1, z2⟩ := info_parts info_PK
  obtain ⟨A, c, rfl, h2, h3⟩ := h.slice
  cases A with
  | none =>
    have hc : c = 0 := by
      obtain ⟨A', c', hv, -, -, -, h4, -⟩ := h
      injection hv with e1 _ e3
      subst e3
      exact h4 e1.symm
    have hl0 : l.length = 0 := by omega
    have hln : l = [] := List.eq_nil_of_length_eq_zero hl0
    subst hln hc
    have hnil : ∀ W : World, (binOp .eql 43 (.slice none 0 0) (.slice none 0 0)).run Try.prog W = .ok (.bool true) W := fun W => Lib.run_eql_slice_nil W _ _ none 0 0 0 0 Try.underlying43
    go_enter Try.func22, Try.ntmps22
    go_wp2_with fail
    go_ret
    exact ⟨_, rfl, Rec.Own.none _ _ _ _, Below.refl _ _⟩
  | some a =>
    have hb1 : Below w.heap.size w (w.alloc (.cells #[] 36)) := (Below.refl _ _).alloc (Nat.le_refl _) _
    have hown1 : pkR.Own (w.alloc (.cells #[] 36)) w.heap.size 36 (.slice (some ⟨w.heap.size, 0, none⟩) 0 0) [] := World.ownsRow_lit w #[] 0 (Nat.le_refl _) (by unfold maxLen; omega) rfl
    obtain ⟨v', w', hr, ho, hg, -⟩ := Rec.app (P := Try.prog) (t := 43) Try.underlying43 hiu z0 z1 z2 rfl (by decide) hown1 (h.grow hb1) (by unfold maxLen; simp; omega) (by simp; omega) hb1.size
    rw [List.nil_append] at ho
    have hbf : Below w.heap.size w w' := hb1.grown hg hb1.size (fun p hp => by have h1 : w.heap.size = p := Option.some.inj hp; omega)
    have HR := Lib.hid hr
    have HO := Lib.hid ho
    have HB := Lib.hid hbf
    clear hr ho hg hbf hown1 hb1 h hiu z0 z1 z2
    have hnil : ∀ W : World, (binOp .eql 43 (.slice (some a) l.length c) (.slice none 0 0)).run Try.prog W = .ok (.bool false) W := fun W => Lib.run_eql_slice_nil W _ _ (some a) _ _ 0 0 Try.underlying43
    go_enter Try.func22, Try.ntmps22
    go_wp2_with (at_builtin; go_must (refine Lib.wpList_append_run _ rfl (.tmp 5) (.tmp 6) 43 43 rfl _ _ rfl rfl _ _ HR.out ?_))
    go_ret
    exact ⟨_, rfl, HO.out, HB.out⟩
set_option maxRecDepth 100000 in
theorem pall_any (n : NT) (B p : Nat) (v : Value) (w : World) (h : PNetM w B p 54 36 v n) (hn : n.row.length ≤ 1000) :
    Calls Try.prog 15 #[.pointer (some ⟨p, 0, none⟩)] w fun e w' => ∃ v', e = .returned v' ∧ pkR.Own w' w.heap.size 36 v' n.row ∧ Below w.heap.size w w' := by
  obtain ⟨A, c, rfl⟩ := h.row.slice
  have c1 : w.cell? ⟨p, 1, none⟩ = some (.slice A n.row.length c) := (blk_cells h.net).1 1
  have cC := pclone_any n.row _ w h.row.n.any (by omega)
  clear h
  go_enter Try.func15, Try.ntmps15
  go_wp2_with fail
  refine cC.mono ?_
  rintro e w2 ⟨v', rfl, h1, h2⟩
  have H1 := Lib.hid h1
  have H2 := Lib.hid h2
  obtain ⟨A2, c2, rfl⟩ := h1.slice
  clear cC h1 h2
  go_wp2_with fail
  go_ret
  exact ⟨_, rfl, H1.out, H2.out⟩
set_option maxHeartbeats 1000000 in
set_option maxRecDepth 100000 in
theorem pcopy_any (n : NT) (B p : Nat) (v : Value) (w : World) (h : PNetM w B p 54 36 v n) (hn : n.row.length ≤ 1000) :
    Calls Try.prog 14 #[.pointer (some ⟨p, 0, none⟩)] w fun e w' => ∃ q v', e = .returned (.pointer (some ⟨q, 0, none⟩)) ∧ PNetM w' w.heap.size q 54 36 v' n ∧ Below w.heap.size w w' ∧ (∀ g, v'.ownBlock = some g → w.heap.size ≤ g) := by
  obtain ⟨A, c, rfl⟩ := h.row.slice
  have hz := zero_net
  obtain ⟨w1, hw1⟩ : ∃ w1, w1 = w.alloc (.cells #[.int .i64 (n.most : Int), .slice A n.row.length c, .int .i64 (n.lost : Int)] 54) := ⟨_, rfl⟩
  have hb1 : Below w.heap.size w w1 := by rw [hw1]; exact (Below.refl _ _).alloc (Nat.le_refl _) _
  have hx1 : w1.heap[w.heap.size]? = some (.cells #[.int .i64 (n.most : Int), .slice A n.row.length c, .int .i64 (n.lost : Int)] 54 (0, 0)) := by rw [hw1]; exact heap_alloc_new w _
  have hs1 : w1.heap.size = w.heap.size + 1 := by rw [hw1]; simp
  have h1 := h.grow hb1
  obtain ⟨c0, c1, c2⟩ : w.cell? ⟨p, 0, none⟩ = some (.int .i64 (n.most : Int)) ∧ w.cell? ⟨p, 1, none⟩ = some (.slice A n.row.length c) ∧ w.cell? ⟨p, 2, none⟩ = some (.int .i64 (n.lost : Int)) := ⟨(blk_cells h.net).1 0, (blk_cells h.net).1 1, (blk_cells h.net).1 2⟩
  have e1 : w1.cell? ⟨p, 1, none⟩ = some (.slice A n.row.length c) := (blk_cells h1.net).1 1
  have cC := pclone_any n.row _ w1 h1.row.n.any (by omega)
  have HX1 := Lib.hid hx1
  have HB1 := Lib.hid hb1
  have HS1 := Lib.hid hs1
  have HW1 := Lib.hid hw1
  clear h h1 hx1 hb1 hs1 hw1
  go_enter Try.func14, Try.ntmps14
  go_upto_region 4 with fail
  rw [← HW1.out]
  go_wp2_with fail
  refine cC.mono ?_
  rintro e w2 ⟨v', rfl, h1, h2⟩
  have hx2 : w2.heap[w.heap.size]? = some (.cells #[.int .i64 (n.most : Int), .slice A n.row.length c, .int .i64 (n.lost : Int)] 54 (0, 0)) := (h2.block _ (by have := HS1.out; omega)).trans HX1.out
  have hb2 : Below w.heap.size w w2 := HB1.out.trans (Joins.below_le h2 HB1.out.size)
  have hv : ∀ g, v'.ownBlock = some g → w.heap.size + 1 ≤ g := fun g hg => by have := (h1.lt g hg).1; have := HS1.out; omega
  obtain ⟨A2, c2', rfl⟩ := h1.slice
  have hnet : PNetM (w2.setCell ⟨w.heap.size, 1, none⟩ (.slice A2 n.row.length c2')) w.heap.size w.heap.size 54 36 (.slice A2 n.row.length c2') n := ⟨setR_at hx2, Nat.le_refl _, (own_far h1 fun b hb => heap_setCell_far _ _ _ _ (by have := hv b hb; omega)).base (by have := HS1.out; omega)⟩
  have hbf : Below w.heap.size w (w2.setCell ⟨w.heap.size, 1, none⟩ (.slice A2 n.row.length c2')) := hb2.setCell (p := ⟨w.heap.size, 1, none⟩) (Nat.le_refl _) _
  obtain ⟨s1, s2⟩ : w2.cell? ⟨w.heap.size, 1, none⟩ = some (.slice A n.row.length c) ∧ w2.frozen? ⟨w.heap.size, 1, none⟩ = false := ⟨(blk_cells hx2).1 1, (blk_cells hx2).2 1⟩
  have HN := Lib.hid hnet
  have HBF := Lib.hid hbf
  have HV := Lib.hid hv
  clear cC h1 h2 hx2 hb2 hv hnet hbf c0 c1 c2 e1
  go_wp2_with fail
  go_ret
  exact ⟨_, _, rfl, HN.out, HBF.out, fun g hg => by have := HV.out g hg; omega⟩
end Go.Proofs.Ytclfhidapkoiiaa
