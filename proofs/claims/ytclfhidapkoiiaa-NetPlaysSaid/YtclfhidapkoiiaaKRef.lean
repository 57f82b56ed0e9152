/-
  The document's net (package butteryref10): New, add, Send, Double. No statement is proved here. No condition.
-/
import Derived.Test.YtclfhidapkoiiaaKMem
namespace Go.Proofs.Ytclfhidapkoiiaa
open Go.RowKit

theorem info_RK : (Try.prog.info? 39).map (fun i => (i.zero, i.size, i.bytes)) = some (some (.agg #[.int .i64 0, .int .i64 0, .string ⟨#[]⟩]), 3, 32) := by kernel_rfl
theorem types_R : 47 ≠ 39 := by decide
set_option maxHeartbeats 4000000 in
set_option maxRecDepth 100000 in
theorem radd_any (n : NT) (x : PK) (k B p : Nat) (v : Value) (w : World) (h : NetM w B p 47 39 v n) (hn : n.ok k) (hk : k ≤ 1000000) (hB : B ≤ w.heap.size) :
    Calls Try.prog 20 #[.pointer (some ⟨p, 0, none⟩), x.agg] w fun e w' => e = .returned (.int .i64 (n.add x).2) ∧ ∃ v', NetM w' B p 47 39 v' (n.add x).1 ∧ Below B w w' ∧ Moved p v w w' ∧ (∀ g, v'.ownBlock = some g → v.ownBlock = some g ∨ w.heap.size ≤ g) := by
  obtain ⟨A, c, rfl⟩ := h.row.slice
  obtain ⟨w1, hw1⟩ : ∃ w1, w1 = w.alloc (.cells #[.int .i64 x.frm, .int .i64 x.dst, .string x.data] 39) := ⟨_, rfl⟩
  have hb1 : Below w.heap.size w w1 := by rw [hw1]; exact (Below.refl _ _).alloc (Nat.le_refl _) _
  have hx1 : w1.heap[w.heap.size]? = some (.cells #[.int .i64 x.frm, .int .i64 x.dst, .string x.data] 39 (0, 0)) := by rw [hw1]; exact heap_alloc_new w _
  have hs1 : w1.heap.size = w.heap.size + 1 := by rw [hw1]; simp
  have h1 := h.grow hb1
  obtain ⟨c0, c1, c2⟩ : w1.cell? ⟨p, 0, none⟩ = some (.int .i64 (n.most : Int)) ∧ w1.cell? ⟨p, 1, none⟩ = some (.int .i64 (n.lost : Int)) ∧ w1.cell? ⟨p, 2, none⟩ = some (.slice A n.row.length c) := ⟨(blk_cells h1.net).1 0, (blk_cells h1.net).1 1, (blk_cells h1.net).1 2⟩
  obtain ⟨z1, z2⟩ : w1.frozen? ⟨p, 1, none⟩ = false ∧ w1.frozen? ⟨p, 2, none⟩ = false := ⟨(blk_cells h1.net).2 1, (blk_cells h1.net).2 2⟩
  obtain ⟨d0, d1, d2⟩ : w1.cell? ⟨w.heap.size, 0, none⟩ = some (.int .i64 x.frm) ∧ w1.cell? ⟨w.heap.size, 1, none⟩ = some (.int .i64 x.dst) ∧ w1.cell? ⟨w.heap.size, 2, none⟩ = some (.string x.data) := ⟨(blk_cells hx1).1 0, (blk_cells hx1).1 1, (blk_cells hx1).1 2⟩
  have hl1 : wrap64 ((n.lost : Int) + 1) = (n.lost : Int) + 1 := by have := hn.lost; unfold wrap64; omega
  have hl2 : IntKind.i64.wrap ((n.lost : Int) + 1) = (n.lost : Int) + 1 := IntWalk.i64_in _ (by have := hn.lost; omega)
  have hap := h.apart types_R
  have hp := h.lt
  have H := Lib.hid h
  have H1 := Lib.hid h1
  have HN := Lib.hid hn
  have HB1 := Lib.hid hb1
  have HW1 := Lib.hid hw1
  have HS1 := Lib.hid hs1
  have HAP := Lib.hid hap
  clear h h1 hn hb1 hw1 hs1 hx1 hap
  unfold PK.agg
  go_enter Try.func20, Try.ntmps20
  go_upto_region 1 with fail
  rw [← HW1.out]
  go_region
  by_cases hf : n.most ≤ n.row.length
  · have hf2 : (n.most : Int) ≤ (n.row.length : Int) := by omega
    have hadd : n.add x = ({ n with lost := n.lost + 1 }, 3) := by unfold NT.add; rw [if_pos hf]
    have hnet : NetM (w1.drew.setCell ⟨p, 1, none⟩ (.int .i64 ((n.lost : Int) + 1))) B p 47 39 (.slice A n.row.length c) { n with lost := n.lost + 1 } :=
      ⟨by have := set1_at (x := .int .i64 ((n.lost : Int) + 1)) (w := w1.drew) H1.out.net; rw [this]; rfl, H1.out.base, own_far H1.out.row fun b hb => heap_setCell_far _ _ _ _ (fun e => HAP.out (by rw [← e]; exact hb))⟩
    have hbel : Below B w (w1.drew.setCell ⟨p, 1, none⟩ (.int .i64 ((n.lost : Int) + 1))) := (Joins.below_le HB1.out.drew hB).setCell (p := ⟨p, 1, none⟩) H.out.base _
    have hmv : Moved p (.slice A n.row.length c) w (w1.drew.setCell ⟨p, 1, none⟩ (.int .i64 ((n.lost : Int) + 1))) := fun b hb hne _ => (heap_setCell_far _ _ _ _ hne).trans (HB1.out.block b hb)
    have HNE := Lib.hid hnet
    have HBE := Lib.hid hbel
    have HMV := Lib.hid hmv
    have HAD := Lib.hid hadd
    clear hnet hbel hmv hadd
    go_wp2_with fail
    go_ret
    rw [HAD.out]
    exact ⟨rfl, _, HNE.out, HBE.out, HMV.out, fun g hg => .inl hg⟩
  · have hf2 : ¬ (n.most : Int) ≤ (n.row.length : Int) := by omega
    have hadd : n.add x = ({ n with row := n.row ++ [x] }, 0) := by unfold NT.add; rw [if_neg hf]
    obtain ⟨w2, hw2⟩ : ∃ w2, w2 = w1.drew := ⟨_, rfl⟩
    rw [← hw2]
    have hb2 : Below w.heap.size w w2 := by rw [hw2]; exact HB1.out.drew
    have hs2 : w2.heap.size = w.heap.size + 1 := by rw [hw2]; exact HS1.out
    obtain ⟨e0, e1, e2, e3⟩ : w2.cell? ⟨p, 2, none⟩ = some (.slice A n.row.length c) ∧ w2.cell? ⟨w.heap.size, 0, none⟩ = some (.int .i64 x.frm) ∧ w2.cell? ⟨w.heap.size, 1, none⟩ = some (.int .i64 x.dst) ∧ w2.cell? ⟨w.heap.size, 2, none⟩ = some (.string x.data) := by rw [hw2]; exact ⟨c2, d0, d1, d2⟩
    have h2 := H.out.grow hb2
    obtain ⟨w3, hw3⟩ : ∃ w3, w3 = (w2.alloc (.cells #[.int .i64 x.frm, .int .i64 x.dst, .string x.data] 39)).drew := ⟨_, rfl⟩
    have hb3 : Below w2.heap.size w2 w3 := by rw [hw3]; exact ((Below.refl _ _).alloc (Nat.le_refl _) _).drew
    have hx3 : w3.heap[w2.heap.size]? = some (.cells (pkR.vals x).toArray 39 (0, 0)) := by rw [hw3]; exact heap_alloc_new w2 _
    have hs3 : w3.heap.size = w2.heap.size + 1 := by rw [hw3, drew_heap]; simp
    have h3 := h2.grow hb3
    obtain ⟨iu, hiu, y0, y1, y2⟩ := info_parts info_RK
    have hml := HN.out.most
    obtain ⟨v4, w4, hr, ho, hg, hat⟩ := Rec.app (P := Try.prog) (t := 44) Try.underlying44 hiu y0 y1 y2 rfl (by decide) h3.row (Rec.one_row (R := pkR) (N := Any) hx3 trivial) (by unfold maxLen; simp; omega) (by simp; omega) (by omega)
    obtain ⟨A4, c4, hv4e⟩ := ho.slice
    rw [show (n.row ++ [x]).length = n.row.length + 1 by simp] at hv4e
    subst hv4e
    have hr' : (Builtin.append_ #[44, 44] 44 #[.slice A n.row.length c, .slice (some ⟨w2.heap.size, 0, none⟩) 1 1]).run Try.prog ((w2.alloc (.cells #[.int .i64 x.frm, .int .i64 x.dst, .string x.data] 39)).drew) = .ok (.slice A4 (n.row.length + 1) c4) w4 := by rw [← hw3]; exact hr
    have hp4 : w4.heap[p]? = w3.heap[p]? := hg.block p (by omega) (fun e => HAP.out e.symm)
    have hn4 := hp4.trans h3.net
    obtain ⟨q2, q3⟩ : w4.cell? ⟨p, 2, none⟩ = some (.slice A n.row.length c) ∧ w4.frozen? ⟨p, 2, none⟩ = false := ⟨(blk_cells hn4).1 2, (blk_cells hn4).2 2⟩
    have hv4 : ∀ g, (Value.slice A4 (n.row.length + 1) c4).ownBlock = some g → (Value.slice A n.row.length c).ownBlock = some g ∨ w.heap.size ≤ g := fun g hg4 => by
      rcases hat with hat | hat
      · exact .inl (by rw [← hat]; exact hg4)
      · rw [hat] at hg4
        have := Option.some.inj hg4
        exact .inr (by omega)
    have hv4p : (Value.slice A4 (n.row.length + 1) c4).ownBlock ≠ some p := fun e => by
      rcases hv4 p e with h | h
      · exact HAP.out h
      · omega
    have hnet : NetM (w4.setCell ⟨p, 2, none⟩ (.slice A4 (n.row.length + 1) c4)) B p 47 39 (.slice A4 (n.row.length + 1) c4) { n with row := n.row ++ [x] } := ⟨set2_at hn4, H.out.base, own_far ho fun b hb => heap_setCell_far _ _ _ _ (fun e => hv4p (by rw [← e]; exact hb))⟩
    have hb4 : Below B w w4 := ((Joins.below_le hb2 hB).trans (Joins.below_le hb3 (by omega))).grown hg (by omega) fun g hg => (h3.row.lt g hg).1
    have hbel : Below B w (w4.setCell ⟨p, 2, none⟩ (.slice A4 (n.row.length + 1) c4)) := hb4.setCell (p := ⟨p, 2, none⟩) H.out.base _
    have hmv : Moved p (.slice A n.row.length c) w (w4.setCell ⟨p, 2, none⟩ (.slice A4 (n.row.length + 1) c4)) := fun b hb hne hnv => (heap_setCell_far _ _ _ _ hne).trans ((hg.block b (by omega) (fun e => hnv e.symm)).trans ((hb3.block b (by omega)).trans (hb2.block b hb)))
    have hb3' : Below w2.heap.size w2 (w2.alloc (.cells #[.int .i64 x.frm, .int .i64 x.dst, .string x.data] 39)) := (Below.refl _ _).alloc (Nat.le_refl _) _
    have j0 : (w2.alloc (.cells #[.int .i64 x.frm, .int .i64 x.dst, .string x.data] 39)).cell? ⟨p, 2, none⟩ = some (.slice A n.row.length c) := (hb3'.cell (p := ⟨p, 2, none⟩) (by show p < _; omega)).trans e0
    have hp2 : p < w2.heap.size := by omega
    clear hb3'
    have HR := Lib.hid hr'
    have HNE := Lib.hid hnet
    have HBE := Lib.hid hbel
    have HMV := Lib.hid hmv
    have HV4 := Lib.hid hv4
    have HAD := Lib.hid hadd
    clear hr hr' hnet hbel hmv hv4 hadd hb2 hb3 hb4 h2 h3 hw2 hw3 hx3 hp4 hn4 ho hg hat hiu y0 y1 y2 hv4p c0 c1 c2 d0 d1 d2 hs2 hs3
    go_upto_region 4 with fail
    go_region_law (refine stepApp rfl (.tmp 26) (.tmp 28) 44 rfl (.slice A n.row.length c) (.slice (some ⟨w2.heap.size, 0, none⟩) 1 1) rfl rfl (by with_reducible exact HR.out) ?_)
    all_goals go_wp2_with fail
    all_goals go_ret
    all_goals rw [HAD.out]
    all_goals exact ⟨rfl, _, HNE.out, HBE.out, HMV.out, HV4.out⟩
set_option maxRecDepth 100000 in
theorem rnew_any (m : Int) (w : World) :
    Calls Try.prog 5 #[.int .i64 m] w fun e w' => (newErr m ≠ 0 ∧ e = .returned (.tuple #[.pointer none, .int .i64 1]) ∧ w' = w) ∨ (newErr m = 0 ∧ e = .returned (.tuple #[.pointer (some ⟨w.heap.size, 0, none⟩), .int .i64 0]) ∧ NetM w' w.heap.size w.heap.size 47 39 (.slice none 0 0) (NT.new m.toNat) ∧ Below w.heap.size w w') := by
  have hz : ∀ W, (zeroValue 47).run Try.prog W = .ok (.agg #[.int .i64 0, .int .i64 0, .slice none 0 0]) W := fun W => by kernel_rfl
  go_enter Try.func5, Try.ntmps5
  by_cases h1 : m < 0
  · go_wp2_with fail
    go_ret2
    exact .inl ⟨by unfold newErr; rw [if_pos (.inl h1)]; decide, rfl, rfl⟩
  · by_cases h2 : 1000 < m
    · go_wp2_with fail
      go_ret2
      exact .inl ⟨by unfold newErr; rw [if_pos (.inr h2)]; decide, rfl, rfl⟩
    · have hb : Below w.heap.size w (w.alloc (.cells #[.int .i64 m, .int .i64 0, .slice none 0 0] 47)) := (Below.refl _ _).alloc (Nat.le_refl _) _
      have hx : (w.alloc (.cells #[.int .i64 m, .int .i64 0, .slice none 0 0] 47)).heap[w.heap.size]? = some (.cells #[.int .i64 m, .int .i64 0, .slice none 0 0] 47 (0, 0)) := heap_alloc_new w _
      have HB := Lib.hid hb
      have HX := Lib.hid hx
      clear hb hx
      go_wp2_with fail
      go_ret2
      refine .inr ⟨by unfold newErr; rw [if_neg (by omega)], rfl, ⟨?_, Nat.le_refl _, Rec.Own.none _ _ _ _⟩, HB.out⟩
      have e : ((m.toNat : Nat) : Int) = m := by omega
      refine HX.out.trans ?_
      show some (Obj.cells #[Value.int .i64 m, Value.int .i64 0, Value.slice none 0 0] _ (0, 0)) = some (Obj.cells #[Value.int .i64 ((m.toNat : Nat) : Int), Value.int .i64 ((0 : Nat) : Int), Value.slice none 0 0] _ (0, 0))
      rw [e]
      rfl
set_option maxRecDepth 100000 in
theorem rsend_any (n : NT) (x : PK) (k B p : Nat) (v : Value) (w : World) (h : NetM w B p 47 39 v n) (hn : n.ok k) (hk : k ≤ 1000000) (hB : B ≤ w.heap.size) :
    Calls Try.prog 7 #[.pointer (some ⟨p, 0, none⟩), .int .i64 x.frm, .int .i64 x.dst, .string x.data] w fun e w' => e = .returned (.int .i64 (n.send x).2) ∧ ∃ v', NetM w' B p 47 39 v' (n.send x).1 ∧ Below B w w' ∧ Moved p v w w' ∧ (∀ g, v'.ownBlock = some g → v.ownBlock = some g ∨ w.heap.size ≤ g) := by
  have cA := radd_any n x k B p v w h hn hk hB
  have H := Lib.hid h
  have hz : ∀ W, (zeroValue 39).run Try.prog W = .ok (.agg #[.int .i64 0, .int .i64 0, .string ⟨#[]⟩]) W := fun W => by kernel_rfl
  unfold PK.agg at cA
  obtain ⟨S, hS⟩ : ∃ S, S = n.send x := ⟨_, rfl⟩
  obtain ⟨D, hD⟩ : ∃ D, D = n.add x := ⟨_, rfl⟩
  rw [← hS]
  rw [← hD] at cA
  have HS := Lib.hid hS
  have HD := Lib.hid hD
  clear h hS hD
  go_enter Try.func7, Try.ntmps7
  by_cases hl : 400 < x.data.size
  · have hl2 : (400 : Int) < (x.data.size : Int) := by omega
    have he : S = (n, 40) := by rw [HS.out]; unfold NT.send; rw [if_pos hl]
    have HE := Lib.hid he
    clear he cA
    go_wp2_with fail
    go_ret
    rw [HE.out]
    exact ⟨rfl, _, H.out, Below.refl _ _, fun _ _ _ _ => rfl, fun _ h => .inl h⟩
  · have hl2 : ¬ (400 : Int) < (x.data.size : Int) := by omega
    have he : S = D := by rw [HS.out, HD.out]; unfold NT.send; rw [if_neg hl]
    have HE := Lib.hid he
    clear he
    go_wp2_with fail
    refine cA.mono ?_
    rintro e w2 ⟨rfl, v', h1, h2, h3, h4⟩
    have H1 := Lib.hid h1
    have H2 := Lib.hid h2
    have H3 := Lib.hid h3
    have H4 := Lib.hid h4
    clear cA h1 h2 h3 h4
    go_wp2_with fail
    go_ret
    rw [HE.out]
    exact ⟨rfl, _, H1.out, H2.out, H3.out, H4.out⟩
theorem pk_cell {w : World} {N : Nat → Prop} {v : Value} {l : List PK} (h : pkR.N w N v l) {i : Nat} {p : PK} (hi : l[i]? = some p) :
    ∃ b o n k, v = .slice (some ⟨b, o, none⟩) n k ∧ N b ∧ b < w.heap.size ∧ w.cell? ⟨b, o + i * 3, none⟩ = some (.int .i64 p.frm) ∧ w.cell? ⟨b, o + i * 3 + 1, none⟩ = some (.int .i64 p.dst) ∧ w.cell? ⟨b, o + i * 3 + 2, none⟩ = some (.string p.data) := by
  obtain ⟨b, o, n, k, hv, hb, hs, hc⟩ := h.cell hi
  exact ⟨b, o, n, k, hv, hb, hs, hc 0 _ rfl, hc 1 _ rfl, hc 2 _ rfl⟩
set_option maxHeartbeats 1000000 in
set_option maxRecDepth 100000 in
theorem rdouble_any (n : NT) (i : Int) (k B p : Nat) (v : Value) (w : World) (h : NetM w B p 47 39 v n) (hn : n.ok k) (hk : k ≤ 1000000) (hB : B ≤ w.heap.size) :
    Calls Try.prog 12 #[.pointer (some ⟨p, 0, none⟩), .int .i64 i] w fun e w' => e = .returned (.int .i64 (n.double i).2) ∧ ∃ v', NetM w' B p 47 39 v' (n.double i).1 ∧ Below B w w' ∧ Moved p v w w' ∧ (∀ g, v'.ownBlock = some g → v.ownBlock = some g ∨ w.heap.size ≤ g) := by
  obtain ⟨A, c, rfl⟩ := h.row.slice
  have H := Lib.hid h
  have HN := Lib.hid hn
  have hlen : n.row.length ≤ 1000 := Nat.le_trans hn.row hn.most
  have c2 : w.cell? ⟨p, 2, none⟩ = some (.slice A n.row.length c) := (blk_cells h.net).1 2
  obtain ⟨S, hS⟩ : ∃ S, S = n.double i := ⟨_, rfl⟩
  rw [← hS]
  have HS := Lib.hid hS
  cases ha : n.at? i with
  | none =>
    have he : S = (n, 1) := by rw [hS]; unfold NT.double; rw [ha]
    have HE := Lib.hid he
    have hout := NT.at_none.1 ha
    clear h hn hS he ha
    go_enter Try.func12, Try.ntmps12
    by_cases h0 : i < 0
    · go_wp2_with fail
      go_ret
      rw [HE.out]
      exact ⟨rfl, _, H.out, Below.refl _ _, fun _ _ _ _ => rfl, fun _ h => .inl h⟩
    · have h1 : (n.row.length : Int) ≤ i := by omega
      go_wp2_with fail
      go_ret
      rw [HE.out]
      exact ⟨rfl, _, H.out, Below.refl _ _, fun _ _ _ _ => rfl, fun _ h => .inl h⟩
  | some x =>
    have he : S = n.add x := by rw [hS]; unfold NT.double; rw [ha]
    obtain ⟨h0, hl, hx⟩ := NT.at_lt ha
    obtain ⟨b, o, n', k', hv, -, hbs, d0, d1, d2⟩ := pk_cell h.row.n hx
    injection hv with e1 e2 e3
    subst e1 e2 e3
    have cA := radd_any n x k B p _ w h hn hk hB
    rw [← he] at cA
    unfold PK.agg at cA
    have b0 : ¬ i < 0 := by omega
    have b1 : ¬ (n.row.length : Int) ≤ i := by omega
    have b2 : i < (n.row.length : Int) := by omega
    clear h hn hS he ha hx
    go_enter Try.func12, Try.ntmps12
    go_wp2_with fail
    refine cA.mono ?_
    rintro e w2 ⟨rfl, v', h1, h2, h3, h4⟩
    have H1 := Lib.hid h1
    have H2 := Lib.hid h2
    have H3 := Lib.hid h3
    have H4 := Lib.hid h4
    clear cA h1 h2 h3 h4
    go_wp2_with fail
    go_ret
    exact ⟨rfl, _, H1.out, H2.out, H3.out, H4.out⟩
end Go.Proofs.Ytclfhidapkoiiaa
