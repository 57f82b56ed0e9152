/-
  The program's net: add, Send, Double. No statement is proved here. No condition.
-/
import Derived.Test.YtclfhidapkoiiaaKProg
namespace Go.Proofs.Ytclfhidapkoiiaa
open Go.RowKit

theorem setL_at {w : World} {g : Nat} {T : TypeId} {a b c x : Value} (h : w.heap[g]? = some (.cells #[a, b, c] T (0, 0))) : (w.setCell ⟨g, 2, none⟩ x).heap[g]? = some (.cells #[a, b, x] T (0, 0)) := set2_at h
theorem setR_at {w : World} {g : Nat} {T : TypeId} {a b c x : Value} (h : w.heap[g]? = some (.cells #[a, b, c] T (0, 0))) : (w.setCell ⟨g, 1, none⟩ x).heap[g]? = some (.cells #[a, x, c] T (0, 0)) := set1_at h
set_option maxHeartbeats 4000000 in
set_option maxRecDepth 100000 in
theorem padd_any (n : NT) (x : PK) (k B p : Nat) (v : Value) (w : World) (h : PNetM w B p 54 36 v n) (hn : n.ok k) (hk : k ≤ 1000000) (hB : B ≤ w.heap.size) :
    Calls Try.prog 19 #[.pointer (some ⟨p, 0, none⟩), x.agg] w fun e w' => e = .returned (.int .i64 (n.add x).2) ∧ ∃ v', PNetM w' B p 54 36 v' (n.add x).1 ∧ Below B w w' ∧ Moved p v w w' ∧ (∀ g, v'.ownBlock = some g → v.ownBlock = some g ∨ w.heap.size ≤ g) := by
  obtain ⟨A, c, rfl⟩ := h.row.slice
  obtain ⟨w1, hw1⟩ : ∃ w1, w1 = w.alloc (.cells #[.int .i64 x.frm, .int .i64 x.dst, .string x.data] 36) := ⟨_, rfl⟩
  have hb1 : Below w.heap.size w w1 := by rw [hw1]; exact (Below.refl _ _).alloc (Nat.le_refl _) _
  have hx1 : w1.heap[w.heap.size]? = some (.cells #[.int .i64 x.frm, .int .i64 x.dst, .string x.data] 36 (0, 0)) := by rw [hw1]; exact heap_alloc_new w _
  have hs1 : w1.heap.size = w.heap.size + 1 := by rw [hw1]; simp
  have h1 := h.grow hb1
  obtain ⟨c0, c1, c2⟩ : w1.cell? ⟨p, 0, none⟩ = some (.int .i64 (n.most : Int)) ∧ w1.cell? ⟨p, 1, none⟩ = some (.slice A n.row.length c) ∧ w1.cell? ⟨p, 2, none⟩ = some (.int .i64 (n.lost : Int)) := ⟨(blk_cells h1.net).1 0, (blk_cells h1.net).1 1, (blk_cells h1.net).1 2⟩
  obtain ⟨z1, z2⟩ : w1.frozen? ⟨p, 1, none⟩ = false ∧ w1.frozen? ⟨p, 2, none⟩ = false := ⟨(blk_cells h1.net).2 1, (blk_cells h1.net).2 2⟩
  obtain ⟨d0, d1, d2⟩ : w1.cell? ⟨w.heap.size, 0, none⟩ = some (.int .i64 x.frm) ∧ w1.cell? ⟨w.heap.size, 1, none⟩ = some (.int .i64 x.dst) ∧ w1.cell? ⟨w.heap.size, 2, none⟩ = some (.string x.data) := ⟨(blk_cells hx1).1 0, (blk_cells hx1).1 1, (blk_cells hx1).1 2⟩
  have hl1 : wrap64 ((n.lost : Int) + 1) = (n.lost : Int) + 1 := by have := hn.lost; unfold wrap64; omega
  have hl2 : IntKind.i64.wrap ((n.lost : Int) + 1) = (n.lost : Int) + 1 := IntWalk.i64_in _ (by have := hn.lost; omega)
  have hap := h.apart types_P
  have hp := h.lt
  have H := Lib.hid h
  have H1 := Lib.hid h1
  have HN := Lib.hid hn
  have HB1 := Lib.hid hb1
  have HW1 := Lib.hid hw1
  have HS1 := Lib.hid hs1
  have HAP := Lib.hid hap
  clear h h1 hn hb1 hw1 hs1 hx1 hap
  unfold PK.agg
  go_enter Try.func19, Try.ntmps19
  go_upto_region 1 with fail
  rw [← HW1.out]
  go_region
  by_cases hf : n.most ≤ n.row.length
  · have hf2 : (n.most : Int) ≤ (n.row.length : Int) := by omega
    have hadd : n.add x = ({ n with lost := n.lost + 1 }, 3) := by unfold NT.add; rw [if_pos hf]
    have hnet : PNetM (w1.drew.setCell ⟨p, 2, none⟩ (.int .i64 ((n.lost : Int) + 1))) B p 54 36 (.slice A n.row.length c) { n with lost := n.lost + 1 } :=
      ⟨by have := setL_at (x := .int .i64 ((n.lost : Int) + 1)) (w := w1.drew) H1.out.net; rw [this]; rfl, H1.out.base, own_far H1.out.row fun b hb => heap_setCell_far _ _ _ _ (fun e => HAP.out (by rw [← e]; exact hb))⟩
    have hbel : Below B w (w1.drew.setCell ⟨p, 2, none⟩ (.int .i64 ((n.lost : Int) + 1))) := (Joins.below_le HB1.out.drew hB).setCell (p := ⟨p, 2, none⟩) H.out.base _
    have hmv : Moved p (.slice A n.row.length c) w (w1.drew.setCell ⟨p, 2, none⟩ (.int .i64 ((n.lost : Int) + 1))) := fun b hb hne _ => (heap_setCell_far _ _ _ _ hne).trans (HB1.out.block b hb)
    have HNE := Lib.hid hnet
    have HBE := Lib.hid hbel
    have HMV := Lib.hid hmv
    have HAD := Lib.hid hadd
    clear hnet hbel hmv hadd
    go_wp2_with fail
    go_ret
    rw [HAD.out]
    exact ⟨rfl, _, HNE.out, HBE.out, HMV.out, fun g hg => .inl hg⟩
  · have hf2 : ¬ (n.most : Int) ≤ (n.row.length : Int) := by omega
    have hadd : n.add x = ({ n with row := n.row ++ [x] }, 0) := by unfold NT.add; rw [if_neg hf]
    obtain ⟨w2, hw2⟩ : ∃ w2, w2 = w1.drew := ⟨_, rfl⟩
    rw [← hw2]
    have hb2 : Below w.heap.size w w2 := by rw [hw2]; exact HB1.out.drew
    have hs2 : w2.heap.size = w.heap.size + 1 := by rw [hw2]; exact HS1.out
    obtain ⟨e0, e1, e2, e3⟩ : w2.cell? ⟨p, 1, none⟩ = some (.slice A n.row.length c) ∧ w2.cell? ⟨w.heap.size, 0, none⟩ = some (.int .i64 x.frm) ∧ w2.cell? ⟨w.heap.size, 1, none⟩ = some (.int .i64 x.dst) ∧ w2.cell? ⟨w.heap.size, 2, none⟩ = some (.string x.data) := by rw [hw2]; exact ⟨c1, d0, d1, d2⟩
    have h2 := H.out.grow hb2
    obtain ⟨w3, hw3⟩ : ∃ w3, w3 = (w2.alloc (.cells #[.int .i64 x.frm, .int .i64 x.dst, .string x.data] 36)).drew := ⟨_, rfl⟩
    have hb3 : Below w2.heap.size w2 w3 := by rw [hw3]; exact ((Below.refl _ _).alloc (Nat.le_refl _) _).drew
    have hx3 : w3.heap[w2.heap.size]? = some (.cells (pkR.vals x).toArray 36 (0, 0)) := by rw [hw3]; exact heap_alloc_new w2 _
    have hs3 : w3.heap.size = w2.heap.size + 1 := by rw [hw3, drew_heap]; simp
    have h3 := h2.grow hb3
    obtain ⟨iu, hiu, y0, y1, y2⟩ := info_parts info_PK
    have hml := HN.out.most
    obtain ⟨v4, w4, hr, ho, hg, hat⟩ := Rec.app (P := Try.prog) (t := 43) Try.underlying43 hiu y0 y1 y2 rfl (by decide) h3.row (Rec.one_row (R := pkR) (N := Any) hx3 trivial) (by unfold maxLen; simp; omega) (by simp; omega) (by omega)
    obtain ⟨A4, c4, hv4e⟩ := ho.slice
    rw [show (n.row ++ [x]).length = n.row.length + 1 by simp] at hv4e
    subst hv4e
    have hr' : (Builtin.append_ #[43, 43] 43 #[.slice A n.row.length c, .slice (some ⟨w2.heap.size, 0, none⟩) 1 1]).run Try.prog ((w2.alloc (.cells #[.int .i64 x.frm, .int .i64 x.dst, .string x.data] 36)).drew) = .ok (.slice A4 (n.row.length + 1) c4) w4 := by rw [← hw3]; exact hr
    have hp4 : w4.heap[p]? = w3.heap[p]? := hg.block p (by omega) (fun e => HAP.out e.symm)
    have hn4 := hp4.trans h3.net
    obtain ⟨q2, q3⟩ : w4.cell? ⟨p, 1, none⟩ = some (.slice A n.row.length c) ∧ w4.frozen? ⟨p, 1, none⟩ = false := ⟨(blk_cells hn4).1 1, (blk_cells hn4).2 1⟩
    have hv4 : ∀ g, (Value.slice A4 (n.row.length + 1) c4).ownBlock = some g → (Value.slice A n.row.length c).ownBlock = some g ∨ w.heap.size ≤ g := fun g hg4 => by
      rcases hat with hat | hat
      · exact .inl (by rw [← hat]; exact hg4)
      · rw [hat] at hg4
        have := Option.some.inj hg4
        exact .inr (by omega)
    have hv4p : (Value.slice A4 (n.row.length + 1) c4).ownBlock ≠ some p := fun e => by
      rcases hv4 p e with h | h
      · exact HAP.out h
      · omega
    have hnet : PNetM (w4.setCell ⟨p, 1, none⟩ (.slice A4 (n.row.length + 1) c4)) B p 54 36 (.slice A4 (n.row.length + 1) c4) { n with row := n.row ++ [x] } := ⟨setR_at hn4, H.out.base, own_far ho fun b hb => heap_setCell_far _ _ _ _ (fun e => hv4p (by rw [← e]; exact hb))⟩
    have hb4 : Below B w w4 := ((Joins.below_le hb2 hB).trans (Joins.below_le hb3 (by omega))).grown hg (by omega) fun g hg => (h3.row.lt g hg).1
    have hbel : Below B w (w4.setCell ⟨p, 1, none⟩ (.slice A4 (n.row.length + 1) c4)) := hb4.setCell (p := ⟨p, 1, none⟩) H.out.base _
    have hmv : Moved p (.slice A n.row.length c) w (w4.setCell ⟨p, 1, none⟩ (.slice A4 (n.row.length + 1) c4)) := fun b hb hne hnv => (heap_setCell_far _ _ _ _ hne).trans ((hg.block b (by omega) (fun e => hnv e.symm)).trans ((hb3.block b (by omega)).trans (hb2.block b hb)))
    have hb3' : Below w2.heap.size w2 (w2.alloc (.cells #[.int .i64 x.frm, .int .i64 x.dst, .string x.data] 36)) := (Below.refl _ _).alloc (Nat.le_refl _) _
    have j0 : (w2.alloc (.cells #[.int .i64 x.frm, .int .i64 x.dst, .string x.data] 36)).cell? ⟨p, 1, none⟩ = some (.slice A n.row.length c) := (hb3'.cell (p := ⟨p, 1, none⟩) (by show p < _; omega)).trans e0
    have hp2 : p < w2.heap.size := by omega
    clear hb3'
    have HR := Lib.hid hr'
    have HNE := Lib.hid hnet
    have HBE := Lib.hid hbel
    have HMV := Lib.hid hmv
    have HV4 := Lib.hid hv4
    have HAD := Lib.hid hadd
    clear hr hr' hnet hbel hmv hv4 hadd hb2 hb3 hb4 h2 h3 hw2 hw3 hx3 hp4 hn4 ho hg hat hiu y0 y1 y2 hv4p c0 c1 c2 d0 d1 d2 hs2 hs3
    go_upto_region 4 with fail
    go_region_law (refine stepApp rfl (.tmp 26) (.tmp 28) 43 rfl (.slice A n.row.length c) (.slice (some ⟨w2.heap.size, 0, none⟩) 1 1) rfl rfl (by with_reducible exact HR.out) ?_)
    all_goals go_wp2_with fail
    all_goals go_ret
    all_goals rw [HAD.out]
    all_goals exact ⟨rfl, _, HNE.out, HBE.out, HMV.out, HV4.out⟩
set_option maxRecDepth 100000 in
theorem psend_any (n : NT) (x : PK) (bs : List UInt8) (u : Value) (b : Nat) (k B p : Nat) (v : Value) (w : World) (h : PNetM w B p 54 36 v n) (hn : n.ok k) (hk : k ≤ 1000000) (hB : B ≤ w.heap.size) (hu : Rd w b u bs) (hxd : x.data = ⟨bs.toArray⟩) :
    Calls Try.prog 6 #[.pointer (some ⟨p, 0, none⟩), .int .i64 x.frm, .int .i64 x.dst, u] w fun e w' => e = .returned (.int .i64 (n.send x).2) ∧ ∃ v', PNetM w' B p 54 36 v' (n.send x).1 ∧ Below B w w' ∧ Moved p v w w' ∧ (∀ g, v'.ownBlock = some g → v.ownBlock = some g ∨ w.heap.size ≤ g) := by
  have cA := padd_any n x k B p v w h hn hk hB
  have hconv := run_str (P := Try.prog) 32 5 9 Try.underlying32 Try.underlying5 Try.underlying9 hu
  obtain ⟨Au, cu, rfl, hlu, hcu, -⟩ := hu
  have hsz : x.data.size = bs.length := by rw [hxd]; rfl
  rw [← hxd] at hconv
  have H := Lib.hid h
  have hz := zero_pk
  unfold PK.agg at cA
  obtain ⟨S, hS⟩ : ∃ S, S = n.send x := ⟨_, rfl⟩
  obtain ⟨D, hD⟩ : ∃ D, D = n.add x := ⟨_, rfl⟩
  rw [← hS]
  rw [← hD] at cA
  have HS := Lib.hid hS
  have HD := Lib.hid hD
  have HSZ := Lib.hid hsz
  have HXD := Lib.hid hxd
  clear h hS hD hxd
  go_enter Try.func6, Try.ntmps6
  by_cases hl : 400 < x.data.size
  · have hl2 : (400 : Int) < (bs.length : Int) := by omega
    have he : S = (n, 40) := by rw [HS.out]; unfold NT.send; rw [if_pos hl]
    have HE := Lib.hid he
    clear he cA hsz hconv
    go_wp2_with fail
    go_ret
    rw [HE.out]
    exact ⟨rfl, _, H.out, Below.refl _ _, fun _ _ _ _ => rfl, fun _ h => .inl h⟩
  · have hl2 : ¬ (400 : Int) < (bs.length : Int) := by omega
    have he : S = D := by rw [HS.out, HD.out]; unfold NT.send; rw [if_neg hl]
    have HE := Lib.hid he
    clear he hsz
    go_wp2_with fail
    refine cA.mono ?_
    rintro e w2 ⟨rfl, v', h1, h2, h3, h4⟩
    have H1 := Lib.hid h1
    have H2 := Lib.hid h2
    have H3 := Lib.hid h3
    have H4 := Lib.hid h4
    clear cA h1 h2 h3 h4
    go_wp2_with fail
    go_ret
    rw [HE.out]
    exact ⟨rfl, _, H1.out, H2.out, H3.out, H4.out⟩
set_option maxHeartbeats 1000000 in
set_option maxRecDepth 100000 in
theorem pdouble_any (n : NT) (i : Int) (k B p : Nat) (v : Value) (w : World) (h : PNetM w B p 54 36 v n) (hn : n.ok k) (hk : k ≤ 1000000) (hB : B ≤ w.heap.size) :
    Calls Try.prog 11 #[.pointer (some ⟨p, 0, none⟩), .int .i64 i] w fun e w' => e = .returned (.int .i64 (n.double i).2) ∧ ∃ v', PNetM w' B p 54 36 v' (n.double i).1 ∧ Below B w w' ∧ Moved p v w w' ∧ (∀ g, v'.ownBlock = some g → v.ownBlock = some g ∨ w.heap.size ≤ g) := by
  obtain ⟨A, c, rfl⟩ := h.row.slice
  have H := Lib.hid h
  have HN := Lib.hid hn
  have hlen : n.row.length ≤ 1000 := Nat.le_trans hn.row hn.most
  have c2 : w.cell? ⟨p, 1, none⟩ = some (.slice A n.row.length c) := (blk_cells h.net).1 1
  have cH := phas_any n i B p _ w h
  obtain ⟨S, hS⟩ : ∃ S, S = n.double i := ⟨_, rfl⟩
  rw [← hS]
  have HS := Lib.hid hS
  cases ha : n.at? i with
  | none =>
    have he : S = (n, 1) := by rw [hS]; unfold NT.double; rw [ha]
    have HE := Lib.hid he
    rw [ha] at cH
    clear h hn hS he ha c2
    go_enter Try.func11, Try.ntmps11
    go_wp2_with fail
    refine cH.mono ?_
    rintro e w2 ⟨rfl, rfl⟩
    clear cH
    go_wp2_with fail
    go_ret
    rw [HE.out]
    exact ⟨rfl, _, H.out, Below.refl _ _, fun _ _ _ _ => rfl, fun _ h => .inl h⟩
  | some x =>
    have he : S = n.add x := by rw [hS]; unfold NT.double; rw [ha]
    obtain ⟨h0, hl, hx⟩ := NT.at_lt ha
    obtain ⟨b, o, n', k', hv, -, hbs, d0, d1, d2⟩ := pk_cell h.row.n hx
    injection hv with e1 e2 e3
    subst e1 e2 e3
    have cA := padd_any n x k B p _ w h hn hk hB
    rw [← he] at cA
    unfold PK.agg at cA
    have b0 : ¬ i < 0 := by omega
    have b1 : ¬ (n.row.length : Int) ≤ i := by omega
    have b2 : i < (n.row.length : Int) := by omega
    rw [ha] at cH
    clear h hn hS he ha hx
    go_enter Try.func11, Try.ntmps11
    go_wp2_with fail
    refine cH.mono ?_
    rintro e w2' ⟨rfl, rfl⟩
    clear cH
    go_wp2_with fail
    refine cA.mono ?_
    rintro e w2 ⟨rfl, v', h1, h2, h3, h4⟩
    have H1 := Lib.hid h1
    have H2 := Lib.hid h2
    have H3 := Lib.hid h3
    have H4 := Lib.hid h4
    clear cA h1 h2 h3 h4
    go_wp2_with fail
    go_ret
    exact ⟨rfl, _, H1.out, H2.out, H3.out, H4.out⟩
end Go.Proofs.Ytclfhidapkoiiaa
