/-
  The document's Take (package butteryref10). No statement is proved here. No condition.
-/
import Derived.Test.YtclfhidapkoiiaaKTold
namespace Go.Proofs.Ytclfhidapkoiiaa
open Go.RowKit

theorem results_ct {fn : Func} {p s : Tmp} {tp : TypeId} (h : fn.results = #[.cell p tp, .tmp s]) (tmps : Array Value) (P : Program) (w : World) :
    (results fn tmps).run P w = ((asAddr (tmps.getD p undef)).run P w).andThen fun a w₁ => ((loadVar tp a).run P w₁).andThen fun v w₂ => .ok (.tuple #[v, tmps.getD s undef]) w₂ := by
  simp only [results, h]
  simp [Sem.run_bind, Result.andThen]
theorem wrap_one {j : Nat} (h : j < 100000) : wrap64 ((j : Int) + 1) = (j : Int) + 1 ∧ IntKind.i64.wrap ((j : Int) + 1) = (j : Int) + 1 := ⟨by unfold wrap64; omega, by rw [IntKind.wrap_i64]; omega⟩
theorem set3k_at {W : World} {p : Nat} {T : TypeId} {a b c x y z : Value} (h : W.heap[p]? = some (.cells #[a, b, c] T (0, 0))) : (((W.setCell ⟨p, 0, none⟩ x).setCell ⟨p, 1, none⟩ y).setCell ⟨p, 2, none⟩ z).heap[p]? = some (.cells #[x, y, z] T (0, 0)) := by
  rw [Joins.block_setCell (Joins.block_setCell (Joins.block_setCell h _) _) _]
  simp
theorem set3k_far {W : World} {p b : Nat} {x y z : Value} (h : b ≠ p) : (((W.setCell ⟨p, 0, none⟩ x).setCell ⟨p, 1, none⟩ y).setCell ⟨p, 2, none⟩ z).heap[b]? = W.heap[b]? := by rw [heap_setCell_far _ _ _ _ h, heap_setCell_far _ _ _ _ h, heap_setCell_far _ _ _ _ h]
set_option maxHeartbeats 4000000 in
set_option maxRecDepth 100000 in
theorem rtake_any (n : NT) (i : Int) (k B p : Nat) (v : Value) (w : World) (h : NetM w B p 47 39 v n) (hn : n.ok k) (hB : B ≤ w.heap.size) :
    Calls Try.prog 9 #[.pointer (some ⟨p, 0, none⟩), .int .i64 i] w fun e w' => e = .returned (.tuple #[((n.take i).2.getD zK).agg, .bool (n.take i).2.isSome]) ∧ ∃ v', NetM w' B p 47 39 v' (n.take i).1 ∧ Below B w w' ∧ Moved p v w w' ∧ (∀ g, v'.ownBlock = some g → v.ownBlock = some g ∨ w.heap.size ≤ g) := by
  obtain ⟨A, c, rfl⟩ := h.row.slice
  have hz : ∀ W, (zeroValue 39).run Try.prog W = .ok (.agg #[.int .i64 0, .int .i64 0, .string ⟨#[]⟩]) W := fun W => by kernel_rfl
  obtain ⟨w1, hw1⟩ : ∃ w1, w1 = w.alloc (.cells #[.int .i64 0, .int .i64 0, .string ⟨#[]⟩] 39) := ⟨_, rfl⟩
  have hb1 : Below w.heap.size w w1 := by rw [hw1]; exact (Below.refl _ _).alloc (Nat.le_refl _) _
  have hx1 : w1.heap[w.heap.size]? = some (.cells #[.int .i64 0, .int .i64 0, .string ⟨#[]⟩] 39 (0, 0)) := by rw [hw1]; exact heap_alloc_new w _
  have hs1 : w1.heap.size = w.heap.size + 1 := by rw [hw1]; simp
  have h1 := h.grow hb1
  have c2 : w1.cell? ⟨p, 2, none⟩ = some (.slice A n.row.length c) := (blk_cells h1.net).1 2
  have hlen : n.row.length ≤ 1000 := Nat.le_trans hn.row hn.most
  obtain ⟨S, hS⟩ : ∃ S, S = n.take i := ⟨_, rfl⟩
  rw [← hS]
  have H1 := Lib.hid h1
  have HB1 := Lib.hid hb1
  have HW1 := Lib.hid hw1
  have HX1 := Lib.hid hx1
  cases ha : n.at? i with
  | none =>
    have he : S = (n, none) := by rw [hS]; unfold NT.take; rw [ha]
    have HE := Lib.hid he
    have hout := NT.at_none.1 ha
    obtain ⟨r0, r1, r2, r3, r4, r5⟩ : w1.cell? ⟨w.heap.size, 0, none⟩ = some (.int .i64 0) ∧ w1.cell? ⟨w.heap.size, 1, none⟩ = some (.int .i64 0) ∧ w1.cell? ⟨w.heap.size, 2, none⟩ = some (.string ⟨#[]⟩) ∧ w1.frozen? ⟨w.heap.size, 0, none⟩ = false ∧ w1.frozen? ⟨w.heap.size, 1, none⟩ = false ∧ w1.frozen? ⟨w.heap.size, 2, none⟩ = false := ⟨(blk_cells hx1).1 0, (blk_cells hx1).1 1, (blk_cells hx1).1 2, (blk_cells hx1).2 0, (blk_cells hx1).2 1, (blk_cells hx1).2 2⟩
    obtain ⟨wf, hwf⟩ : ∃ wf, wf = ((w1.setCell ⟨w.heap.size, 0, none⟩ (.int .i64 0)).setCell ⟨w.heap.size, 1, none⟩ (.int .i64 0)).setCell ⟨w.heap.size, 2, none⟩ (.string ⟨#[]⟩) := ⟨_, rfl⟩
    have hxf : wf.heap[w.heap.size]? = some (.cells #[.int .i64 0, .int .i64 0, .string ⟨#[]⟩] 39 (0, 0)) := by rw [hwf]; exact set3k_at hx1
    obtain ⟨g0, g1, g2⟩ : wf.cell? ⟨w.heap.size, 0, none⟩ = some (.int .i64 0) ∧ wf.cell? ⟨w.heap.size, 1, none⟩ = some (.int .i64 0) ∧ wf.cell? ⟨w.heap.size, 2, none⟩ = some (.string ⟨#[]⟩) := ⟨(blk_cells hxf).1 0, (blk_cells hxf).1 1, (blk_cells hxf).1 2⟩
    have hbf : Below w.heap.size w wf := by rw [hwf]; exact ((hb1.setCell (p := ⟨w.heap.size, 0, none⟩) (Nat.le_refl _) _).setCell (p := ⟨w.heap.size, 1, none⟩) (Nat.le_refl _) _).setCell (p := ⟨w.heap.size, 2, none⟩) (Nat.le_refl _) _
    have HF := Lib.hid (h.grow hbf)
    have HBF := Lib.hid hbf
    have HWF := Lib.hid hwf
    clear h hn hS he ha h1 hb1 hx1 hw1 hs1 hwf hxf hbf
    go_enter Try.func9, Try.ntmps9
    go_upto_region 1 with fail
    rw [← HW1.out]
    by_cases h0 : i < 0
    · go_wp2_with fail
      rw [← HWF.out]
      refine bodyPost_ret (v := .tuple #[zK.agg, .bool false]) (by clear r0 r1 r2 r3 r4 r5; unfold PK.agg zK; rw [results_ct rfl]; go_simp; try rfl) rfl ?_
      rw [HE.out]
      exact ⟨rfl, _, HF.out, Joins.below_le HBF.out hB, Moved.below HBF.out, fun _ h => .inl h⟩
    · have hge : (n.row.length : Int) ≤ i := by omega
      go_wp2_with fail
      rw [← HWF.out]
      refine bodyPost_ret (v := .tuple #[zK.agg, .bool false]) (by clear r0 r1 r2 r3 r4 r5; unfold PK.agg zK; rw [results_ct rfl]; go_simp; try rfl) rfl ?_
      rw [HE.out]
      exact ⟨rfl, _, HF.out, Joins.below_le HBF.out hB, Moved.below HBF.out, fun _ h => .inl h⟩
  | some x =>
    obtain ⟨h0, hjl, hjx⟩ := NT.at_lt ha
    obtain ⟨j, hj⟩ : ∃ j : Nat, i = (j : Int) := ⟨i.toNat, by omega⟩
    subst hj
    rw [Int.toNat_natCast] at hjl hjx
    have b67 : wrap64 ((j : Int) + 1) = (j : Int) + 1 ∧ IntKind.i64.wrap ((j : Int) + 1) = (j : Int) + 1 := wrap_one (by omega)
    obtain ⟨b6, b7⟩ := b67
    have he : S = ({ n with row := n.row.eraseIdx j }, some x) := by rw [hS]; unfold NT.take; rw [ha]; rfl
    have hap := h.apart types_R
    have hpl := h.lt
    obtain ⟨b, o, n', k', hv, -, hbs, d0, d1, d2⟩ := pk_cell h1.row.n hjx
    injection hv with e1 e2 e3
    subst e1 e2 e3
    have hjc : j < c ∧ n.row.length ≤ c ∧ c ≤ maxLen := by
      obtain ⟨A', c', hv, q1, q2⟩ := h1.row.n.slice
      injection hv with _ _ e3
      subst e3
      exact ⟨by omega, q1, q2⟩
    obtain ⟨hjc, hnc, hcm⟩ := hjc
    have b1 : ¬ (n.row.length : Int) ≤ (j : Int) := by omega
    have b2 : (j : Int) < (n.row.length : Int) := by omega
    have b0 : ¬ (j : Int) < 0 := by omega
    have b3 : (j : Int) ≤ (c : Int) := by omega
    have b4 : (j : Int) + 1 ≤ (n.row.length : Int) := by omega
    have b5 : ((j : Int) + 1).toNat = j + 1 := by omega
    have HB7 := Lib.hid b7
    have HB6 := Lib.hid b6
    clear b6 b7
    -- the packet's own box
    obtain ⟨w2, hw2⟩ : ∃ w2, w2 = w1.alloc (.cells #[.int .i64 x.frm, .int .i64 x.dst, .string x.data] 39) := ⟨_, rfl⟩
    have hb2 : Below w1.heap.size w1 w2 := by rw [hw2]; exact (Below.refl _ _).alloc (Nat.le_refl _) _
    have hx2 : w2.heap[w1.heap.size]? = some (.cells #[.int .i64 x.frm, .int .i64 x.dst, .string x.data] 39 (0, 0)) := by rw [hw2]; exact heap_alloc_new w1 _
    have hs2 : w2.heap.size = w.heap.size + 2 := by rw [hw2]; simp [hs1]
    have hbw2 : Below w.heap.size w w2 := hb1.trans (Joins.below_le hb2 hb1.size)
    have h2 := h.grow hbw2
    have e2 : w2.cell? ⟨p, 2, none⟩ = some (.slice (some ⟨b, o, none⟩) n.row.length c) := (blk_cells h2.net).1 2
    -- the two appends
    obtain ⟨iu, hiu, y0, y1, y2⟩ := info_parts info_RK
    obtain ⟨v3, w3, hr3, ho3, hg3, hat3⟩ := Rec.app (P := Try.prog) (t := 44) Try.underlying44 hiu y0 y1 y2 rfl (by decide) (Rec.Own.none pkR w2 B 39) ((N.take h2.row.n (i := j) (by omega)).any) (by unfold maxLen; simp; omega) (by simp; omega) (by omega)
    rw [List.nil_append] at ho3
    have hb3 : Below w2.heap.size w2 w3 := ⟨hg3.os, hg3.tape, hg3.output, hg3.size, fun b hb => hg3.block b hb (fun e => by cases e)⟩
    have hbw3 : Below w.heap.size w w3 := hbw2.trans (Joins.below_le hb3 hbw2.size)
    have h3 := h.grow hbw3
    have hv3 : ∀ g, v3.ownBlock = some g → w2.heap.size ≤ g := fun g hg => by
      rcases hat3 with hat | hat
      · rw [hat] at hg; cases hg
      · rw [hat] at hg; have := Option.some.inj hg; omega
    have hdrop : pkR.N w3 Any (if c = j + 1 then .slice (some ⟨b, o, none⟩) (n.row.length - (j + 1)) (c - (j + 1)) else .slice (some ⟨b, o + (j + 1) * 3, none⟩) (n.row.length - (j + 1)) (c - (j + 1))) (n.row.drop (j + 1)) := by
      by_cases hc1 : c = j + 1
      · rw [if_pos hc1, show n.row.length - (j + 1) = 0 by omega, List.drop_of_length_le (by omega)]
        exact N.empty (by omega) (fun h => by cases h)
      · rw [if_neg hc1]
        exact (N.drop h3.row.n (i := j + 1) (by omega) (by omega)).any
    obtain ⟨v4, w4, hr4, ho4, hg4, hat4⟩ := Rec.app (P := Try.prog) (t := 44) Try.underlying44 hiu y0 y1 y2 rfl (by decide) ho3 hdrop (by unfold maxLen; simp; omega) (by simp; omega) (by have := hbw3.size; omega)
    rw [← erase_halves n.row hjl] at ho4
    have hel : (n.row.eraseIdx j).length = n.row.length - 1 := List.length_eraseIdx_of_lt hjl
    have hv4 : ∀ g, v4.ownBlock = some g → w2.heap.size ≤ g := fun g hg => by
      rcases hat4 with hat | hat
      · rw [hat] at hg; exact hv3 g hg
      · rw [hat] at hg; have := Option.some.inj hg; have := hb3.size; omega
    have hold : ∀ g, g < w2.heap.size → w4.heap[g]? = w2.heap[g]? := fun g hg => (hg4.block g (by have := hb3.size; omega) (fun e => by have := hv3 g e.symm; omega)).trans (hb3.block g hg)
    have hn4 := (hold p (by omega)).trans h2.net
    have hx4 := (hold w1.heap.size (by omega)).trans hx2
    have hx40 := (hold w.heap.size (by omega)).trans ((hb2.block _ (by omega)).trans hx1)
    obtain ⟨A4, c4, hv4e⟩ := ho4.slice
    subst hv4e
    have hnet4 : NetM (w4.setCell ⟨p, 2, none⟩ (.slice A4 (n.row.eraseIdx j).length c4)) B p 47 39 (.slice A4 (n.row.eraseIdx j).length c4) { n with row := n.row.eraseIdx j } := ⟨set2_at hn4, h.base, own_far ho4 fun g hg => heap_setCell_far _ _ _ _ (fun e => by have := hv4 g hg; omega)⟩
    have hb4 : Below B w w4 := ((Joins.below_le hbw3 hB).grown hg4 (by have := hbw3.size; omega) fun g hg => by have := hv3 g hg; omega)
    obtain ⟨w5, hw5⟩ : ∃ w5, w5 = w4.setCell ⟨p, 2, none⟩ (.slice A4 (n.row.eraseIdx j).length c4) := ⟨_, rfl⟩
    rw [← hw5] at hnet4
    have hb5 : Below B w w5 := by rw [hw5]; exact hb4.setCell (p := ⟨p, 2, none⟩) h.base _
    have hx5 : w5.heap[w1.heap.size]? = some (.cells #[.int .i64 x.frm, .int .i64 x.dst, .string x.data] 39 (0, 0)) := by rw [hw5]; exact (heap_setCell_far _ _ _ _ (by omega)).trans hx4
    have hx50 : w5.heap[w.heap.size]? = some (.cells #[.int .i64 0, .int .i64 0, .string ⟨#[]⟩] 39 (0, 0)) := by rw [hw5]; exact (heap_setCell_far _ _ _ _ (by omega)).trans hx40
    obtain ⟨wf, hwf⟩ : ∃ wf, wf = ((w5.setCell ⟨w.heap.size, 0, none⟩ (.int .i64 x.frm)).setCell ⟨w.heap.size, 1, none⟩ (.int .i64 x.dst)).setCell ⟨w.heap.size, 2, none⟩ (.string x.data) := ⟨_, rfl⟩
    have hff : ∀ g, g ≠ w.heap.size → wf.heap[g]? = w5.heap[g]? := fun g hg => by rw [hwf]; exact set3k_far hg
    have hxf : wf.heap[w.heap.size]? = some (.cells #[.int .i64 x.frm, .int .i64 x.dst, .string x.data] 39 (0, 0)) := by rw [hwf]; exact set3k_at hx50
    have hnetf : NetM wf B p 47 39 (.slice A4 (n.row.eraseIdx j).length c4) { n with row := n.row.eraseIdx j } := hnet4.kept fun g _ hg => hff g (hg.elim (fun e => by omega) fun hg => by have := hv4 g hg; omega)
    have hbf : Below B w wf := by rw [hwf]; exact ((hb5.setCell (p := ⟨w.heap.size, 0, none⟩) hB _).setCell (p := ⟨w.heap.size, 1, none⟩) hB _).setCell (p := ⟨w.heap.size, 2, none⟩) hB _
    have hmv : Moved p (.slice (some ⟨b, o, none⟩) n.row.length c) w wf := fun g hg hne _ => (hff g (by omega)).trans (by rw [hw5]; exact (heap_setCell_far _ _ _ _ hne).trans ((hold g (by omega)).trans (hbw2.block g hg)))
    obtain ⟨q2, q3⟩ : w4.cell? ⟨p, 2, none⟩ = some (.slice (some ⟨b, o, none⟩) n.row.length c) ∧ w4.frozen? ⟨p, 2, none⟩ = false := ⟨(blk_cells hn4).1 2, (blk_cells hn4).2 2⟩
    have e3 : w3.cell? ⟨p, 2, none⟩ = some (.slice (some ⟨b, o, none⟩) n.row.length c) := (blk_cells h3.net).1 2
    obtain ⟨u0, u1, u2⟩ : w5.cell? ⟨w1.heap.size, 0, none⟩ = some (.int .i64 x.frm) ∧ w5.cell? ⟨w1.heap.size, 1, none⟩ = some (.int .i64 x.dst) ∧ w5.cell? ⟨w1.heap.size, 2, none⟩ = some (.string x.data) := ⟨(blk_cells hx5).1 0, (blk_cells hx5).1 1, (blk_cells hx5).1 2⟩
    obtain ⟨r0, r1, r2, r3, r4, r5⟩ : w5.cell? ⟨w.heap.size, 0, none⟩ = some (.int .i64 0) ∧ w5.cell? ⟨w.heap.size, 1, none⟩ = some (.int .i64 0) ∧ w5.cell? ⟨w.heap.size, 2, none⟩ = some (.string ⟨#[]⟩) ∧ w5.frozen? ⟨w.heap.size, 0, none⟩ = false ∧ w5.frozen? ⟨w.heap.size, 1, none⟩ = false ∧ w5.frozen? ⟨w.heap.size, 2, none⟩ = false := ⟨(blk_cells hx50).1 0, (blk_cells hx50).1 1, (blk_cells hx50).1 2, (blk_cells hx50).2 0, (blk_cells hx50).2 1, (blk_cells hx50).2 2⟩
    obtain ⟨g0, g1, g2⟩ : wf.cell? ⟨w.heap.size, 0, none⟩ = some (.int .i64 x.frm) ∧ wf.cell? ⟨w.heap.size, 1, none⟩ = some (.int .i64 x.dst) ∧ wf.cell? ⟨w.heap.size, 2, none⟩ = some (.string x.data) := ⟨(blk_cells hxf).1 0, (blk_cells hxf).1 1, (blk_cells hxf).1 2⟩
    have HR3 := Lib.hid hr3
    have HR4 := Lib.hid hr4
    have HW2 := Lib.hid hw2
    have HW5 := Lib.hid hw5
    have HWF := Lib.hid hwf
    have HNF := Lib.hid hnetf
    have HBF := Lib.hid hbf
    have HMV := Lib.hid hmv
    have HE := Lib.hid he
    have HV4 : Hid (∀ g, (Value.slice A4 (n.row.eraseIdx j).length c4).ownBlock = some g → w.heap.size ≤ g) := Lib.hid fun g hg => by have := hv4 g hg; omega
    clear hr3 hr4 hw2 hw5 hwf hnetf hbf hmv he hv4 hv3 hat3 hat4 ho3 ho4 hg3 hg4 hb3 hbw3 h3 hdrop hold hn4 hx4 hx40 hnet4 hb4 hb5 hx5 hx50 hff hxf hbw2 h2 hb2 hx2 hs2 hs1 hw1 hb1 hx1 h1 h hn hS ha hap hiu y0 y1 y2 hel hjx
    have HQ := Lib.hid (And.intro q2 q3)
    have HE3 := Lib.hid e3
    have HU := Lib.hid (And.intro (And.intro u0 (And.intro u1 u2)) (And.intro (And.intro r0 (And.intro r1 (And.intro r2 (And.intro r3 (And.intro r4 r5))))) (And.intro g0 (And.intro g1 g2))))
    clear q2 q3 e3 u0 u1 u2 r0 r1 r2 r3 r4 r5 g0 g1 g2 hcm hbs hnc hz b5 h0 hjl hpl hB
    by_cases hc1 : c = j + 1
    · have HR4' : Hid ((Builtin.append_ #[44, 44] 44 #[v3, .slice (some ⟨b, o, none⟩) (n.row.length - (j + 1)) 0]).run Try.prog w3 = .ok (.slice A4 (n.row.eraseIdx j).length c4) w4) := Lib.hid (by have := HR4.out; rw [if_pos hc1, show c - (j + 1) = 0 by omega] at this; exact this)
      have HC1 := Lib.hid hc1
      clear HR4 hc1
      go_enter Try.func9, Try.ntmps9
      go_upto_region 1 with fail
      rw [← HW1.out]
      go_upto_region 4 with fail
      rw [← HW2.out]
      clear c2 d0 d1 d2
      go_upto_region 6 with (at_builtin; go_must (refine Lib.wpList_append_run _ rfl (.tmp 27) (.tmp 33) 44 44 rfl (.slice none 0 0) (.slice (some ⟨b, o, none⟩) j c) rfl rfl _ _ HR3.out ?_))
      clear e2
      have b6 := HB6.out
      have b7 := HB7.out
      have e3 := HE3.out
      have q2 := HQ.out.1
      have q3 := HQ.out.2
      have hc1 := HC1.out
      go_upto_region 7 with (at_builtin; go_must (refine Lib.wpList_append_run _ rfl (.tmp 36) (.tmp 43) 44 44 rfl v3 (.slice (some ⟨b, o, none⟩) (n.row.length - (j + 1)) 0) rfl rfl _ _ HR4'.out ?_))
      rw [← HW5.out]
      clear e3 q2 q3 b6 b7 hc1
      obtain ⟨⟨u0, u1, u2⟩, ⟨r0, r1, r2, r3, r4, r5⟩, g0, g1, g2⟩ := HU.out
      go_wp2_with fail
      rw [← HWF.out]
      refine bodyPost_ret (v := .tuple #[x.agg, .bool true]) (by clear r0 r1 r2 r3 r4 r5 u0 u1 u2; unfold PK.agg; rw [results_ct rfl]; go_simp; try rfl) rfl ?_
      rw [HE.out]
      exact ⟨rfl, _, HNF.out, HBF.out, HMV.out, fun g hg => .inr (HV4.out g hg)⟩
    · have HR4' : Hid ((Builtin.append_ #[44, 44] 44 #[v3, .slice (some ⟨b, o + (j + 1) * 3, none⟩) (n.row.length - (j + 1)) (c - (j + 1))]).run Try.prog w3 = .ok (.slice A4 (n.row.eraseIdx j).length c4) w4) := Lib.hid (by have := HR4.out; rw [if_neg hc1] at this; exact this)
      have HC1 := Lib.hid hc1
      clear HR4 hc1
      go_enter Try.func9, Try.ntmps9
      go_upto_region 1 with fail
      rw [← HW1.out]
      go_upto_region 4 with fail
      rw [← HW2.out]
      clear c2 d0 d1 d2
      go_upto_region 6 with (at_builtin; go_must (refine Lib.wpList_append_run _ rfl (.tmp 27) (.tmp 33) 44 44 rfl (.slice none 0 0) (.slice (some ⟨b, o, none⟩) j c) rfl rfl _ _ HR3.out ?_))
      clear e2
      have b6 := HB6.out
      have b7 := HB7.out
      have e3 := HE3.out
      have q2 := HQ.out.1
      have q3 := HQ.out.2
      have hc1 := HC1.out
      go_upto_region 7 with (at_builtin; go_must (refine Lib.wpList_append_run _ rfl (.tmp 36) (.tmp 43) 44 44 rfl v3 (.slice (some ⟨b, o + (j + 1) * 3, none⟩) (n.row.length - (j + 1)) (c - (j + 1))) rfl rfl _ _ HR4'.out ?_))
      rw [← HW5.out]
      clear e3 q2 q3 b6 b7 hc1
      obtain ⟨⟨u0, u1, u2⟩, ⟨r0, r1, r2, r3, r4, r5⟩, g0, g1, g2⟩ := HU.out
      go_wp2_with fail
      rw [← HWF.out]
      refine bodyPost_ret (v := .tuple #[x.agg, .bool true]) (by clear r0 r1 r2 r3 r4 r5 u0 u1 u2; unfold PK.agg; rw [results_ct rfl]; go_simp; try rfl) rfl ?_
      rw [HE.out]
      exact ⟨rfl, _, HNF.out, HBF.out, HMV.out, fun g hg => .inr (HV4.out g hg)⟩
end Go.Proofs.Ytclfhidapkoiiaa
