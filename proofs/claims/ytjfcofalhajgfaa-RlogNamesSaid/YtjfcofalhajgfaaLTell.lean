/-
  An entry told, a log's copy, and the entries from an index on: the program's. No statement is proved here. No condition.
-/
import Derived.Test.YtjfcofalhajgfaaLMergeP
namespace Go.Proofs.Ytjfcofalhajgfaa
open Go.RowKit

set_option maxHeartbeats 1000000 in
set_option maxRecDepth 100000 in
theorem entry_any (g : LG) (B p : Nat) (v : Value) (i : Int) (w : World) (h : LogAt w B p v g) (hi : i ≤ 9223372036854775807) :
    Calls Try.prog 35 #[.pointer (some ⟨p, 0, none⟩), .int .i64 i] w fun e w' => (∃ A c, e = .returned (.tuple #[((g.at i).getD zE).agg (.slice A ((g.at i).getD zE).list.length c), .bool (g.at i).isSome]) ∧ inR.N w' Any (.slice A ((g.at i).getD zE).list.length c) ((g.at i).getD zE).list) ∧ Below w.heap.size w w' := by
  obtain ⟨w1, hw1⟩ : ∃ w1, w1 = w.alloc (.cells #[.int .i64 0, .int .u8 0, .string ⟨#[]⟩, .slice none 0 0] 50) := ⟨_, rfl⟩
  have hb1 : Below w.heap.size w w1 := by rw [hw1]; exact (Below.refl _ _).alloc (Nat.le_refl _) _
  have hq1 : w1.heap[w.heap.size]? = some (.cells #[.int .i64 0, .int .u8 0, .string ⟨#[]⟩, .slice none 0 0] 50 (0, 0)) := by rw [hw1]; exact heap_alloc_new w _
  obtain ⟨q, hq⟩ : ∃ q, q = w.heap.size := ⟨_, rfl⟩
  rw [← hq] at hq1
  have cA := at_any g B p v i w1 (h.below hb1) hi
  have hlist : ((g.at i).getD zE).list.length ≤ 17592186044416 := by
    cases hx : g.at i with
    | none => simp [zE]
    | some x =>
      have hm : x ∈ g.l := by
        unfold LG.at at hx
        split at hx
        · cases hx
        · exact List.mem_of_getElem? hx
      have := (EN.may_list (follows_all h.may x hm).1).1
      show x.list.length ≤ _
      omega
  have hz := zero_ent
  have HB1 := Lib.hid (And.intro hb1 hq1)
  have HQ := Lib.hid hq
  have HW1 := Lib.hid hw1
  clear hw1 hb1 hq1 hq h hi
  go_enter Try.func35, Try.ntmps35
  go_upto_region 1 with fail
  rw [← HW1.out, ← HQ.out]
  go_wp2_with fail
  refine cA.mono ?_
  rintro e w2 ⟨ht, hb2⟩
  obtain ⟨A, c, rfl, hn⟩ := ht.some
  clear cA ht
  obtain ⟨y, hy⟩ : ∃ y, y = (g.at i).getD zE := ⟨_, rfl⟩
  obtain ⟨z, hz'⟩ : ∃ z, z = (g.at i).isSome := ⟨_, rfl⟩
  rw [← hy] at hn hlist
  have HY := Lib.hid (And.intro hy hz')
  rw [← hy, ← hz']
  unfold EN.agg
  obtain ⟨w3, hw3⟩ : ∃ w3, w3 = w2.alloc (.cells #[.int .i64 y.term, .int .u8 y.kind, .string y.data, .slice A y.list.length c] 50) := ⟨_, rfl⟩
  have hb3 : Below w2.heap.size w2 w3 := by rw [hw3]; exact (Below.refl _ _).alloc (Nat.le_refl _) _
  have he3 : w3.heap[w2.heap.size]? = some (.cells #[.int .i64 y.term, .int .u8 y.kind, .string y.data, .slice A y.list.length c] 50 (0, 0)) := by rw [hw3]; exact heap_alloc_new w2 _
  have hb23 := hb2.trans (Joins.below_le hb3 hb2.size)
  have hq3 := (hb23.block q (lt_of_heap HB1.out.2)).trans HB1.out.2
  have hB3 := HB1.out.1.trans (Joins.below_le hb23 HB1.out.1.size)
  obtain ⟨b3, hb3d⟩ : ∃ b3, b3 = w2.heap.size := ⟨_, rfl⟩
  rw [← hb3d] at he3
  obtain ⟨x0, x1, x2, x3⟩ : w3.cell? ⟨b3, 0, none⟩ = some (.int .i64 y.term) ∧ w3.cell? ⟨b3, 1, none⟩ = some (.int .u8 y.kind) ∧ w3.cell? ⟨b3, 2, none⟩ = some (.string y.data) ∧ w3.cell? ⟨b3, 3, none⟩ = some (.slice A y.list.length c) := ⟨(blk_cells he3).1 0, (blk_cells he3).1 1, (blk_cells he3).1 2, (blk_cells he3).1 3⟩
  have cT := twin_any y (.slice A y.list.length c) w3 (hn.grow hb3) hlist
  unfold EN.agg at cT
  have HW3 := Lib.hid (And.intro hw3 hb3d)
  have HB3 := Lib.hid (And.intro hB3 hq3)
  clear hy hz' hw3 hb3 he3 hb23 hq3 hB3 hb3d hn hlist hb2 HB1
  go_upto_region 2 with fail
  rw [← HW3.out.1, ← HW3.out.2]
  go_upto_region 2 with fail
  go_wp2_with fail
  refine cT.mono ?_
  rintro e w4 ⟨A4, c4, rfl, ho4, hb4⟩
  clear cT x0 x1 x2 x3
  have hq4 := (hb4.block q (lt_of_heap HB3.out.2)).trans HB3.out.2
  have hqs : w.heap.size ≤ q := by rw [HQ.out]; exact Nat.le_refl _
  have hB4 := HB3.out.1.trans (Joins.below_le hb4 HB3.out.1.size)
  obtain ⟨wf, hwf⟩ : ∃ wf, wf = w4.setRow q #[.int .i64 y.term, .int .u8 y.kind, .string y.data, .slice A4 y.list.length c4] := ⟨_, rfl⟩
  have hfr := setRow_heap w4 q _ #[.int .i64 y.term, .int .u8 y.kind, .string y.data, .slice A4 y.list.length c4] _ _ hq4
  have hfar : ∀ b, b ≠ q → wf.heap[b]? = w4.heap[b]? := fun b hb => by rw [hwf]; exact setRow_other w4 q b _ hb
  have hBf : Below w.heap.size w wf := by rw [hwf]; exact below_setRow hB4 hqs _
  rw [← hwf] at hfr
  have hof : inR.Own wf w3.heap.size 3 (.slice A4 y.list.length c4) y.list := row_same ho4 fun b hb => hfar b fun e => by
    subst e
    obtain ⟨cur, hc⟩ := row_type ho4 hb
    exact apart_T hc hq4 (by decide) rfl
  obtain ⟨r0, r1, r2, r3⟩ : wf.cell? ⟨q, 0, none⟩ = some (.int .i64 y.term) ∧ wf.cell? ⟨q, 1, none⟩ = some (.int .u8 y.kind) ∧ wf.cell? ⟨q, 2, none⟩ = some (.string y.data) ∧ wf.cell? ⟨q, 3, none⟩ = some (.slice A4 y.list.length c4) := ⟨(blk_cells hfr).1 0, (blk_cells hfr).1 1, (blk_cells hfr).1 2, (blk_cells hfr).1 3⟩
  have HWF := Lib.hid hwf
  have HF := Lib.hid (And.intro hof.n.any hBf)
  clear hwf hfr hfar hBf hof hB4 ho4 hb4
  go_wp2_with (refine wpList_store_row rfl 50 (.tmp 4) (.tmp 15) rfl q #[.int .i64 y.term, .int .u8 y.kind, .string y.data, .slice A4 y.list.length c4] rfl rfl 50 _ hq4 (ent_sized _ _ _ _) rfl (by simp [Value.oneCell']) ?_)
  rw [← HWF.out]
  refine bodyPost_ret (v := .tuple #[.agg #[.int .i64 y.term, .int .u8 y.kind, .string y.data, .slice A4 y.list.length c4], .bool z]) (by rw [results_ct rfl]; go_simp; try rfl) rfl ?_
  rw [← HY.out.1, ← HY.out.2]
  exact ⟨⟨A4, c4, rfl, HF.out.1⟩, HF.out.2⟩
set_option maxHeartbeats 1000000 in
set_option maxRecDepth 100000 in
theorem copy_any (g : LG) (B p : Nat) (v : Value) (w : World) (h : LogAt w B p v g) :
    Calls Try.prog 44 #[.pointer (some ⟨p, 0, none⟩)] w fun e w' => (∃ q u, e = .returned (.pointer (some ⟨q, 0, none⟩)) ∧ LogAt w' w.heap.size q u g ∧ u.ownBlock.isSome = true) ∧ Below w.heap.size w w' := by
  obtain ⟨A, c, hv, -, -⟩ := h.n.slice
  subst hv
  obtain ⟨c0, c1, c2⟩ := h.cells
  obtain ⟨w1, hw1⟩ : ∃ w1, w1 = w.alloc (.cells #[.int .i64 (g.base : Int), .int .i64 g.term, .slice A g.l.length c] 122) := ⟨_, rfl⟩
  have hb1 : Below w.heap.size w w1 := by rw [hw1]; exact (Below.refl _ _).alloc (Nat.le_refl _) _
  have hq1 : w1.heap[w.heap.size]? = some (.cells #[.int .i64 (g.base : Int), .int .i64 g.term, .slice A g.l.length c] 122 (0, 0)) := by rw [hw1]; exact heap_alloc_new w _
  obtain ⟨q, hq⟩ : ∃ q, q = w.heap.size := ⟨_, rfl⟩
  rw [← hq] at hq1
  have hfit := h.fit
  have cT := twins_any g.l (.slice A g.l.length c) w1 (h.n.grow hb1) (by omega) (fun e he => by have := (EN.may_list (follows_all h.may e he).1).1; omega)
  obtain ⟨d0, d1, d2⟩ := (h.below hb1).cells
  have H := Lib.hid (And.intro h (And.intro hb1 hq1))
  have HQ := Lib.hid hq
  have HW1 := Lib.hid hw1
  clear h hb1 hq1 hw1 hq hfit
  go_enter Try.func44, Try.ntmps44
  go_upto_region 4 with fail
  rw [← HW1.out, ← HQ.out]
  clear c0 c1 c2
  go_wp2_with fail
  refine cT.mono ?_
  rintro e w2 ⟨g2, c2, rfl, ⟨rs, he2⟩, hb2⟩
  clear cT d0 d1 d2
  have hq2 := (hb2.block q (lt_of_heap H.out.2.2)).trans H.out.2.2
  have hqs : w.heap.size ≤ q := by rw [HQ.out]; exact Nat.le_refl _
  have hB2 := H.out.2.1.trans (Joins.below_le hb2 H.out.2.1.size)
  obtain ⟨w3, hw3⟩ : ∃ w3, w3 = w2.setCell ⟨q, 2, none⟩ (.slice (some ⟨g2, 0, none⟩) g.l.length c2) := ⟨_, rfl⟩
  have hf3 : ∀ b, b ≠ q → w3.heap[b]? = w2.heap[b]? := fun b hb => by rw [hw3]; exact Below.heap_setCell w2 ⟨q, 2, none⟩ _ b hb
  have hq3 : w3.heap[q]? = some (.cells #[.int .i64 (g.base : Int), .int .i64 g.term, .slice (some ⟨g2, 0, none⟩) g.l.length c2] 122 (0, 0)) := by rw [hw3, Joins.block_setCell hq2 _]; rfl
  have hB3 : Below w.heap.size w w3 := by rw [hw3]; exact hB2.setCell (p := ⟨q, 2, none⟩) hqs _
  have nP : ∀ {e : TypeId} {size n C : Nat} {x : Value} {xs : List Value}, e ≠ 122 → w2.ownsRow C e size x n xs → ∀ b, x.ownBlock = some b → b ≠ q := fun {e size n C x xs} hT hx b hb e2 => by
    subst e2
    obtain ⟨c1, h1⟩ := row_type hx hb
    exact apart_T h1 hq2 hT rfl
  have hs1 := H.out.2.1.size
  have hlog : LogAt w3 w.heap.size q (.slice (some ⟨g2, 0, none⟩) g.l.length c2) g := ⟨hq3, ⟨rs, own_base (row_same he2.row fun b hb => hf3 b (nP (by decide) he2.row b hb)) hs1, he2.len, fun i r e hr he => ⟨(he2.ent i r e hr he).1, own_base (row_same (he2.ent i r e hr he).2 fun b hb => hf3 b (nP (by decide) (he2.ent i r e hr he).2 b hb)) hs1⟩⟩, hqs, H.out.1.fit, H.out.1.term0, H.out.1.may⟩
  have HF := Lib.hid (And.intro hlog hB3)
  have HW3 := Lib.hid hw3
  have x2 : w2.cell? ⟨q, 2, none⟩ = some (.slice A g.l.length c) := (blk_cells hq2).1 2
  have y2 : w2.frozen? ⟨q, 2, none⟩ = false := (blk_cells hq2).2 2
  clear hlog hB3 hq3 hf3 hw3 hB2 hq2 he2 hb2 nP
  go_wp2_with fail
  rw [← HW3.out]
  go_ret
  exact ⟨⟨q, _, rfl, HF.out.1, rfl⟩, HF.out.2⟩
def LG.tail (g : LG) (i most : Int) : List EN := if most < 1 then [] else (g.l.drop (g.upto (max i 1 - 1))).take most.toNat
set_option maxHeartbeats 1000000 in
set_option maxRecDepth 100000 in
theorem from_any (g : LG) (B p : Nat) (v : Value) (i : Int) (w : World) (h : LogAt w B p v g) (hi0 : -9223372036854775808 ≤ i) (hi : i ≤ 9223372036854775807) :
    Calls Try.prog 43 #[.pointer (some ⟨p, 0, none⟩), .int .i64 i, .int .i64 100] w fun e w' => (∃ A c, e = .returned (.slice A (g.tail i 100).length c) ∧ EntN w' Any (.slice A (g.tail i 100).length c) (g.tail i 100)) ∧ Below w.heap.size w w' := by
  obtain ⟨A, c, hv, hlc, hcm⟩ := h.n.slice
  subst hv
  obtain ⟨j, hj⟩ : ∃ j : Int, j = max i 1 - 1 := ⟨_, rfl⟩
  have hj0 : wrap64 ((if i < 1 then 1 else i) - 1) = j := by rw [wrap_fit (by split <;> omega), hj]; split <;> omega
  have cU := upto_any g B p _ j w _ h h.n (by omega)
  obtain ⟨k, hk⟩ : ∃ k, k = g.upto j := ⟨_, rfl⟩
  have hkl : k ≤ g.l.length := by rw [hk]; unfold LG.upto; split <;> omega
  have hfr : g.tail i 100 = (g.l.drop k).take 100 := by unfold LG.tail; rw [if_neg (by omega), ← hj, ← hk]; rfl
  rw [← hk] at cU
  have h' := h
  have HH := Lib.hid h
  have HFR := Lib.hid hfr
  clear h
  have k0 : (0 : Int) ≤ (k : Int) := Int.natCast_nonneg _
  have hsl := fun W => fromE W A g.l.length c k hkl
  obtain ⟨m, hm⟩ : ∃ m, m = min 100 (g.l.length - k) := ⟨_, rfl⟩
  have hml : m ≤ g.l.length - k := by omega
  have hs2 := fun W => tillE W (atFrom A c k 4) (g.l.length - k) (c - k) m (by omega)
  have hfit := h'.fit
  have htk : ((g.l.drop k).take 100).length = m := by rw [List.length_take, List.length_drop, hm]
  have htk2 : (g.l.drop k).take m = (g.l.drop k).take 100 := by
    rcases Nat.le_total 100 (g.l.length - k) with hh | hh
    · rw [hm, Nat.min_eq_left hh]
    · rw [hm, Nat.min_eq_right hh, List.take_of_length_le (by rw [List.length_drop]; exact Nat.le_refl _), List.take_of_length_le (by rw [List.length_drop]; omega)]
  have hcase : ((g.l.length - k : Nat) : Int) < 100 ∧ (m : Int) = ((g.l.length - k : Nat) : Int) ∨ ¬ ((g.l.length - k : Nat) : Int) < 100 ∧ (m : Int) = 100 := by omega
  have HTK := Lib.hid (And.intro htk htk2)
  have HML := Lib.hid (And.intro hml hkl |>.1)
  obtain ⟨F, hF⟩ : ∃ F, F = (g.l.drop k).take 100 := ⟨_, rfl⟩
  have HFD := Lib.hid hF
  clear hF
  obtain ⟨c0, c1, c2⟩ := h'.cells
  have hi1 : i < 1 ∨ ¬ i < 1 := by omega
  clear hk hfr htk htk2 hm hlc hcm h' hml hj0 hfit
  rcases hi1 with hi1 | hi1
  · have hj1 : j = 0 := by omega
    rw [hj1] at cU
    clear hj hj1 hi0 hi
    go_enter Try.func43, Try.ntmps43
    go_wp2_with fail
    refine cU.mono ?_
    rintro e w1 ⟨A1, c1, rfl, -, hb1⟩
    clear cU
    obtain ⟨d0, d1, d2⟩ := (HH.out.below hb1).cells
    have hN1 := EntN.take (EntN.drop (HH.out.n.grow hb1) hkl) (k := m) (by rw [List.length_drop]; exact HML.out)
    rw [HTK.out.2, ← HFD.out] at hN1
    have cT := twins_any F _ w1 hN1 (by rw [HFD.out, HTK.out.1]; have := HML.out; omega) (fun e he => by rw [HFD.out] at he; have := (EN.may_list (follows_all HH.out.may e (List.mem_of_mem_drop (List.mem_of_mem_take he))).1).1; omega)
    have HB1 := Lib.hid hb1
    clear hb1 hN1
    rcases hcase with ⟨q1, q2⟩ | ⟨q1, q2⟩
    all_goals
      rw [q2] at hs2
      clear q2
      go_wp2_with fail
      refine cT.mono ?_
      rintro e w2 ⟨g2, c2, rfl, ⟨rs, he2⟩, hb2⟩
      have HF := Lib.hid (And.intro he2.n (HB1.out.trans (Joins.below_le hb2 HB1.out.size)))
      clear cT he2 hb2
      go_wp2_with fail
      go_ret
      rw [HFR.out, ← HFD.out]
      exact ⟨⟨_, _, rfl, HF.out.1⟩, HF.out.2⟩
  · have hj1 : j = i - 1 := by omega
    have hw1 : wrap64 (i - 1) = i - 1 := wrap_fit (by omega)
    rw [hj1] at cU
    clear hj hj1 hi0 hi
    go_enter Try.func43, Try.ntmps43
    go_wp2_with fail
    refine cU.mono ?_
    rintro e w1 ⟨A1, c1, rfl, -, hb1⟩
    clear cU
    obtain ⟨d0, d1, d2⟩ := (HH.out.below hb1).cells
    have hN1 := EntN.take (EntN.drop (HH.out.n.grow hb1) hkl) (k := m) (by rw [List.length_drop]; exact HML.out)
    rw [HTK.out.2, ← HFD.out] at hN1
    have cT := twins_any F _ w1 hN1 (by rw [HFD.out, HTK.out.1]; have := HML.out; omega) (fun e he => by rw [HFD.out] at he; have := (EN.may_list (follows_all HH.out.may e (List.mem_of_mem_drop (List.mem_of_mem_take he))).1).1; omega)
    have HB1 := Lib.hid hb1
    clear hb1 hN1
    rcases hcase with ⟨q1, q2⟩ | ⟨q1, q2⟩
    all_goals
      rw [q2] at hs2
      clear q2
      go_wp2_with fail
      refine cT.mono ?_
      rintro e w2 ⟨g2, c2, rfl, ⟨rs, he2⟩, hb2⟩
      have HF := Lib.hid (And.intro he2.n (HB1.out.trans (Joins.below_le hb2 HB1.out.size)))
      clear cT he2 hb2
      go_wp2_with fail
      go_ret
      rw [HFR.out, ← HFD.out]
      exact ⟨⟨_, _, rfl, HF.out.1⟩, HF.out.2⟩
end Go.Proofs.Ytjfcofalhajgfaa
