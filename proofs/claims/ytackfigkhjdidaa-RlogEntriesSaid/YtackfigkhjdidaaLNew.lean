/-
  The term and the entry at an index, the last, a new log: the program's. No statement is proved here. No condition.
-/
import Derived.Test.YtackfigkhjdidaaLAt
namespace Go.Proofs.Ytackfigkhjdidaa
open Go.RowKit

theorem Told.below {w w' : World} {x : Option EN} {e : Ending} (h : Told w x e) (hb : Below w.heap.size w w') : Told w' x e := by
  obtain ⟨ev, h1, h2, h3⟩ := h.ex
  exact ⟨⟨ev, h1, fun y hy => by obtain ⟨A, c, k1, k2⟩ := h2 y hy; exact ⟨A, c, k1, k2.grow hb⟩, h3⟩⟩
def zE : EN := ⟨0, 0, ⟨#[]⟩, []⟩
/-- what is told, as an entry -/
theorem Told.some {w' : World} {x : Option EN} {e : Ending} (h : Told w' x e) : ∃ A c, e = .returned (.tuple #[(x.getD zE).agg (.slice A (x.getD zE).list.length c), .bool x.isSome]) ∧ inR.N w' Any (.slice A (x.getD zE).list.length c) (x.getD zE).list := by
  obtain ⟨ev, rfl, h2, h3⟩ := h.ex
  cases x with
  | none => exact ⟨none, 0, by rw [h3 rfl]; rfl, Rec.N.nil _ _⟩
  | some y => obtain ⟨A, c, rfl, k⟩ := h2 y rfl; exact ⟨A, c, rfl, k⟩
set_option maxHeartbeats 1000000 in
set_option maxRecDepth 100000 in
theorem term_any (g : LG) (B p : Nat) (v : Value) (i : Int) (w : World) (h : LogAt w B p v g) (hi : i ≤ 9223372036854775807) :
    Calls Try.prog 89 #[.pointer (some ⟨p, 0, none⟩), .int .i64 i] w fun e w' => e = .returned (.tuple #[.int .i64 ((g.termAt i).getD 0), .bool (g.termAt i).isSome]) ∧ Below w.heap.size w w' := by
  obtain ⟨c0, c1, c2⟩ := h.cells
  have cA := at_any g B p v i w h hi
  clear h
  by_cases hib : i = (g.base : Int)
  · have hx : g.termAt i = some g.term := by unfold LG.termAt; rw [if_pos hib]
    have HX := Lib.hid hx
    have hib' : (i == (g.base : Int)) = true := by simpa using hib
    clear hx hi cA hib
    go_enter Try.func89, Try.ntmps89
    go_wp2_with fail
    go_ret2
    rw [HX.out]
    exact ⟨rfl, Below.refl _ _⟩
  · have hx : g.termAt i = (g.at i).map (·.term) := by unfold LG.termAt; rw [if_neg hib]
    have HX := Lib.hid hx
    have hib' : (i == (g.base : Int)) = false := by simpa using hib
    clear hx hi hib
    go_enter Try.func89, Try.ntmps89
    go_upto_region 3 with fail
    go_wp2_with fail
    refine cA.mono ?_
    rintro e w1 ⟨ht, hb1⟩
    obtain ⟨A, c, rfl, hn⟩ := ht.some
    have hgd : ((g.termAt i).getD 0) = ((g.at i).getD zE).term := by rw [HX.out]; cases g.at i <;> rfl
    have his : (g.termAt i).isSome = (g.at i).isSome := by rw [HX.out]; cases g.at i <;> rfl
    obtain ⟨y, hy⟩ : ∃ y, y = (g.at i).getD zE := ⟨_, rfl⟩
    obtain ⟨z, hz⟩ : ∃ z, z = (g.at i).isSome := ⟨_, rfl⟩
    rw [← hy] at hgd
    rw [← hz] at his
    have HGD := Lib.hid (And.intro hgd his)
    rw [← hy, ← hz]
    obtain ⟨w2, hw2⟩ : ∃ w2, w2 = w1.alloc (.cells #[.int .i64 y.term, .int .u8 y.kind, .string y.data, .slice A y.list.length c] 50) := ⟨_, rfl⟩
    have hb2 : Below w1.heap.size w1 w2 := by rw [hw2]; exact (Below.refl _ _).alloc (Nat.le_refl _) _
    have hq2 : w2.heap[w1.heap.size]? = some (.cells #[.int .i64 y.term, .int .u8 y.kind, .string y.data, .slice A y.list.length c] 50 (0, 0)) := by rw [hw2]; exact heap_alloc_new w1 _
    have hB := Lib.hid (hb1.trans (Joins.below_le hb2 hb1.size))
    have HW2 := Lib.hid hw2
    have e0 : w2.cell? ⟨w1.heap.size, 0, none⟩ = some (.int .i64 y.term) := (blk_cells hq2).1 0
    clear cA hb1 hb2 hq2 hw2 hgd his hy hz hn c0 c1 c2 ht hib' HX
    unfold EN.agg
    go_upto_region 4 with fail
    rw [← HW2.out]
    go_wp2_with fail
    go_ret2
    rw [HGD.out.1, HGD.out.2]
    exact ⟨rfl, hB.out⟩
set_option maxHeartbeats 1000000 in
set_option maxRecDepth 100000 in
theorem last_any (g : LG) (B p : Nat) (v : Value) (w : World) (h : LogAt w B p v g) :
    Calls Try.prog 37 #[.pointer (some ⟨p, 0, none⟩)] w fun e w' => e = .returned (.tuple #[.int .i64 (g.last : Int), .int .i64 g.lastT]) ∧ Below w.heap.size w w' := by
  obtain ⟨c0, c1, c2⟩ := h.cells
  obtain ⟨A, c, hv, hlc, hcm⟩ := h.n.slice
  have hn := h.n
  have hfit := h.fit
  have cB := base_any g B p v w h
  subst hv
  clear h
  by_cases h0 : g.l.length = 0
  · have hl : g.l = [] := List.eq_nil_of_length_eq_zero h0
    have h1 : (g.last : Int) = (g.base : Int) := by unfold LG.last; omega
    have h2 : g.lastT = g.term := by unfold LG.lastT; rw [hl]; rfl
    have HF := Lib.hid (And.intro h1 h2)
    rw [h0] at c2
    clear h1 h2 hn hl hfit hlc
    go_enter Try.func37, Try.ntmps37
    go_wp2_with fail
    refine cB.mono ?_
    rintro e w1 ⟨rfl, hb1⟩
    clear c0 c1 c2 cB
    go_wp2_with fail
    go_ret2
    rw [HF.out.1, HF.out.2]
    exact ⟨rfl, hb1⟩
  · have h0' : ((g.l.length : Int) == 0) = false := by simpa using h0
    obtain ⟨k, hk⟩ : ∃ k, g.l.length = k + 1 := ⟨g.l.length - 1, by omega⟩
    obtain ⟨x, hx⟩ : ∃ x, g.l[k]? = some x := ⟨_, List.getElem?_eq_getElem (by omega)⟩
    have h1 : (g.last : Int) = (g.base : Int) + (g.l.length : Int) := by unfold LG.last; omega
    have h2 : g.lastT = x.term := by unfold LG.lastT; rw [lastTerm_get, hk, Nat.add_sub_cancel, hx]; rfl
    have HF := Lib.hid (And.intro h1 h2)
    obtain ⟨b, o, n', k', A3, c3, hv, -, hbl, hli, y0, y1, y2, y3⟩ := hn.cell hx
    injection hv with v1 v2 v3
    subst v1 v3
    have a0 : (0 : Int) ≤ (k : Int) := by omega
    have hsub : wrap64 ((g.l.length : Int) - 1) = (k : Int) := by unfold wrap64; omega
    have hkk : (k : Int) < (g.l.length : Int) := by omega
    have hadd : wrap64 ((g.base : Int) + (g.l.length : Int)) = (g.base : Int) + (g.l.length : Int) := by unfold wrap64; omega
    have b0 : (0 : Int) ≤ (g.base : Int) := Int.natCast_nonneg _
    clear hk hx h1 h2 hn hli hbl hfit h0 cB hlc v2
    go_enter Try.func37, Try.ntmps37
    go_upto_region 4 with fail
    go_quiet (fail)
    go_wp2_with fail
    go_ret2
    rw [HF.out.1, HF.out.2]
    refine ⟨?_, drewN_below _ _ _ _ (Below.refl _ _)⟩
    show Ending.returned (.tuple #[.int .i64 (wrap64 ((g.base : Int) + (g.l.length : Int))), .int .i64 x.term]) = _
    rw [hadd]
theorem refuse_ok {index term : Int} {l : List EN} (h : refuse index term l = 0) : (0 ≤ index ∧ index ≤ 2147483647) ∧ (0 ≤ term ∧ term ≤ 2147483647) ∧ follows term l = true ∧ (l.length : Int) ≤ 2147483647 - index := by
  unfold refuse at h
  split at h
  · rename_i hc
    simp only [Bool.and_eq_true, isCnt, decide_eq_true_eq] at hc
    split at h
    · omega
    · exact ⟨hc.1.1, hc.1.2, hc.2, by omega⟩
  · omega
set_option maxHeartbeats 1000000 in
set_option maxRecDepth 100000 in
theorem new_any (base term : Int) (l : List EN) (v : Value) (w : World) (h : EntN w Any v l) :
    Calls Try.prog 34 #[.int .i64 base, .int .i64 term, v] w fun e w' => ((refuse base term l ≠ 0 ∧ e = .returned (.tuple #[.pointer none, .int .i64 (refuse base term l)])) ∨ (refuse base term l = 0 ∧ ∃ p u, e = .returned (.tuple #[.pointer (some ⟨p, 0, none⟩), .int .i64 0]) ∧ LogAt w' w.heap.size p u ⟨base.toNat, term, l⟩ ∧ u.ownBlock.isSome = true)) ∧ Below w.heap.size w w' := by
  have cR := refusal_any base term l v w h
  have H := Lib.hid h
  obtain ⟨A, c, hv, hlc, hcm⟩ := h.slice
  subst hv
  clear h
  go_enter Try.func34, Try.ntmps34
  go_wp2_with fail
  refine cR.mono ?_
  rintro e w1 ⟨rfl, hb1⟩
  clear cR
  obtain ⟨r, hr⟩ : ∃ r, r = refuse base term l := ⟨_, rfl⟩
  rw [← hr]
  have HR := Lib.hid hr
  clear hr
  by_cases hr0 : r = 0
  · subst hr0
    obtain ⟨q1, q2, q3, q4⟩ := refuse_ok HR.out.symm
    have cT := twins_any l _ w1 (H.out.grow hb1) (by omega) (fun e he => by have := (EN.may_list (follows_all q3 e he).1).1; omega)
    go_wp2_with fail
    refine cT.mono ?_
    rintro e w2 ⟨A2, c2, rfl, ⟨rs, he2⟩, hb2⟩
    clear cT
    obtain ⟨w3, hw3⟩ : ∃ w3, w3 = w2.alloc (.cells #[.int .i64 base, .int .i64 term, .slice (some ⟨A2, 0, none⟩) l.length c2] 128) := ⟨_, rfl⟩
    have hb3 : Below w2.heap.size w2 w3 := by rw [hw3]; exact (Below.refl _ _).alloc (Nat.le_refl _) _
    have hp3 : w3.heap[w2.heap.size]? = some (.cells #[.int .i64 base, .int .i64 term, .slice (some ⟨A2, 0, none⟩) l.length c2] 128 (0, 0)) := by rw [hw3]; exact heap_alloc_new w2 _
    have hB2 := hb1.trans (Joins.below_le hb2 hb1.size)
    have he3 := he2.below hb3
    have hlog : LogAt w3 w.heap.size w2.heap.size (.slice (some ⟨A2, 0, none⟩) l.length c2) ⟨base.toNat, term, l⟩ := by
      refine ⟨?_, ⟨rs, own_base he3.row hb1.size, he3.len, fun i r e hr he => ⟨(he3.ent i r e hr he).1, own_base (he3.ent i r e hr he).2 hb1.size⟩⟩, hB2.size, by show base.toNat + l.length ≤ _; omega, q2, q3⟩
      show _ = some (Obj.cells #[.int .i64 ((base.toNat : Nat) : Int), .int .i64 term, _] _ _)
      rw [Int.toNat_of_nonneg q1.1]
      exact hp3
    have HF := Lib.hid (And.intro hlog (hB2.trans (Joins.below_le hb3 hB2.size)))
    have HW3 := Lib.hid hw3
    clear hw3 hb3 hp3 hB2 he3 hlog he2 hb2 hb1
    go_wp2_with fail
    rw [← HW3.out]
    go_ret2
    exact ⟨.inr ⟨HR.out.symm, _, _, rfl, HF.out.1, rfl⟩, HF.out.2⟩
  · have hr0' : (r == 0) = false := by simpa using hr0
    have HB := Lib.hid hb1
    clear hb1
    go_wp2_with fail
    go_ret2
    exact ⟨.inl ⟨by rw [← HR.out]; exact hr0, by rw [← HR.out]; rfl⟩, HB.out⟩
end Go.Proofs.Ytackfigkhjdidaa
