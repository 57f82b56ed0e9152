/-
  The entry and the term at an index, the last, and a new log: the program's. No statement is proved here. No condition.
-/
import Derived.Test.YtackfigkhjdidaaLLog
namespace Go.Proofs.Ytackfigkhjdidaa
open Go.RowKit

theorem results_ct {fn : Func} {p s : Tmp} {tp : TypeId} (h : fn.results = #[.cell p tp, .tmp s]) (tmps : Array Value) (P : Program) (w : World) :
    (results fn tmps).run P w = ((asAddr (tmps.getD p undef)).run P w).andThen fun a w₁ => ((loadVar tp a).run P w₁).andThen fun v w₂ => .ok (.tuple #[v, tmps.getD s undef]) w₂ := by
  simp only [results, h]
  simp [Sem.run_bind, Result.andThen]
/-- what 'at' and 'Entry' tell -/
structure Told (w' : World) (x : Option EN) (e : Ending) : Prop where
  ex : ∃ ev, e = .returned (.tuple #[ev, .bool x.isSome]) ∧ (∀ y, x = some y → ∃ A c, ev = y.agg (.slice A y.list.length c) ∧ inR.N w' Any (.slice A y.list.length c) y.list) ∧ (x = none → ev = .agg #[.int .i64 0, .int .u8 0, .string ⟨#[]⟩, .slice none 0 0])
set_option maxHeartbeats 1000000 in
set_option maxRecDepth 100000 in
theorem at_any (g : LG) (B p : Nat) (v : Value) (i : Int) (w : World) (h : LogAt w B p v g) (hi : i ≤ 9223372036854775807) :
    Calls Try.prog 95 #[.pointer (some ⟨p, 0, none⟩), .int .i64 i] w fun e w' => Told w' (g.at i) e ∧ Below w.heap.size w w' := by
  obtain ⟨w1, hw1⟩ : ∃ w1, w1 = w.alloc (.cells #[.int .i64 0, .int .u8 0, .string ⟨#[]⟩, .slice none 0 0] 50) := ⟨_, rfl⟩
  have hb1 : Below w.heap.size w w1 := by rw [hw1]; exact (Below.refl _ _).alloc (Nat.le_refl _) _
  have hq1 : w1.heap[w.heap.size]? = some (.cells #[.int .i64 0, .int .u8 0, .string ⟨#[]⟩, .slice none 0 0] 50 (0, 0)) := by rw [hw1]; exact heap_alloc_new w _
  obtain ⟨q, hq⟩ : ∃ q, q = w.heap.size := ⟨_, rfl⟩
  rw [← hq] at hq1
  have hold := h.n.old
  rw [← hq] at hold
  have cU := upto_any g B p v i w1 _ (h.below hb1) (hold.grow hb1) hi
  clear hold
  have hfit := h.fit
  have H := Lib.hid h
  have hz := zero_ent
  have HB1 := Lib.hid (And.intro hb1 hq1)
  have HQ := Lib.hid hq
  rw [hw1, hq] at cU
  have HW1 := Lib.hid hw1
  clear h hw1 hb1 hq1 hq
  go_enter Try.func95, Try.ntmps95
  go_wp2_with fail
  refine cU.mono ?_
  rintro e w2 ⟨A, c, rfl, hn, hb2⟩
  rw [← HW1.out] at hb2
  clear cU
  rw [← HQ.out]
  have hq2 := (hb2.block q (lt_of_heap HB1.out.2)).trans HB1.out.2
  have hB2 := HB1.out.1.trans (Joins.below_le hb2 HB1.out.1.size)
  have c0 : w2.cell? ⟨p, 0, none⟩ = some (.int .i64 (g.base : Int)) := ((H.out.below HB1.out.1).below hb2).cells.1
  have HN := Lib.hid hn
  have HB2 := Lib.hid hB2
  obtain ⟨z0, z1, z2, z3⟩ : w2.cell? ⟨q, 0, none⟩ = some (.int .i64 0) ∧ w2.cell? ⟨q, 1, none⟩ = some (.int .u8 0) ∧ w2.cell? ⟨q, 2, none⟩ = some (.string ⟨#[]⟩) ∧ w2.cell? ⟨q, 3, none⟩ = some (.slice none 0 0) := ⟨(blk_cells hq2).1 0, (blk_cells hq2).1 1, (blk_cells hq2).1 2, (blk_cells hq2).1 3⟩
  have hqs : w.heap.size ≤ q := by rw [HQ.out]; exact Nat.le_refl _
  -- nothing is told
  have hno : g.at i = none → Told (w2.setRow q #[.int .i64 0, .int .u8 0, .string ⟨#[]⟩, .slice none 0 0]) (g.at i) (.returned (.tuple #[.agg #[.int .i64 0, .int .u8 0, .string ⟨#[]⟩, .slice none 0 0], .bool false])) ∧ Below w.heap.size w (w2.setRow q #[.int .i64 0, .int .u8 0, .string ⟨#[]⟩, .slice none 0 0]) := fun hx => by
    rw [hx]
    exact ⟨⟨⟨_, rfl, fun y hy => by (cases hy), fun _ => rfl⟩⟩, below_setRow hB2 hqs _⟩
  have hzf := setRow_heap w2 q _ #[.int .i64 0, .int .u8 0, .string ⟨#[]⟩, .slice none 0 0] _ _ hq2
  have HNO := Lib.hid hno
  clear hb2 hn hno hB2
  by_cases hib : i ≤ (g.base : Int)
  · have hu : g.upto i = 0 := by unfold LG.upto; rw [if_pos hib]
    have hx : g.at i = none := by unfold LG.at; rw [if_pos hib]
    have HX := Lib.hid (HNO.out hx)
    rw [hu]
    clear hu hx HNO
    go_wp2_with (refine wpList_store_row rfl 50 (.tmp 4) (.tmp 24) rfl q #[.int .i64 0, .int .u8 0, .string ⟨#[]⟩, .slice none 0 0] rfl rfl 50 _ hq2 (ent_sized _ _ _ _) rfl (by simp [Value.oneCell']) ?_)
    obtain ⟨wf, hwf⟩ : ∃ wf, wf = w2.setRow q #[.int .i64 0, .int .u8 0, .string ⟨#[]⟩, .slice none 0 0] := ⟨_, rfl⟩
    rw [← hwf] at HX hzf ⊢
    clear hwf
    obtain ⟨r0, r1, r2, r3⟩ : wf.cell? ⟨q, 0, none⟩ = some (.int .i64 0) ∧ wf.cell? ⟨q, 1, none⟩ = some (.int .u8 0) ∧ wf.cell? ⟨q, 2, none⟩ = some (.string ⟨#[]⟩) ∧ wf.cell? ⟨q, 3, none⟩ = some (.slice none 0 0) := ⟨(blk_cells hzf).1 0, (blk_cells hzf).1 1, (blk_cells hzf).1 2, (blk_cells hzf).1 3⟩
    exact bodyPost_ret (v := .tuple #[.agg #[.int .i64 0, .int .u8 0, .string ⟨#[]⟩, .slice none 0 0], .bool false]) (by rw [results_ct rfl]; go_simp; try rfl) rfl HX.out
  · have hu : g.upto i = min (i - g.base).toNat g.l.length := by unfold LG.upto; rw [if_neg hib]
    have hx : g.at i = g.l[(i - g.base - 1).toNat]? := by unfold LG.at; rw [if_neg hib]
    have d0 : wrap64 (i - (g.base : Int)) = i - (g.base : Int) := by unfold wrap64; omega
    by_cases hm : i - (g.base : Int) > (g.l.length : Int)
    · have hxn : g.at i = none := by rw [hx]; exact List.getElem?_eq_none (by omega)
      have HX := Lib.hid (HNO.out hxn)
      have huu : g.upto i = g.l.length := by omega
      rw [huu]
      clear hu hx hxn HNO huu
      by_cases h0 : (g.l.length : Int) = 0
      · have h0' : g.l.length = 0 := by omega
        rw [h0']
        go_wp2_with (refine wpList_store_row rfl 50 (.tmp 4) (.tmp 24) rfl q #[.int .i64 0, .int .u8 0, .string ⟨#[]⟩, .slice none 0 0] rfl rfl 50 _ hq2 (ent_sized _ _ _ _) rfl (by simp [Value.oneCell']) ?_)
        obtain ⟨wf, hwf⟩ : ∃ wf, wf = w2.setRow q #[.int .i64 0, .int .u8 0, .string ⟨#[]⟩, .slice none 0 0] := ⟨_, rfl⟩
        rw [← hwf] at HX hzf ⊢
        clear hwf
        obtain ⟨r0, r1, r2, r3⟩ : wf.cell? ⟨q, 0, none⟩ = some (.int .i64 0) ∧ wf.cell? ⟨q, 1, none⟩ = some (.int .u8 0) ∧ wf.cell? ⟨q, 2, none⟩ = some (.string ⟨#[]⟩) ∧ wf.cell? ⟨q, 3, none⟩ = some (.slice none 0 0) := ⟨(blk_cells hzf).1 0, (blk_cells hzf).1 1, (blk_cells hzf).1 2, (blk_cells hzf).1 3⟩
        exact bodyPost_ret (v := .tuple #[.agg #[.int .i64 0, .int .u8 0, .string ⟨#[]⟩, .slice none 0 0], .bool false]) (by rw [results_ct rfl]; go_simp; try rfl) rfl HX.out
      · have h0' : ((g.l.length : Int) == 0) = false := by simpa using h0
        go_wp2_with (refine wpList_store_row rfl 50 (.tmp 4) (.tmp 24) rfl q #[.int .i64 0, .int .u8 0, .string ⟨#[]⟩, .slice none 0 0] rfl rfl 50 _ hq2 (ent_sized _ _ _ _) rfl (by simp [Value.oneCell']) ?_)
        obtain ⟨wf, hwf⟩ : ∃ wf, wf = w2.setRow q #[.int .i64 0, .int .u8 0, .string ⟨#[]⟩, .slice none 0 0] := ⟨_, rfl⟩
        rw [← hwf] at HX hzf ⊢
        clear hwf
        obtain ⟨r0, r1, r2, r3⟩ : wf.cell? ⟨q, 0, none⟩ = some (.int .i64 0) ∧ wf.cell? ⟨q, 1, none⟩ = some (.int .u8 0) ∧ wf.cell? ⟨q, 2, none⟩ = some (.string ⟨#[]⟩) ∧ wf.cell? ⟨q, 3, none⟩ = some (.slice none 0 0) := ⟨(blk_cells hzf).1 0, (blk_cells hzf).1 1, (blk_cells hzf).1 2, (blk_cells hzf).1 3⟩
        exact bodyPost_ret (v := .tuple #[.agg #[.int .i64 0, .int .u8 0, .string ⟨#[]⟩, .slice none 0 0], .bool false]) (by rw [results_ct rfl]; go_simp; try rfl) rfl HX.out
    · obtain ⟨k, hk⟩ : ∃ k, k + 1 = g.upto i := ⟨(i - g.base - 1).toNat, by omega⟩
      obtain ⟨m, hmk⟩ : ∃ m, m = k + 1 := ⟨_, rfl⟩
      have hki : i - (g.base : Int) = (k : Int) + 1 := by omega
      have hkl : k < g.l.length := by omega
      obtain ⟨x, hxk⟩ : ∃ x, g.l[k]? = some x := ⟨_, List.getElem?_eq_getElem hkl⟩
      have hx2 : g.at i = some x := by rw [hx, hki, show ((k : Int) + 1 - 1).toNat = k by omega]; exact hxk
      rw [← hk, ← hmk] at HN ⊢
      obtain ⟨b, o, n', k', A3, c3, hv, -, hbl, hli, y0, y1, y2, y3⟩ := HN.out.cell (i := k) (e := x) (by rw [List.getElem?_take, if_pos (by omega)]; exact hxk)
      injection hv with v1 v2 v3
      subst v1 v2 v3
      have a0 : (0 : Int) ≤ (k : Int) := by omega
      have a1 : (k : Int) < 2147483647 := by omega
      have h0 : ((m : Int) == 0) = false := by simp; omega
      have hgt : ¬ i - (g.base : Int) > (m : Int) := by omega
      have hsub : wrap64 ((m : Int) - 1) = (k : Int) := by unfold wrap64; omega
      have hkk : (k : Int) < (m : Int) := by omega
      obtain ⟨wf, hwf⟩ : ∃ wf, wf = w2.setRow q #[.int .i64 x.term, .int .u8 x.kind, .string x.data, .slice A3 x.list.length c3] := ⟨_, rfl⟩
      have hfr := setRow_heap w2 q _ #[.int .i64 x.term, .int .u8 x.kind, .string x.data, .slice A3 x.list.length c3] _ _ hq2
      rw [← hwf] at hfr
      have hfar : ∀ b, b ≠ q → wf.heap[b]? = w2.heap[b]? := fun b hb => by rw [hwf]; exact setRow_other w2 q b _ hb
      obtain ⟨r0, r1, r2, r3⟩ : wf.cell? ⟨q, 0, none⟩ = some (.int .i64 x.term) ∧ wf.cell? ⟨q, 1, none⟩ = some (.int .u8 x.kind) ∧ wf.cell? ⟨q, 2, none⟩ = some (.string x.data) ∧ wf.cell? ⟨q, 3, none⟩ = some (.slice A3 x.list.length c3) := ⟨(blk_cells hfr).1 0, (blk_cells hfr).1 1, (blk_cells hfr).1 2, (blk_cells hfr).1 3⟩
      have HF : Hid (Told wf (g.at i) (.returned (.tuple #[.agg #[.int .i64 x.term, .int .u8 x.kind, .string x.data, .slice A3 x.list.length c3], .bool true])) ∧ Below w.heap.size w wf) := Lib.hid ⟨by
        rw [hx2]
        refine ⟨⟨_, rfl, fun y hy => ⟨A3, c3, ?_, ?_⟩, fun hh => by (cases hh)⟩⟩
        · have hy := Option.some.inj hy
          subst hy
          rfl
        · have hy := Option.some.inj hy
          subst hy
          exact hli.kept (fun _ _ _ => trivial) (by rw [hwf]; simp) fun b hb _ => hfar b (by omega), by rw [hwf]; exact below_setRow HB2.out hqs _⟩
      have HWF := Lib.hid hwf
      clear hli hbl hfr hfar hx hx2 hxk hu hk hmk hm hki hkl a1 hwf HNO hzf
      go_wp2_with (refine wpList_store_row rfl 50 (.tmp 4) (.tmp 30) rfl q #[.int .i64 x.term, .int .u8 x.kind, .string x.data, .slice A3 x.list.length c3] rfl rfl 50 _ hq2 (ent_sized _ _ _ _) rfl (by simp [Value.oneCell']) ?_)
      rw [← HWF.out]
      exact bodyPost_ret (v := .tuple #[.agg #[.int .i64 x.term, .int .u8 x.kind, .string x.data, .slice A3 x.list.length c3], .bool true]) (by rw [results_ct rfl]; go_simp; try rfl) rfl HF.out
end Go.Proofs.Ytackfigkhjdidaa
