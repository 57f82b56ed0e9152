/-
  A twin of an entry: the document's. No statement is proved here. No condition.
-/
import Derived.Test.YtackfigkhjdidaaLTwin
namespace Go.Proofs.Ytackfigkhjdidaa
open Go.RowKit

set_option maxHeartbeats 1000000 in
set_option maxRecDepth 100000 in
theorem twinD_any (e : EN) (v : Value) (w : World) (h : inR.N w Any v e.list) (hl : e.list.length ≤ 17592186044416) :
    Calls Try.prog 26 #[e.agg v] w fun r w' => ∃ A c, r = .returned (e.agg (.slice A e.list.length c)) ∧ inR.Own w' w.heap.size 3 (.slice A e.list.length c) e.list ∧ Below w.heap.size w w' := by
  obtain ⟨A, c, rfl, hlc, hcm⟩ := h.slice
  unfold EN.agg
  obtain ⟨w1, hw1⟩ : ∃ w1, w1 = w.alloc (.cells #[.int .i64 e.term, .int .u8 e.kind, .string e.data, .slice A e.list.length c] 50) := ⟨_, rfl⟩
  have hb1 : Below w.heap.size w w1 := by rw [hw1]; exact (Below.refl _ _).alloc (Nat.le_refl _) _
  have hx1 : w1.heap[w.heap.size]? = some (.cells #[.int .i64 e.term, .int .u8 e.kind, .string e.data, .slice A e.list.length c] 50 (0, 0)) := by rw [hw1]; exact heap_alloc_new w _
  have hs1 : w1.heap.size = w.heap.size + 1 := by rw [hw1]; simp
  obtain ⟨w2, hw2⟩ : ∃ w2, w2 = w1.alloc (.cells #[.int .i64 0, .int .u8 0, .string ⟨#[]⟩, .slice none 0 0] 50) := ⟨_, rfl⟩
  have hb2 : Below w1.heap.size w1 w2 := by rw [hw2]; exact (Below.refl _ _).alloc (Nat.le_refl _) _
  have hr2 : w2.heap[w1.heap.size]? = some (.cells #[.int .i64 0, .int .u8 0, .string ⟨#[]⟩, .slice none 0 0] 50 (0, 0)) := by rw [hw2]; exact heap_alloc_new w1 _
  have hx2 := (hb2.block _ (lt_of_heap hx1)).trans hx1
  have hB2 : Below w.heap.size w w2 := hb1.trans (Joins.below_le hb2 (by omega))
  obtain ⟨p, hp⟩ : ∃ p, p = w.heap.size := ⟨_, rfl⟩
  obtain ⟨q, hq⟩ : ∃ q, q = w1.heap.size := ⟨_, rfl⟩
  have hq1 : q = w.heap.size + 1 := hq.trans hs1
  rw [← hp] at hx2
  rw [← hq] at hr2
  have hww : w2 = (w.alloc (.cells #[.int .i64 e.term, .int .u8 e.kind, .string e.data, .slice A e.list.length c] 50)).alloc (.cells #[.int .i64 0, .int .u8 0, .string ⟨#[]⟩, .slice none 0 0] 50) := by rw [hw2, hw1]
  obtain ⟨ii, hii, z0, z1, z2⟩ := info_parts info_cint
  obtain ⟨A5, c5, w3, hr3, ho3, hb3⟩ := lit_app (R := inR) (w := w2) (B := w.heap.size) (t := 32) Try.underlying32 hii z0 z1 z2 rfl (by decide) ((h.grow hb1).grow hb2) (by unfold maxLen; omega) (by omega) hB2.size
  have hx3 := (hb3.block p (lt_of_heap hx2)).trans hx2
  have hr3' := (hb3.block q (lt_of_heap hr2)).trans hr2
  have c3 : (w2.alloc (.cells #[] 3)).cell? ⟨p, 3, none⟩ = some (.slice A e.list.length c) := (blk_cells ((Below.heap_alloc w2 _ p (lt_of_heap hx2)).trans hx2)).1 3
  have d3 : w3.cell? ⟨p, 3, none⟩ = some (.slice A e.list.length c) := (blk_cells hx3).1 3
  have f3 : w3.frozen? ⟨p, 3, none⟩ = false := (blk_cells hx3).2 3
  obtain ⟨w4, hw4⟩ : ∃ w4, w4 = w3.setCell ⟨p, 3, none⟩ (.slice A5 e.list.length c5) := ⟨_, rfl⟩
  have far4 : ∀ b, b ≠ p → w4.heap[b]? = w3.heap[b]? := fun b hb => by rw [hw4]; exact Below.heap_setCell w3 ⟨p, 3, none⟩ _ b hb
  have hx4 : w4.heap[p]? = some (.cells #[.int .i64 e.term, .int .u8 e.kind, .string e.data, .slice A5 e.list.length c5] 50 (0, 0)) := by rw [hw4, Joins.block_setCell hx3 _]; rfl
  have hq4 := (far4 q (by omega)).trans hr3'
  have ho4 : inR.Own w4 w.heap.size 3 (.slice A5 e.list.length c5) e.list := row_same ho3 fun b hb => far4 b fun e => by
    subst e
    obtain ⟨cur, hc⟩ := row_type ho3 hb
    exact apart_T hc hx3 (by decide) rfl
  have hB4 : Below w.heap.size w w4 := by
    rw [hw4]
    exact (hB2.trans (Joins.below_le hb3 hB2.size)).setCell (p := ⟨p, 3, none⟩) (by rw [hp]; exact Nat.le_refl _) _
  have hfin := setRow_heap w4 q _ #[.int .i64 e.term, .int .u8 e.kind, .string e.data, .slice A5 e.list.length c5] _ _ hq4
  have hfar : ∀ b, b ≠ q → (w4.setRow q #[.int .i64 e.term, .int .u8 e.kind, .string e.data, .slice A5 e.list.length c5]).heap[b]? = w4.heap[b]? := fun b hb => setRow_other w4 q b _ hb
  have ho5 : inR.Own (w4.setRow q #[.int .i64 e.term, .int .u8 e.kind, .string e.data, .slice A5 e.list.length c5]) w.heap.size 3 (.slice A5 e.list.length c5) e.list := row_same ho4 fun b hb => hfar b fun e => by
    subst e
    obtain ⟨cur, hc⟩ := row_type ho4 hb
    exact apart_T hc hq4 (by decide) rfl
  have hB5 := below_setRow (g := q) hB4 (by omega) #[.int .i64 e.term, .int .u8 e.kind, .string e.data, .slice A5 e.list.length c5]
  have HW := Lib.hid hww
  have HP := Lib.hid hp
  have HQ := Lib.hid hq1
  have HW4 := Lib.hid hw4
  have HR := Lib.hid hr3
  have HF := Lib.hid (And.intro hfin (And.intro ho5 hB5))
  have hz := zero_ent
  clear h hw1 hb1 hx1 hs1 hw2 hb2 hr2 hx2 hB2 hp hq hq1 hww hii z0 z1 z2 hr3 ho3 hb3 hx3 hr3' hw4 far4 ho4 hB4 hfin hfar ho5 hB5
  go_enter Try.func26, Try.ntmps26
  go_upto_region 1 with fail
  rw [← HW.out, ← HQ.out, ← HP.out]
  go_upto_region 2 with (at_builtin; go_must (refine Lib.wpList_append_run _ rfl (.tmp 3) (.tmp 5) 32 32 rfl _ _ rfl rfl _ _ HR.out ?_))
  rw [← HW4.out]
  go_wp2_with (first
    | (refine wpList_load_row rfl 50 (.tmp 1) rfl p rfl 50 #[.int .i64 e.term, .int .u8 e.kind, .string e.data, .slice A5 e.list.length c5] (0, 0) _ hx4 Try.underlying50 rfl (ent_sized _ _ _ _) ?_)
    | (refine wpList_store_row rfl 50 (.tmp 2) (.tmp 8) rfl q #[.int .i64 e.term, .int .u8 e.kind, .string e.data, .slice A5 e.list.length c5] rfl rfl 50 _ hq4 (ent_sized _ _ _ _) rfl (by simp [Value.oneCell']) ?_))
  refine bodyPost_ret (v := .agg #[.int .i64 e.term, .int .u8 e.kind, .string e.data, .slice A5 e.list.length c5]) ?_ rfl ⟨_, _, rfl, HF.out.2.1, HF.out.2.2⟩
  exact results_cell_row rfl _ _ q 50 #[.int .i64 e.term, .int .u8 e.kind, .string e.data, .slice A5 e.list.length c5] (0, 0) _ rfl HF.out.1 Try.underlying50 rfl (ent_sized _ _ _ _)
end Go.Proofs.Ytackfigkhjdidaa
