/-
  An entry told, a log's copy, and the entries from an index on: the program's. No statement is proved here. No condition.
-/
import Derived.Test.YtackfigkhjdidaaLMergeP
namespace Go.Proofs.Ytackfigkhjdidaa
open Go.RowKit

set_option maxHeartbeats 1000000 in
set_option maxRecDepth 100000 in
theorem entry_any (g : LG) (B p : Nat) (v : Value) (i : Int) (w : World) (h : LogAt w B p v g) (hi : i ≤ 9223372036854775807) :
    Calls Try.prog 38 #[.pointer (some ⟨p, 0, none⟩), .int .i64 i] w fun e w' => (∃ A c, e = .returned (.tuple #[((g.at i).getD zE).agg (.slice A ((g.at i).getD zE).list.length c), .bool (g.at i).isSome]) ∧ inR.N w' Any (.slice A ((g.at i).getD zE).list.length c) ((g.at i).getD zE).list) ∧ Below w.heap.size w w' := by
  obtain ⟨w1, hw1⟩ : ∃ w1, w1 = w.alloc (.cells #[.int .i64 0, .int .u8 0, .string ⟨#[]⟩, .slice none 0 0] 50) := ⟨_, rfl⟩
  have hb1 : Below w.heap.size w w1 := by rw [hw1]; exact (Below.refl _ _).alloc (Nat.le_refl _) _
  have hq1 : w1.heap[w.heap.size]? = some (.cells #[.int .i64 0, .int .u8 0, .string ⟨#[]⟩, .slice none 0 0] 50 (0, 0)) := by rw [hw1]; exact heap_alloc_new w _
  obtain ⟨q, hq⟩ : ∃ q, q = w.heap.size := ⟨_, rfl⟩
  rw [← hq] at hq1
  have cA := at_any g B p v i w1 (h.below hb1) hi
  have hlist : ((g.at i).getD zE).list.length ≤ 17592186044416 := by
    cases hx : g.at i with
    | none => simp [zE]
    | some x =>
      have hm : x ∈ g.l := by
        unfold LG.at at hx
        split at hx
        · cases hx
        · exact List.mem_of_getElem? hx
      have := (EN.may_list (follows_all h.may x hm).1).1
      show x.list.length ≤ _
      omega
  have hz := zero_ent
  have HB1 := Lib.hid (And.intro hb1 hq1)
  have HQ := Lib.hid hq
  have HW1 := Lib.hid hw1
  clear hw1 hb1 hq1 hq h hi
  go_enter Try.func38, Try.ntmps38
  go_upto_region 1 with fail
  rw [← HW1.out, ← HQ.out]
  go_wp2_with fail
  refine cA.mono ?_
  rintro e w2 ⟨ht, hb2⟩
  obtain ⟨A, c, rfl, hn⟩ := ht.some
  clear cA ht
  obtain ⟨y, hy⟩ : ∃ y, y = (g.at i).getD zE := ⟨_, rfl⟩
  obtain ⟨z, hz'⟩ : ∃ z, z = (g.at i).isSome := ⟨_, rfl⟩
  rw [← hy] at hn hlist
  have HY := Lib.hid (And.intro hy hz')
  rw [← hy, ← hz']
  unfold EN.agg
  obtain ⟨w3, hw3⟩ : ∃ w3, w3 = w2.alloc (.cells #[.int .i64 y.term, .int .u8 y.kind, .string y.data, .slice A y.list.length c] 50) := ⟨_, rfl⟩
  have hb3 : Below w2.heap.size w2 w3 := by rw [hw3]; exact (Below.refl _ _).alloc (Nat.le_refl _) _
  have he3 : w3.heap[w2.heap.size]? = some (.cells #[.int .i64 y.term, .int .u8 y.kind, .string y.data, .slice A y.list.length c] 50 (0, 0)) := by rw [hw3]; exact heap_alloc_new w2 _
  have hb23 := hb2.trans (Joins.below_le hb3 hb2.size)
  have hq3 := (hb23.block q (lt_of_heap HB1.out.2)).trans HB1.out.2
  have hB3 := HB1.out.1.trans (Joins.below_le hb23 HB1.out.1.size)
  obtain ⟨b3, hb3d⟩ : ∃ b3, b3 = w2.heap.size := ⟨_, rfl⟩
  rw [← hb3d] at he3
  obtain ⟨x0, x1, x2, x3⟩ : w3.cell? ⟨b3, 0, none⟩ = some (.int .i64 y.term) ∧ w3.cell? ⟨b3, 1, none⟩ = some (.int .u8 y.kind) ∧ w3.cell? ⟨b3, 2, none⟩ = some (.string y.data) ∧ w3.cell? ⟨b3, 3, none⟩ = some (.slice A y.list.length c) := ⟨(blk_cells he3).1 0, (blk_cells he3).1 1, (blk_cells he3).1 2, (blk_cells he3).1 3⟩
  have cT := twin_any y (.slice A y.list.length c) w3 (hn.grow hb3) hlist
  unfold EN.agg at cT
  have HW3 := Lib.hid (And.intro hw3 hb3d)
  have HB3 := Lib.hid (And.intro hB3 hq3)
  clear hy hz' hw3 hb3 he3 hb23 hq3 hB3 hb3d hn hlist hb2 HB1
  go_upto_region 2 with fail
  rw [← HW3.out.1, ← HW3.out.2]
  go_upto_region 2 with fail
  go_wp2_with fail
  refine cT.mono ?_
  rintro e w4 ⟨A4, c4, rfl, ho4, hb4⟩
  clear cT x0 x1 x2 x3
  have hq4 := (hb4.block q (lt_of_heap HB3.out.2)).trans HB3.out.2
  have hqs : w.heap.size ≤ q := by rw [HQ.out]; exact Nat.le_refl _
  have hB4 := HB3.out.1.trans (Joins.below_le hb4 HB3.out.1.size)
  obtain ⟨wf, hwf⟩ : ∃ wf, wf = w4.setRow q #[.int .i64 y.term, .int .u8 y.kind, .string y.data, .slice A4 y.list.length c4] := ⟨_, rfl⟩
  have hfr := setRow_heap w4 q _ #[.int .i64 y.term, .int .u8 y.kind, .string y.data, .slice A4 y.list.length c4] _ _ hq4
  have hfar : ∀ b, b ≠ q → wf.heap[b]? = w4.heap[b]? := fun b hb => by rw [hwf]; exact setRow_other w4 q b _ hb
  have hBf : Below w.heap.size w wf := by rw [hwf]; exact below_setRow hB4 hqs _
  rw [← hwf] at hfr
  have hof : inR.Own wf w3.heap.size 3 (.slice A4 y.list.length c4) y.list := row_same ho4 fun b hb => hfar b fun e => by
    subst e
    obtain ⟨cur, hc⟩ := row_type ho4 hb
    exact apart_T hc hq4 (by decide) rfl
  obtain ⟨r0, r1, r2, r3⟩ : wf.cell? ⟨q, 0, none⟩ = some (.int .i64 y.term) ∧ wf.cell? ⟨q, 1, none⟩ = some (.int .u8 y.kind) ∧ wf.cell? ⟨q, 2, none⟩ = some (.string y.data) ∧ wf.cell? ⟨q, 3, none⟩ = some (.slice A4 y.list.length c4) := ⟨(blk_cells hfr).1 0, (blk_cells hfr).1 1, (blk_cells hfr).1 2, (blk_cells hfr).1 3⟩
  have HWF := Lib.hid hwf
  have HF := Lib.hid (And.intro hof.n.any hBf)
  clear hwf hfr hfar hBf hof hB4 ho4 hb4
  go_wp2_with (refine wpList_store_row rfl 50 (.tmp 4) (.tmp 15) rfl q #[.int .i64 y.term, .int .u8 y.kind, .string y.data, .slice A4 y.list.length c4] rfl rfl 50 _ hq4 (ent_sized _ _ _ _) rfl (by simp [Value.oneCell']) ?_)
  rw [← HWF.out]
  refine bodyPost_ret (v := .tuple #[.agg #[.int .i64 y.term, .int .u8 y.kind, .string y.data, .slice A4 y.list.length c4], .bool z]) (by rw [results_ct rfl]; go_simp; try rfl) rfl ?_
  rw [← HY.out.1, ← HY.out.2]
  exact ⟨⟨A4, c4, rfl, HF.out.1⟩, HF.out.2⟩
def LG.tail (g : LG) (i most : Int) : List EN := if most < 1 then [] else (g.l.drop (g.upto (max i 1 - 1))).take most.toNat
end Go.Proofs.Ytackfigkhjdidaa
