/-
  The program's add: a part put to the others. No statement is proved here. No condition.
-/
import Derived.Test.YtfmaocinckeagaaDoorQMsg
namespace Go.Proofs.YtfmaocinckeagaaDoor
open Go.RowKit

theorem strR_row (l : List (List UInt8)) : strR.row l = l.map fun d => Value.string (tx d) := by
  induction l with
  | nil => rfl
  | cons a l ih => rw [strR.row_cons, ih]; rfl
theorem str_cell {w : World} {s i : Nat} {l : List (List UInt8)} {d : List UInt8} (h : w.heap[s]? = some (.cells (strR.row l).toArray 9 (0, 0))) (hi : l[i]? = some d) : w.cell? ⟨s, i, none⟩ = some (.string (tx d)) ∧ w.frozen? ⟨s, i, none⟩ = false := by
  refine ⟨?_, (blk_cells h).2 i⟩
  rw [(blk_cells h).1 i, List.getElem?_toArray, strR_row, List.getElem?_map, hi]
  rfl
theorem str_set {w : World} {s i : Nat} {l : List (List UInt8)} (h : w.heap[s]? = some (.cells (strR.row l).toArray 9 (0, 0))) (d : List UInt8) : (w.setCell ⟨s, i, none⟩ (.string (tx d))).heap[s]? = some (.cells (strR.row (l.set i d)).toArray 9 (0, 0)) := by
  rw [Joins.block_setCell h _, strR_row, strR_row, List.map_set]
  simp
/-- a part put to the others -/
def KE.add (e : KE) (pl : Nat) (d : List UInt8) : KE := if e.parts[pl]? = some [] then { e with parts := e.parts.set pl d, left := e.left - 1 } else e
theorem tx_nil {l : List UInt8} : tx l = ⟨#[]⟩ ↔ l = [] := by
  constructor
  · intro h
    have := congrArg ByteArray.size h
    rw [tx_size] at this
    exact List.eq_nil_of_length_eq_zero this
  · rintro rfl; rfl
set_option maxHeartbeats 4000000 in
set_option maxRecDepth 100000 in
theorem padd_any {w : World} {e : KE} (h : MsgAt w e) (n pl m : Nat) (d : List UInt8) (hp : pl < e.parts.length) (hl : e.left ≤ 100000) (h0 : 0 < e.left) (hm : e.parts.length ≤ 100000) :
    Calls Tryd.prog 23 #[.pointer (some ⟨e.p, 0, none⟩), partV n pl m d] w fun r w' => r = .returned (.tuple #[]) ∧ MsgAt w' (e.add pl d) ∧ Kept w w' (fun b => b = e.p ∨ b = e.s) := by
  obtain ⟨w1, hw1⟩ : ∃ w1, w1 = w.alloc (.cells #[.int .i64 n, .int .i64 pl, .int .i64 m, .string (tx d)] 58) := ⟨_, rfl⟩
  have hb1 : Below w.heap.size w w1 := by rw [hw1]; exact (Below.refl _ _).alloc (Nat.le_refl _) _
  obtain ⟨q, hq⟩ : ∃ q, q = w.heap.size := ⟨_, rfl⟩
  have hx1 : w1.heap[q]? = some (.cells #[.int .i64 n, .int .i64 pl, .int .i64 m, .string (tx d)] 58 (0, 0)) := by rw [hw1, hq]; exact heap_alloc_new w _
  obtain ⟨x1, x3⟩ : w1.cell? ⟨q, 1, none⟩ = some (.int .i64 pl) ∧ w1.cell? ⟨q, 3, none⟩ = some (.string (tx d)) := ⟨(blk_cells hx1).1 1, (blk_cells hx1).1 3⟩
  have h1 := h.grow hb1
  obtain ⟨x, hx⟩ : ∃ x, e.parts[pl]? = some x := ⟨_, List.getElem?_eq_getElem hp⟩
  obtain ⟨s0, s1⟩ := str_cell h1.row hx
  obtain ⟨p0, p1, p2⟩ : w1.cell? ⟨e.p, 0, none⟩ = some (.slice (some ⟨e.s, 0, none⟩) e.parts.length e.parts.length) ∧ w1.cell? ⟨e.p, 1, none⟩ = some (.int .i64 (e.left : Int)) ∧ w1.frozen? ⟨e.p, 1, none⟩ = false := ⟨(blk_cells h1.obj).1 0, (blk_cells h1.obj).1 1, (blk_cells h1.obj).2 1⟩
  have hps : e.p ≠ e.s := apart_T h1.obj h1.row types_11.2.2.2.2.2
  have a1 : (pl : Int) < (e.parts.length : Int) := by omega
  have a0 : (0 : Int) ≤ (pl : Int) := by omega
  have hK1 : Kept w w1 (fun b => b = e.p ∨ b = e.s) := ⟨hb1.os, hb1.tape, hb1.output, hb1.size, fun b hb _ => hb1.block b hb⟩
  have HW1 := Lib.hid hw1
  have HQ := Lib.hid hq
  have H1 := Lib.hid h1
  have HK1 := Lib.hid hK1
  have hqp : q ≠ e.p := by have := h.ltp; omega
  have hqs : q ≠ e.s := by have := h.lts; omega
  by_cases hxe : x = []
  · have hadd : e.add pl d = { e with parts := e.parts.set pl d, left := e.left - 1 } := by unfold KE.add; rw [hx, hxe, if_pos rfl]
    have HA := Lib.hid hadd
    subst hxe
    have hl1 : wrap64 ((e.left : Int) - 1) = ((e.left - 1 : Nat) : Int) := by unfold wrap64; omega
    have hl2 : IntKind.i64.wrap ((e.left : Int) - 1) = ((e.left - 1 : Nat) : Int) := by rw [IntKind.wrap_i64]; omega
    have hl3 : (e.left : Int) - 1 = ((e.left - 1 : Nat) : Int) := by omega
    have htn : tx [] = ⟨#[]⟩ := rfl
    rw [htn] at s0
    clear hadd hw1 hq hb1 hx1 h1 hK1 h
    unfold partV
    go_enter Tryd.func23, Tryd.ntmps23
    go_upto_region 1 with fail
    rw [← HW1.out, ← HQ.out]
    go_region
    go_upto_region 2 with fail
    obtain ⟨w2, hw2⟩ : ∃ w2, w2 = w1.drew := ⟨_, rfl⟩
    rw [← hw2]
    have hx2 : ∀ r, w2.cell? r = w1.cell? r := fun r => by rw [hw2]; rfl
    have hf2 : ∀ r, w2.frozen? r = w1.frozen? r := fun r => by rw [hw2]; rfl
    have hO2 : w2.heap = w1.heap := by rw [hw2]; rfl
    have hK2 : Kept w w2 (fun b => b = e.p ∨ b = e.s) := by rw [hw2]; exact HK1.out.trans (Kept.drew _ _) fun n hn => .inl hn
    rw [← hx2] at s0 p0 p1 x1 x3
    rw [← hf2] at s1 p2
    have HO2 := Lib.hid hO2
    have HK2 := Lib.hid hK2
    clear hx2 hf2 hO2 hK2 hw2
    go_region
    go_upto_region 3 with fail
    have hw3 : ∃ w3, w3 = (w2.setCell ⟨e.s, pl, none⟩ (.string (tx d))).drew := ⟨_, rfl⟩
    obtain ⟨w3, hw3⟩ := hw3
    rw [← hw3]
    have hro : w3.heap[e.s]? = some (.cells (strR.row (e.parts.set pl d)).toArray 9 (0, 0)) := by rw [hw3]; exact str_set (w := w2) (by rw [HO2.out]; exact H1.out.row) d
    have hob : w3.heap[e.p]? = some (.cells #[.slice (some ⟨e.s, 0, none⟩) e.parts.length e.parts.length, .int .i64 (e.left : Int)] 73 (0, 0)) := by rw [hw3]; exact (set_far hps).trans (by rw [HO2.out]; exact H1.out.obj)
    obtain ⟨v1, v2⟩ : w3.cell? ⟨e.p, 1, none⟩ = some (.int .i64 (e.left : Int)) ∧ w3.frozen? ⟨e.p, 1, none⟩ = false := ⟨(blk_cells hob).1 1, (blk_cells hob).2 1⟩
    have hM : MsgAt (w3.setCell ⟨e.p, 1, none⟩ (.int .i64 ((e.left - 1 : Nat) : Int))) { e with parts := e.parts.set pl d, left := e.left - 1 } := ⟨by rw [set2_at hob]; simp, (set_far (Ne.symm hps)).trans hro⟩
    have hK : Kept w (w3.setCell ⟨e.p, 1, none⟩ (.int .i64 ((e.left - 1 : Nat) : Int))) (fun b => b = e.p ∨ b = e.s) := by
      rw [hw3]
      exact ((HK2.out.trans (Kept.setCell w2 ⟨e.s, pl, none⟩ (.string (tx d)) _ (.inr rfl)) fun n hn => .inl hn).trans (Kept.drew _ _) fun n hn => .inl hn).trans (Kept.setCell _ ⟨e.p, 1, none⟩ _ _ (.inl rfl)) fun n hn => .inl hn
    have HM := Lib.hid hM
    have HK := Lib.hid hK
    clear hM hK hro hob hw3 s0 s1 p0 p1 p2 x1 x3
    rw [hl3] at hl1 hl2
    go_wp2_with fail
    go_end0
    rw [HA.out]
    exact ⟨rfl, HM.out, HK.out⟩
  · have hadd : e.add pl d = e := by
      unfold KE.add
      rw [hx, if_neg (fun hh => hxe (by injection hh))]
    have HA := Lib.hid hadd
    have hs0 : ((tx x).toList == (⟨#[]⟩ : ByteArray).toList) = false := by
      rw [beq_eq_false_iff_ne]
      intro hh
      rw [ByteArray.toList_eq, ByteArray.toList_eq, tx_data] at hh
      exact hxe hh
    have hs1 : (tx x).toList.isEmpty = false := by
      rw [ByteArray.toList_eq, tx_data]
      cases x with
      | nil => exact absurd rfl hxe
      | cons a l => rfl
    have hx0 : ¬ tx x = ⟨#[]⟩ := fun hh => hxe (tx_nil.1 hh)
    clear hadd hw1 hq hb1 hx1 h1 hK1 h
    unfold partV
    go_enter Tryd.func23, Tryd.ntmps23
    go_upto_region 1 with fail
    rw [← HW1.out, ← HQ.out]
    go_region
    go_wp2_with fail
    go_end0
    rw [HA.out]
    exact ⟨rfl, H1.out.grow (Below.refl _ _).drew, HK1.out.trans (Kept.drew _ _) fun n hn => .inl hn⟩
end Go.Proofs.YtfmaocinckeagaaDoor
