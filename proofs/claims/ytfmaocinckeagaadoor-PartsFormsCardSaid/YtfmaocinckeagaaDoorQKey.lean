/-
  Keys in rows; the closure that asks for one. No statement is proved here. No condition.
-/
import Derived.Test.YtfmaocinckeagaaDoorQMap
import Derived.Test.YtfmaocinckeagaaDoorEMut
namespace Go.Proofs.YtfmaocinckeagaaDoor
open Go.RowKit

def keyR : Rec Key where
  vals k := [.int .i64 k.1, .int .i64 k.2]
  size := 2
  len _ := rfl
  one k u hu := by simp at hu; rcases hu with rfl | rfl <;> rfl
theorem info_Key : (Tryd.prog.info? 67).map (fun i => (i.zero, i.size, i.bytes)) = some (some (.agg #[.int .i64 0, .int .i64 0]), 2, 16) := by kernel_rfl
theorem keyc_cell {w : World} {N : Nat → Prop} {v : Value} {l : List Key} (h : keyR.N w N v l) {i : Nat} {a : Key} (hi : l[i]? = some a) :
    ∃ b o n k, v = .slice (some ⟨b, o, none⟩) n k ∧ N b ∧ b < w.heap.size ∧ w.cell? ⟨b, o + i * 2, none⟩ = some (.int .i64 a.1) ∧ w.cell? ⟨b, o + i * 2 + 1, none⟩ = some (.int .i64 a.2) := by
  obtain ⟨b, o, n, k, hv, hb, hs, hc⟩ := h.cell hi
  exact ⟨b, o, n, k, hv, hb, hs, hc 0 _ rfl, hc 1 _ rfl⟩
def KAt (w : World) (q : Nat) (k : Key) : Prop := w.cell? ⟨q, 0, none⟩ = some (.int .i64 k.1) ∧ w.cell? ⟨q, 1, none⟩ = some (.int .i64 k.2)
theorem KAt.lt {w : World} {q : Nat} {k : Key} (h : KAt w q k) : q < w.heap.size := World.block_lt_of_cell? w _ h.1
theorem KAt.below {w w' : World} {q B : Nat} {k : Key} (h : KAt w q k) (hb : Below B w w') (hq : q < B) : KAt w' q k := ⟨(hb.cell (p := ⟨q, 0, none⟩) hq).trans h.1, (hb.cell (p := ⟨q, 1, none⟩) hq).trans h.2⟩
theorem KAt.near {w w' : World} {q : Nat} {v : Value} {k : Key} (h : KAt w q k) (hn : Near v w w') (hq : v.ownBlock ≠ some q) : KAt w' q k := by
  have e := hn q h.lt hq
  exact ⟨(World.cell?_of_block (a := ⟨q, 0, none⟩) e).trans h.1, (World.cell?_of_block (a := ⟨q, 1, none⟩) e).trans h.2⟩
theorem plain_int : Tryd.prog.plainKey 3 = true := by kernel_rfl
theorem cells_int : Tryd.prog.cellsOf 3 = 1 := by kernel_rfl
theorem isz_one : (Tryd.prog.info? 3).map (·.size) = some 1 := by kernel_rfl
/-- keys are held against each other -/
theorem eq_key (a b : Key) (w : World) : (Op.equalIn 10000 67 (.agg #[.int .i64 a.1, .int .i64 a.2]) (.agg #[.int .i64 b.1, .int .i64 b.2])).run Tryd.prog w = .ok (decide (a = b)) w := by
  have hi : ∃ i, Tryd.prog.info? 3 = some i := by
    cases h : Tryd.prog.info? 3 with
    | none => have := isz_one; rw [h] at this; cases this
    | some i => exact ⟨i, rfl⟩
  obtain ⟨i, hi⟩ := hi
  rw [show (10000 : Nat) = 9998 + 1 + 1 from rfl, run_equalIn_array w (9998 + 1) _ _ Tryd.underlying67 hi, cells_int, show List.range 2 = [0, 1] from rfl]
  have p0 := run_part_plain (P := Tryd.prog) w plain_int (show (#[Value.int .i64 a.1, .int .i64 a.2] : Array Value)[0]? = some (.int .i64 a.1) from rfl)
  have p1 := run_part_plain (P := Tryd.prog) w plain_int (show (#[Value.int .i64 a.1, .int .i64 a.2] : Array Value)[1]? = some (.int .i64 a.2) from rfl)
  have q0 := run_part_plain (P := Tryd.prog) w plain_int (show (#[Value.int .i64 b.1, .int .i64 b.2] : Array Value)[0]? = some (.int .i64 b.1) from rfl)
  have q1 := run_part_plain (P := Tryd.prog) w plain_int (show (#[Value.int .i64 b.1, .int .i64 b.2] : Array Value)[1]? = some (.int .i64 b.2) from rfl)
  have e0 := run_equalIn_int (P := Tryd.prog) w 9998 3 .i64 .i64 a.1 b.1 Tryd.underlying3
  have e1 := run_equalIn_int (P := Tryd.prog) w 9998 3 .i64 .i64 a.2 b.2 Tryd.underlying3
  simp only [Op.eqItems, Sem.run_bind, Nat.mul_one, p0, p1, q0, q1, e0, e1, Result.andThen_ok]
  have hd : decide (a = b) = ((a.1 == b.1) && (a.2 == b.2)) := by
    rw [Bool.eq_iff_iff]
    simp [Prod.ext_iff]
  rw [hd]
  have e1' : (Op.equalIn 9999 3 (Value.int IntKind.i64 a.2) (Value.int IntKind.i64 b.2)).run Tryd.prog w = .ok (a.2 == b.2) w := e1
  cases a.1 == b.1
  · simp
  · simp [p1, q1, e1']
    by_cases h : a.2 = b.2 <;> simp [h]
set_option maxHeartbeats 1000000 in
set_option maxRecDepth 100000 in
theorem drop1_any (p k : Key) (q : Nat) (w : World) (h : KAt w q k) :
    Calls Tryd.prog 42 #[p.v, .pointer (some ⟨q, 0, none⟩)] w fun e w' => e = .returned (.bool (decide (p = k))) ∧ Below w.heap.size w w' := by
  obtain ⟨w1, hw1⟩ : ∃ w1, w1 = w.alloc (.cells #[.int .i64 p.1, .int .i64 p.2] 67) := ⟨_, rfl⟩
  have hb1 : Below w.heap.size w w1 := by rw [hw1]; exact (Below.refl _ _).alloc (Nat.le_refl _) _
  have hx1 : w1.heap[w.heap.size]? = some (.cells #[.int .i64 p.1, .int .i64 p.2] 67 (0, 0)) := by rw [hw1]; exact heap_alloc_new w _
  have x0 : w1.cell? ⟨w.heap.size, 0, none⟩ = some (.int .i64 p.1) := (blk_cells hx1).1 0
  have x1 : w1.cell? ⟨w.heap.size, 1, none⟩ = some (.int .i64 p.2) := (blk_cells hx1).1 1
  obtain ⟨y0, y1⟩ := h.below hb1 h.lt
  have HB1 := Lib.hid hb1
  have HW1 := Lib.hid hw1
  obtain ⟨r, hr⟩ : ∃ r, r = decide (p = k) := ⟨_, rfl⟩
  rw [← hr]
  have HR := Lib.hid hr
  clear hb1 hw1 hx1 h hr
  unfold Key.v
  go_enter Tryd.func42, Tryd.ntmps42
  go_upto_region 1 with fail
  rw [← HW1.out]
  have heq := eq_key p k w1
  rw [← HR.out] at heq
  go_wp2_with fail
  go_ret
  exact ⟨rfl, HB1.out⟩
end Go.Proofs.YtfmaocinckeagaaDoor
