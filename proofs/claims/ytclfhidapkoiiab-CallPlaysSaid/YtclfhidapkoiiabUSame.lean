/-
  Rows of waits held against each other, and spoilt. No statement is proved here. No condition.
-/
import Derived.Test.YtclfhidapkoiiabUEq
import Derived.Test.YtclfhidapkoiiabEMut
namespace Go.Proofs.Ytclfhidapkoiiab
open Go.RowKit Go.Maps

set_option maxHeartbeats 4000000 in
set_option maxRecDepth 100000 in
theorem same_yes (l : List WT) (a b : Value) (w : World) (ha : wtR.N w Any a l) (hb : wtR.N w Any b l) :
    Calls Try.prog 12 #[a, b] w fun e w' => e = .returned (.bool true) ∧ Below w.heap.size w w' := by
  obtain ⟨A, c, rfl, hlc, hcm⟩ := ha.slice
  obtain ⟨A2, c2, rfl, -, -⟩ := hb.slice
  have hl : l.length ≤ maxLen := Nat.le_trans hlc hcm
  unfold maxLen at hl
  have HA := Lib.hid ha
  have HB := Lib.hid hb
  have HB0 : Hid (Below w.heap.size w w) := Lib.hid (Below.refl _ _)
  clear ha hb hlc hcm
  go_enter Try.func12, Try.ntmps12
  go_wp2_with fail
  go_loopw [5] (fun s5 wr => ∃ i : Nat, s5 = .int .i64 (i : Int) ∧ i ≤ l.length ∧ Hid (Below w.heap.size w wr)) (fun s5 _ => l.length - (intOf s5).toNat)
  case atStart => exact ⟨0, rfl, Nat.zero_le _, HB0⟩
  case round =>
    clear HB0
    obtain ⟨i, rfl, hi, hbl⟩ := hrel
    obtain ⟨wz, hwz⟩ : ∃ wz : World, wz = wr := ⟨_, rfl⟩
    subst hwz
    by_cases hil : i < l.length
    · have a1 : (i : Int) < (l.length : Int) := by omega
      have a0 : (0 : Int) ≤ (i : Int) := by omega
      obtain ⟨x, hx⟩ : ∃ x, l[i]? = some x := ⟨_, List.getElem?_eq_getElem hil⟩
      obtain ⟨g2, o2, n2, k2, hv, -, hg2, hc2⟩ := (HB.out.grow hbl.out).cell hx
      injection hv with v1 _ v3
      subst v1 v3
      obtain ⟨z0, z1, z2, z3, z4, z5, z6⟩ : wz.cell? ⟨g2, o2 + i * 7, none⟩ = some (.int .i64 x.req) ∧ wz.cell? ⟨g2, o2 + i * 7 + 1, none⟩ = some (.string x.key) ∧ wz.cell? ⟨g2, o2 + i * 7 + 2, none⟩ = some (.int .i64 x.client) ∧ wz.cell? ⟨g2, o2 + i * 7 + 3, none⟩ = some (.int .i64 x.id) ∧ wz.cell? ⟨g2, o2 + i * 7 + 4, none⟩ = some (.int .i64 x.first) ∧ wz.cell? ⟨g2, o2 + i * 7 + 5, none⟩ = some (.int .i64 x.last) ∧ wz.cell? ⟨g2, o2 + i * 7 + 6, none⟩ = some (.bool x.marked) := ⟨hc2 0 _ rfl, hc2 1 _ rfl, hc2 2 _ rfl, hc2 3 _ rfl, hc2 4 _ rfl, hc2 5 _ rfl, hc2 6 _ rfl⟩
      obtain ⟨w3, hw3⟩ : ∃ w3, w3 = wz.alloc (.cells #[.int .i64 x.req, .string x.key, .int .i64 x.client, .int .i64 x.id, .int .i64 x.first, .int .i64 x.last, .bool x.marked] 40) := ⟨_, rfl⟩
      have hb3 : Below wz.heap.size wz w3 := by rw [hw3]; exact (Below.refl _ _).alloc (Nat.le_refl _) _
      have hx3 : w3.heap[wz.heap.size]? = some (.cells #[.int .i64 x.req, .string x.key, .int .i64 x.client, .int .i64 x.id, .int .i64 x.first, .int .i64 x.last, .bool x.marked] 40 (0, 0)) := by rw [hw3]; exact heap_alloc_new wz _
      have hbl3 := hbl.out.trans (Joins.below_le hb3 hbl.out.size)
      obtain ⟨g1, o1, n1, k1, hv, -, hg1, hc1⟩ := (HA.out.grow hbl3).cell hx
      injection hv with v1 _ v3
      subst v1 v3
      obtain ⟨m0, m1, m2, m3, m4, m5, m6⟩ : w3.cell? ⟨g1, o1 + i * 7, none⟩ = some (.int .i64 x.req) ∧ w3.cell? ⟨g1, o1 + i * 7 + 1, none⟩ = some (.string x.key) ∧ w3.cell? ⟨g1, o1 + i * 7 + 2, none⟩ = some (.int .i64 x.client) ∧ w3.cell? ⟨g1, o1 + i * 7 + 3, none⟩ = some (.int .i64 x.id) ∧ w3.cell? ⟨g1, o1 + i * 7 + 4, none⟩ = some (.int .i64 x.first) ∧ w3.cell? ⟨g1, o1 + i * 7 + 5, none⟩ = some (.int .i64 x.last) ∧ w3.cell? ⟨g1, o1 + i * 7 + 6, none⟩ = some (.bool x.marked) := ⟨hc1 0 _ rfl, hc1 1 _ rfl, hc1 2 _ rfl, hc1 3 _ rfl, hc1 4 _ rfl, hc1 5 _ rfl, hc1 6 _ rfl⟩
      obtain ⟨u, hu⟩ : ∃ u, u = wz.heap.size := ⟨_, rfl⟩
      rw [← hu] at hx3
      obtain ⟨t0, t1, t2, t3, t4, t5, t6⟩ : w3.cell? ⟨u, 0, none⟩ = some (.int .i64 x.req) ∧ w3.cell? ⟨u, 1, none⟩ = some (.string x.key) ∧ w3.cell? ⟨u, 2, none⟩ = some (.int .i64 x.client) ∧ w3.cell? ⟨u, 3, none⟩ = some (.int .i64 x.id) ∧ w3.cell? ⟨u, 4, none⟩ = some (.int .i64 x.first) ∧ w3.cell? ⟨u, 5, none⟩ = some (.int .i64 x.last) ∧ w3.cell? ⟨u, 6, none⟩ = some (.bool x.marked) := ⟨(blk_cells hx3).1 0, (blk_cells hx3).1 1, (blk_cells hx3).1 2, (blk_cells hx3).1 3, (blk_cells hx3).1 4, (blk_cells hx3).1 5, (blk_cells hx3).1 6⟩
      have heq := fun W => eq_wt x W
      have HW3 := Lib.hid hw3
      have HU := Lib.hid hu
      have HBL := Lib.hid hbl3
      clear hw3 hb3 hx3 hbl3 hu hc1 hc2 hx hbl hg1 hg2
      go_upto_region 7 with fail
      rw [← HW3.out, ← HU.out]
      clear HW3 HU z0 z1 z2 z3 z4 z5 z6
      go_quiet (fail)
      have HBQ : Hid (Below w.heap.size w (w3.drewN nq)) := Lib.hid (HBL.out.trans ⟨rfl, rfl, rfl, Nat.le_refl _, fun _ _ => rfl⟩)
      go_wp2_with fail
      exact ⟨⟨i + 1, by go_num, by omega, HBQ⟩, by simp [intOf]; omega⟩
    · have hie : i = l.length := by omega
      subst hie
      have a1 : ¬ (l.length : Int) < (l.length : Int) := by omega
      go_wp2_with fail
      go_ret
      exact ⟨rfl, hbl.out⟩
end Go.Proofs.Ytclfhidapkoiiab
