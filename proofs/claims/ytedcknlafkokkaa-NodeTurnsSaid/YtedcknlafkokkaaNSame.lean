/-
  The document's Same, of nodes that are the same. No statement is proved here. No condition.
-/
import Derived.Test.YtedcknlafkokkaaNFind
namespace Go.Proofs.Ytedcknlafkokkaa
open Go.RowKit

set_option maxHeartbeats 2000000 in
set_option maxRecDepth 100000 in
theorem same_yes (n : PN) (u v : Value) (w : World) (hu : NodeN w Any u n) (hv : NodeN w Any v n) (hl : n.cells.length ≤ 1000000) (hk : n.kids.length ≤ 1000000) :
    Calls Try.prog 19 #[u, v] w fun e w' => e = .returned (.bool true) ∧ Below w.heap.size w w' := by
  obtain ⟨uc, uk, rfl, hc, hk'⟩ := hu
  obtain ⟨vc, vk, rfl, hc2, hk2⟩ := hv
  obtain ⟨Ac, cc, rfl, -, -⟩ := hc.slice
  obtain ⟨Ak, ck, rfl, -, -⟩ := hk'.slice
  obtain ⟨Bc, dc, rfl, -, -⟩ := hc2.slice
  obtain ⟨Bk, dk, rfl, -, -⟩ := hk2.slice
  obtain ⟨w1, hw1⟩ : ∃ w1, w1 = (w.alloc (.cells #[.bool n.leaf, .slice Ac n.cells.length cc, .slice Ak n.kids.length ck] 25)).alloc (.cells #[.bool n.leaf, .slice Bc n.cells.length dc, .slice Bk n.kids.length dk] 25) := ⟨_, rfl⟩
  have hb1 : Below w.heap.size w w1 := by rw [hw1]; exact ((Below.refl _ _).alloc (Nat.le_refl _) _).alloc (by simp) _
  have hx1 : w1.heap[w.heap.size]? = some (.cells #[.bool n.leaf, .slice Ac n.cells.length cc, .slice Ak n.kids.length ck] 25 (0, 0)) := by rw [hw1]; exact (heap_alloc_old _ _ (by simp)).trans (heap_alloc_new w _)
  have hy1 : w1.heap[w.heap.size + 1]? = some (.cells #[.bool n.leaf, .slice Bc n.cells.length dc, .slice Bk n.kids.length dk] 25 (0, 0)) := by
    rw [hw1]
    have := heap_alloc_new (w.alloc (.cells #[.bool n.leaf, .slice Ac n.cells.length cc, .slice Ak n.kids.length ck] 25)) (.cells #[.bool n.leaf, .slice Bc n.cells.length dc, .slice Bk n.kids.length dk] 25)
    simpa using this
  have HC := Lib.hid hc
  have HK := Lib.hid hk'
  have HC2 := Lib.hid hc2
  have HK2 := Lib.hid hk2
  have HB1 := Lib.hid hb1
  have HX1 := Lib.hid hx1
  have HY1 := Lib.hid hy1
  have HW1 := Lib.hid hw1
  have x0 : w1.cell? ⟨w.heap.size, 0, none⟩ = some (.bool n.leaf) := (row_cells hx1).1 0
  have x1 : w1.cell? ⟨w.heap.size, 1, none⟩ = some (.slice Ac n.cells.length cc) := (row_cells hx1).1 1
  have x2 : w1.cell? ⟨w.heap.size, 2, none⟩ = some (.slice Ak n.kids.length ck) := (row_cells hx1).1 2
  have y0 : w1.cell? ⟨w.heap.size + 1, 0, none⟩ = some (.bool n.leaf) := (row_cells hy1).1 0
  have y1 : w1.cell? ⟨w.heap.size + 1, 1, none⟩ = some (.slice Bc n.cells.length dc) := (row_cells hy1).1 1
  have y2 : w1.cell? ⟨w.heap.size + 1, 2, none⟩ = some (.slice Bk n.kids.length dk) := (row_cells hy1).1 2
  have hll : (n.leaf != n.leaf) = false := by simp
  clear hc hk' hc2 hk2 hb1 hx1 hy1 hw1
  go_enter Try.func19, Try.ntmps19
  go_upto_region 1 with fail
  rw [← HW1.out]
  go_wp2_with fail
  go_loopw [4, 5] (fun _ s5 wr => ∃ i : Nat, s5 = .int .i64 (i : Int) ∧ i ≤ n.cells.length ∧ Hid (Below w.heap.size w wr) ∧ Hid (wr.heap[w.heap.size]? = some (.cells #[.bool n.leaf, .slice Ac n.cells.length cc, .slice Ak n.kids.length ck] 25 (0, 0))) ∧ Hid (wr.heap[w.heap.size + 1]? = some (.cells #[.bool n.leaf, .slice Bc n.cells.length dc, .slice Bk n.kids.length dk] 25 (0, 0)))) (fun _ s5 _ => n.cells.length - (intOf s5).toNat)
  case atStart => exact ⟨0, rfl, Nat.zero_le _, HB1, HX1, HY1⟩
  case round =>
    clear x0 x1 x2 y0 y1 y2
    obtain ⟨i, rfl, hi, hbw, hx, hy⟩ := hrel
    obtain ⟨wz, hwz⟩ : ∃ wz : World, wz = wr := ⟨_, rfl⟩
    subst hwz
    have x1 : wz.cell? ⟨w.heap.size, 1, none⟩ = some (.slice Ac n.cells.length cc) := (row_cells hx.out).1 1
    have x2 : wz.cell? ⟨w.heap.size, 2, none⟩ = some (.slice Ak n.kids.length ck) := (row_cells hx.out).1 2
    have y1 : wz.cell? ⟨w.heap.size + 1, 1, none⟩ = some (.slice Bc n.cells.length dc) := (row_cells hy.out).1 1
    have y2 : wz.cell? ⟨w.heap.size + 1, 2, none⟩ = some (.slice Bk n.kids.length dk) := (row_cells hy.out).1 2
    by_cases hil : i < n.cells.length
    · have a1 : (i : Int) < (n.cells.length : Int) := by omega
      have a0 : (0 : Int) ≤ (i : Int) := by omega
      obtain ⟨c, hci⟩ : ∃ c, n.cells[i]? = some c := ⟨_, List.getElem?_eq_getElem hil⟩
      obtain ⟨b, o, n', k', hv, -, -, c0, c1, c2, c3⟩ := (HC.out.grow hbw.out).cell hci
      injection hv with e1 e2 e3
      subst e1 e2 e3
      obtain ⟨b', o', n', k', hv, -, -, d0, d1, d2, d3⟩ := (HC2.out.grow hbw.out).cell hci
      injection hv with e1 e2 e3
      subst e1 e2 e3
      go_upto_region 6 with fail
      go_quiet (fail)
      go_wp2_with fail
      exact ⟨⟨i + 1, by go_num, hil, Lib.hid (below_drewN hbw.out _), Lib.hid hx.out, Lib.hid hy.out⟩, by simp [intOf]; omega⟩
    · have a1 : ¬ (i : Int) < (n.cells.length : Int) := by omega
      go_wp2_with fail
      go_loopw [4, 6] (fun _ s6 wr => ∃ i : Nat, s6 = .int .i64 (i : Int) ∧ i ≤ n.kids.length ∧ Hid (Below w.heap.size w wr) ∧ Hid (wr.heap[w.heap.size]? = some (.cells #[.bool n.leaf, .slice Ac n.cells.length cc, .slice Ak n.kids.length ck] 25 (0, 0))) ∧ Hid (wr.heap[w.heap.size + 1]? = some (.cells #[.bool n.leaf, .slice Bc n.cells.length dc, .slice Bk n.kids.length dk] 25 (0, 0)))) (fun _ s6 _ => n.kids.length - (intOf s6).toNat)
      case atStart => exact ⟨0, rfl, Nat.zero_le _, hbw, hx, hy⟩
      case round =>
        clear x1 x2 y1 y2 hbw hx hy
        obtain ⟨j, rfl, hj, hbw, hx, hy⟩ := hrel
        obtain ⟨wv, hwv⟩ : ∃ wv : World, wv = wr := ⟨_, rfl⟩
        subst hwv
        have x2 : wv.cell? ⟨w.heap.size, 2, none⟩ = some (.slice Ak n.kids.length ck) := (row_cells hx.out).1 2
        have y2 : wv.cell? ⟨w.heap.size + 1, 2, none⟩ = some (.slice Bk n.kids.length dk) := (row_cells hy.out).1 2
        by_cases hjl : j < n.kids.length
        · have b1 : (j : Int) < (n.kids.length : Int) := by omega
          have b0 : (0 : Int) ≤ (j : Int) := by omega
          obtain ⟨k, hkj⟩ : ∃ k, n.kids[j]? = some k := ⟨_, List.getElem?_eq_getElem hjl⟩
          obtain ⟨b, o, n', k', hv, -, -, c0⟩ := (HK.out.grow hbw.out).cell hkj
          injection hv with e1 e2 e3
          subst e1 e2 e3
          obtain ⟨b', o', n', k', hv, -, -, d0⟩ := (HK2.out.grow hbw.out).cell hkj
          injection hv with e1 e2 e3
          subst e1 e2 e3
          go_upto_region 11 with fail
          go_quiet (fail)
          go_wp2_with fail
          exact ⟨⟨j + 1, by go_num, hjl, Lib.hid (below_drewN hbw.out _), Lib.hid hx.out, Lib.hid hy.out⟩, by simp [intOf]; omega⟩
        · have b1 : ¬ (j : Int) < (n.kids.length : Int) := by omega
          go_wp2_with fail
          go_ret
          exact ⟨rfl, hbw.out⟩
end Go.Proofs.Ytedcknlafkokkaa
