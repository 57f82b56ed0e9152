/-
  A node cut: the program's unlike, lightest, Cut. No statement is proved here. No condition.
-/
import Derived.Test.YtedcknlafkokkaaNWeigh
namespace Go.Proofs.Ytedcknlafkokkaa
open Go.RowKit

def UnV (p q r : Nat) : Value := .func (.func 79) #[] #[.pointer (some ⟨p, 0, none⟩), .pointer (some ⟨q, 0, none⟩), .pointer (some ⟨r, 0, none⟩)]
set_option maxHeartbeats 2000000 in
set_option maxRecDepth 100000 in
theorem unlike_any (n : PN) (v : Value) (w : World) (h : NodeN w Any v n) (hs : n.small) :
    Calls Try.prog 55 #[v] w fun e w' => ∃ p q r, e = .returned (UnV p q r) ∧ UnAt w' n p q r ∧ Below w.heap.size w w' := by
  obtain ⟨vc, vk, rfl, hc, hk⟩ := h
  obtain ⟨Ac, cc, rfl, -, -⟩ := hc.slice
  obtain ⟨Ak, ck, rfl, -, -⟩ := hk.slice
  have hlc := hs.cells
  have hlk := hs.kids
  obtain ⟨w1, hw1⟩ : ∃ w1, w1 = w.alloc (.cells #[.bool n.leaf, .slice Ac n.cells.length cc, .slice Ak n.kids.length ck] 31) := ⟨_, rfl⟩
  have hb1 : Below w.heap.size w w1 := by rw [hw1]; exact (Below.refl _ _).alloc (Nat.le_refl _) _
  have hx1 : w1.heap[w.heap.size]? = some (.cells #[.bool n.leaf, .slice Ac n.cells.length cc, .slice Ak n.kids.length ck] 31 (0, 0)) := by rw [hw1]; exact heap_alloc_new w _
  have cC := sumsC_any n.cells n.leaf (.slice Ac n.cells.length cc) w.heap.size w1 (hc.grow hb1) hs.each hlc ((row_cells hx1).1 0) (boxed hx1)
  rw [hw1] at cC
  have HC := Lib.hid hc
  have HK := Lib.hid hk
  have HB1 := Lib.hid hb1
  have HX1 := Lib.hid hx1
  have HW1 := Lib.hid hw1
  clear hc hk hb1 hx1 hw1
  go_enter Try.func55, Try.ntmps55
  go_wp2_with fail
  refine cC.mono ?_
  rintro e w2 ⟨A2, c2, rfl, ho2, hb2⟩
  rw [← HW1.out] at hb2 ho2
  have hs2 := hb2.size
  have hx2 := (hb2.block _ (boxed HX1.out)).trans HX1.out
  obtain ⟨w3, hw3⟩ : ∃ w3, w3 = w2.alloc (.cells #[.slice A2 (n.cells.length + 1) c2] 105) := ⟨_, rfl⟩
  have hb3 : Below w2.heap.size w2 w3 := by rw [hw3]; exact (Below.refl _ _).alloc (Nat.le_refl _) _
  have hq3 : w3.heap[w2.heap.size]? = some (.cells #[.slice A2 (n.cells.length + 1) c2] 105 (0, 0)) := by rw [hw3]; exact heap_alloc_new w2 _
  have hx3 := (hb3.block _ (boxed hx2)).trans hx2
  have hn2 : KsN w2 Any (.slice A2 (n.cells.length + 1) c2) (pre (szC n.leaf) n.cells) := by
    have := RowN.of_own (N := Any) ho2 (fun _ _ => trivial)
    unfold KsN
    rw [pre_length]
    exact this
  have hn3 := hn2.grow hb3
  have hb13 : Below w1.heap.size w1 w3 := hb2.trans (Joins.below_le hb3 hs2)
  have hb03 : Below w.heap.size w w3 := HB1.out.trans (Joins.below_le hb13 HB1.out.size)
  have cK := sumsK_any n.kids (.slice Ak n.kids.length ck) w3 (HK.out.grow hb03) hlk
  have x2 : w3.cell? ⟨w.heap.size, 2, none⟩ = some (.slice Ak n.kids.length ck) := (row_cells hx3).1 2
  rw [hw3] at cK x2
  have HX3 := Lib.hid hx3
  have HQ3 := Lib.hid hq3
  have HN3 := Lib.hid hn3
  have HB03 := Lib.hid hb03
  have HW3 := Lib.hid hw3
  clear cC ho2 hb2 hx2 hb3 hq3 hx3 hn2 hn3 hb13 hb03 hw3
  go_wp2_with fail
  refine cK.mono ?_
  rintro e w4 ⟨A4, c4, rfl, ho4, hb4⟩
  rw [← HW3.out] at hb4 ho4
  obtain ⟨w5, hw5⟩ : ∃ w5, w5 = w4.alloc (.cells #[.slice A4 (n.kids.length + 1) c4] 105) := ⟨_, rfl⟩
  have hb5 : Below w4.heap.size w4 w5 := by rw [hw5]; exact (Below.refl _ _).alloc (Nat.le_refl _) _
  have hr5 : w5.heap[w4.heap.size]? = some (.cells #[.slice A4 (n.kids.length + 1) c4] 105 (0, 0)) := by rw [hw5]; exact heap_alloc_new w4 _
  have hn4 : KsN w4 Any (.slice A4 (n.kids.length + 1) c4) (pre szK n.kids) := by
    have := RowN.of_own (N := Any) ho4 (fun _ _ => trivial)
    unfold KsN
    rw [pre_length]
    exact this
  have hb35 : Below w3.heap.size w3 w5 := hb4.trans (Joins.below_le hb5 hb4.size)
  have hbf : Below w.heap.size w w5 := HB03.out.trans (Joins.below_le hb35 HB03.out.size)
  have hun : UnAt w5 n w.heap.size w2.heap.size w4.heap.size := ⟨_, _, _, _, _, _, (hb35.block _ (boxed HX3.out)).trans HX3.out, HC.out.grow hbf, HK.out.grow hbf, (hb35.block _ (boxed HQ3.out)).trans HQ3.out, HN3.out.grow hb35, hr5, hn4.grow hb5⟩
  have HUN := Lib.hid hun
  have HBF := Lib.hid hbf
  have HW5 := Lib.hid hw5
  clear cK x2 ho4 hb4 hb5 hr5 hn4 hb35 hbf hun hw5
  go_wp2_with fail
  go_ret
  rw [← HW5.out]
  exact ⟨_, _, _, rfl, HUN.out, HBF.out⟩
set_option maxHeartbeats 2000000 in
set_option maxRecDepth 100000 in
theorem lightest_any (n : PN) (p q r a m : Nat) (w : World) (h : UnAt w n p q r) (hs : n.small) (ha : a < m) (hm : m = n.cells.length) :
    Calls Try.prog 54 #[.int .i64 (a : Int), .int .i64 (m : Int), UnV p q r] w fun e w' => e = .returned (.int .i64 (best n.odd a ((List.range m).drop (a + 1)) : Int)) ∧ Below w.heap.size w w' := by
  unfold UnV
  have cW : ∀ (i : Nat) (W : World), i < m → Below w.heap.size w W → Calls Try.prog 79 #[.int .i64 (i : Int), .pointer (some ⟨p, 0, none⟩), .pointer (some ⟨q, 0, none⟩), .pointer (some ⟨r, 0, none⟩)] W fun e w' => e = .returned (.int .i64 (n.odd i : Int)) ∧ Below W.heap.size W w' := fun i W hi hW => weigh_any n p q r i W (h.grow hW) hs (by omega)
  have hml := hs.cells
  have hmb : m ≤ 1000 := by omega
  have CW := Lib.hid cW
  clear cW h hs hm hml
  obtain ⟨R, hR⟩ : ∃ R, R = best n.odd a ((List.range m).drop (a + 1)) := ⟨_, rfl⟩
  rw [← hR]
  have HR := Lib.hid hR
  clear hR
  go_enter Try.func54, Try.ntmps54
  go_wp2_with fail
  refine (CW.out a w ha (Below.refl _ _)).mono ?_
  rintro e w1 ⟨rfl, hb1⟩
  have HB1 := Lib.hid hb1
  clear hb1
  go_wp2_with fail
  go_loopw [7, 8, 9, 10] (fun s7 s8 s9 _ wr => ∃ b i : Nat, s9 = .int .i64 (i : Int) ∧ i ≤ m ∧ s7 = .int .i64 (b : Int) ∧ s8 = .int .i64 (n.odd b : Int) ∧ Hid (R = best n.odd b ((List.range m).drop i)) ∧ Hid (Below w.heap.size w wr)) (fun _ _ s9 _ _ => m - (intOf s9).toNat)
  case atStart => exact ⟨a, a + 1, by go_num, by omega, rfl, rfl, HR, HB1⟩
  case round =>
    clear HR HB1
    obtain ⟨b, i, rfl, hi, rfl, rfl, hr, hbw⟩ := hrel
    obtain ⟨wz, hwz⟩ : ∃ wz : World, wz = wr := ⟨_, rfl⟩
    subst hwz
    by_cases him : i < m
    · have a1 : (i : Int) < (m : Int) := by omega
      have hr' := hr.out
      rw [drop_range him] at hr'
      unfold best at hr'
      obtain ⟨x, hx⟩ : ∃ x, x = n.odd i := ⟨_, rfl⟩
      obtain ⟨y, hy⟩ : ∃ y, y = n.odd b := ⟨_, rfl⟩
      have cI := CW.out i wz him hbw.out
      rw [← hx] at cI hr'
      rw [← hy] at hr'
      rw [← hy]
      go_wp2_with fail
      refine cI.mono ?_
      rintro e w2 ⟨rfl, hb2⟩
      have hb := hbw.out.trans (Joins.below_le hb2 hbw.out.size)
      have HB := Lib.hid hb
      have HX := Lib.hid hx
      have HY := Lib.hid hy
      by_cases hxy : x < y
      · have b1 : (x : Int) < (y : Int) := by omega
        rw [if_pos hxy] at hr'
        have HR' := Lib.hid hr'
        clear hr' hr hb hb2 cI hx hy
        go_wp2_with fail
        exact ⟨⟨i, i + 1, by go_num, him, by rfl, by rw [HX.out], HR', HB⟩, by simp [intOf]; omega⟩
      · have b1 : ¬ (x : Int) < (y : Int) := by omega
        rw [if_neg hxy] at hr'
        have HR' := Lib.hid hr'
        clear hr' hr hb hb2 cI hx hy
        go_wp2_with fail
        exact ⟨⟨b, i + 1, by go_num, him, by rfl, by rw [HY.out], HR', HB⟩, by simp [intOf]; omega⟩
    · have a1 : ¬ (i : Int) < (m : Int) := by omega
      have hr' := hr.out
      rw [List.drop_of_length_le (by simp; omega)] at hr'
      have hr2 : R = b := hr'
      have HR' := Lib.hid hr2
      clear hr' hr hr2
      go_wp2_with fail
      go_ret
      exact ⟨ret_int (by rw [HR'.out]), hbw.out⟩
end Go.Proofs.Ytedcknlafkokkaa
