/-
  The program's packet of a part, and whether a part may be. No statement is proved here. Condition: the table reads as the program lays it.
-/
import Derived.Test.YtfmaocinckeagaaDoorQFacts
import Derived.Test.YtfmaocinckeagaaDoorRecs
namespace Go.Proofs.YtfmaocinckeagaaDoor
open Go.RowKit

/-- a text of bytes -/
def tx (l : List UInt8) : ByteArray := ⟨l.toArray⟩
theorem tx_data (l : List UInt8) : (tx l).data.toList = l := by unfold tx; simp
theorem tx_size (l : List UInt8) : (tx l).size = l.length := by unfold tx; simp [ByteArray.size]
/-- a part as a value -/
def partV (n p m : Int) (d : List UInt8) : Value := .agg #[.int .i64 n, .int .i64 p, .int .i64 m, .string (tx d)]
set_option maxHeartbeats 2000000 in
set_option maxRecDepth 100000 in
theorem packet_any (n p m : Nat) (d : List UInt8) (w : World) (ht : Tab w) (hn : n ≤ 2147483647) (hp : p ≤ 2147483647) (hm : m ≤ 2147483647) (hd : d.length ≤ 380) :
    Calls Tryd.prog 20 #[partV n p m d] w fun e w' => ∃ v k, e = .returned v ∧ w'.ownsRow w.heap.size 5 1 v k (BS (pkt n p m d)) ∧ Below w.heap.size w w' := by
  obtain ⟨w1, hw1⟩ : ∃ w1, w1 = w.alloc (.cells #[.int .i64 n, .int .i64 p, .int .i64 m, .string (tx d)] 58) := ⟨_, rfl⟩
  have hb1 : Below w.heap.size w w1 := by rw [hw1]; exact (Below.refl _ _).alloc (Nat.le_refl _) _
  have hx1 : w1.heap[w.heap.size]? = some (.cells #[.int .i64 n, .int .i64 p, .int .i64 m, .string (tx d)] 58 (0, 0)) := by rw [hw1]; exact heap_alloc_new w _
  have hs1 : w1.heap.size = w.heap.size + 1 := by rw [hw1]; simp
  obtain ⟨b, hb⟩ : ∃ b, b = w.heap.size := ⟨_, rfl⟩
  rw [← hb] at hx1
  have c0 : w1.cell? ⟨b, 0, none⟩ = some (.int .i64 n) := (blk_cells hx1).1 0
  have hs := pbody_small hn hp hm hd
  have hu1 := uv_length64 n (by unfold U64; omega)
  have hu2 := uv_length64 p (by unfold U64; omega)
  have hu3 := uv_length64 m (by unfold U64; omega)
  have hsl := pkt_sealed hn hp hm hd
  have HB1 := Lib.hid hb1
  have HW1 := Lib.hid hw1
  have HX1 := Lib.hid hx1
  have HBE := Lib.hid hb
  have HT := Lib.hid ht
  have HSL := Lib.hid hsl
  clear hb1 hw1 hx1 hb ht hsl
  unfold partV
  go_enter Tryd.func20, Tryd.ntmps20
  go_upto_region 1 with fail
  rw [← HW1.out, ← HBE.out]
  go_wp2_with fail
  refine (count_any [] _ (n : Int) _ (Rd.nil _ _) (by omega) (by omega) (by simp)).mono ?_
  rintro e w2 ⟨v2, rfl, ho2, hb2⟩
  have hB2 := HB1.out.trans (Joins.below_le hb2 HB1.out.size)
  have hx2 := (hb2.block b (by rw [HBE.out]; omega)).trans HX1.out
  have c1 : w2.cell? ⟨b, 1, none⟩ = some (.int .i64 p) := (blk_cells hx2).1 1
  have HO2 := Lib.hid ho2
  have HB2 := Lib.hid hB2
  have HX2 := Lib.hid hx2
  clear ho2 hB2 hx2 hb2 c0
  go_wp2_with fail
  refine (count_any ([] ++ uv (n : Int).toNat) _ (p : Int) _ (Rd.own HO2.out) (by omega) (by omega) (by simp; omega)).mono ?_
  rintro e w3 ⟨v3, rfl, ho3, hb3⟩
  have hB3 := HB2.out.trans (Joins.below_le hb3 HB2.out.size)
  have hx3 := (hb3.block b (by have := HB2.out.size; have := HX2.out; exact (Array.getElem?_eq_some_iff.1 this).1)).trans HX2.out
  have c2 : w3.cell? ⟨b, 2, none⟩ = some (.int .i64 m) := (blk_cells hx3).1 2
  have HO3 := Lib.hid ho3
  have HB3 := Lib.hid hB3
  have HX3 := Lib.hid hx3
  clear ho3 hB3 hx3 hb3 c1
  go_wp2_with fail
  refine (count_any ([] ++ uv (n : Int).toNat ++ uv (p : Int).toNat) _ (m : Int) _ (Rd.own HO3.out) (by omega) (by omega) (by simp; omega)).mono ?_
  rintro e w4 ⟨v4, rfl, ho4, hb4⟩
  have hB4 := HB3.out.trans (Joins.below_le hb4 HB3.out.size)
  have hx4 := (hb4.block b (Array.getElem?_eq_some_iff.1 HX3.out).1).trans HX3.out
  have c3 : w4.cell? ⟨b, 3, none⟩ = some (.string (tx d)) := (blk_cells hx4).1 3
  have HO4 := Lib.hid ho4
  have HB4 := Lib.hid hB4
  clear ho4 hB4 hx4 hb4 c2
  go_wp2_with fail
  refine (str_any ([] ++ uv (n : Int).toNat ++ uv (p : Int).toNat ++ uv (m : Int).toNat) _ (tx d) _ (Rd.own HO4.out) (by rw [tx_size]; omega) (by simp [tx_size]; omega)).mono ?_
  rintro e w5 ⟨v5, rfl, ho5, hb5⟩
  have hB5 := HB4.out.trans (Joins.below_le hb5 HB4.out.size)
  have ho5' : w5.ownsRow w4.heap.size 5 1 v5 (pbody n p m d).length (BS (pbody n p m d)) := by
    rw [tx_data] at ho5
    simpa [pbody] using ho5
  have HO5 := Lib.hid ho5'
  have HB5 := Lib.hid hB5
  clear ho5 ho5' hB5 hb5 c3
  go_wp2_with fail
  refine (seal_any 1 (pbody n p m d) _ _ (HT.out.below HB5.out HT.out.1) (Rd.own HO5.out) (by omega)).mono ?_
  rintro e w6 ⟨v6, k, rfl, ho6, hb6⟩
  have hB6 := HB5.out.trans (Joins.below_le hb6 HB5.out.size)
  rw [HSL.out] at ho6 ⊢
  have HO6 := Lib.hid ho6
  have HB6 := Lib.hid hB6
  clear ho6 hB6 hb6
  go_wp2_with fail
  go_ret
  exact ⟨_, _, rfl, own_base HO6.out HB5.out.size, HB6.out⟩

theorem int_dec (n : Nat) : ((n : Int) == 380) = decide (n = 380) := by
  by_cases h : n = 380
  · rw [decide_eq_true h, h]; rfl
  · rw [decide_eq_false h, beq_eq_false_iff_ne]; omega
theorem mayBe_walk (n p m : Nat) (d : List UInt8) (w : World) (hp : p ≤ 2147483647) (hm : m ≤ 2147483647) (hd : d.length ≤ 380) :
    Calls Tryd.prog 40 #[partV n p m d] w fun e w' => e = .returned (.bool (mayBe p m d.length)) ∧ Below w.heap.size w w' := by
  obtain ⟨w1, hw1⟩ : ∃ w1, w1 = w.alloc (.cells #[.int .i64 n, .int .i64 p, .int .i64 m, .string (tx d)] 58) := ⟨_, rfl⟩
  have hb1 : Below w.heap.size w w1 := by rw [hw1]; exact (Below.refl _ _).alloc (Nat.le_refl _) _
  have hx1 : w1.heap[w.heap.size]? = some (.cells #[.int .i64 n, .int .i64 p, .int .i64 m, .string (tx d)] 58 (0, 0)) := by rw [hw1]; exact heap_alloc_new w _
  obtain ⟨b, hb⟩ : ∃ b, b = w.heap.size := ⟨_, rfl⟩
  rw [← hb] at hx1
  obtain ⟨c1, c2, c3⟩ : w1.cell? ⟨b, 1, none⟩ = some (.int .i64 p) ∧ w1.cell? ⟨b, 2, none⟩ = some (.int .i64 m) ∧ w1.cell? ⟨b, 3, none⟩ = some (.string (tx d)) := ⟨(blk_cells hx1).1 1, (blk_cells hx1).1 2, (blk_cells hx1).1 3⟩
  have hsz := tx_size d
  have HB1 := Lib.hid hb1
  have HW1 := Lib.hid hw1
  have HBE := Lib.hid hb
  have e1 : IntKind.i64.wrap ((m : Int) - 1) = (m : Int) - 1 := IntWalk.i64_in _ (by omega)
  have e2 : wrap64 ((m : Int) - 1) = (m : Int) - 1 := by unfold wrap64; omega
  clear hb1 hw1 hx1 hb
  unfold partV
  obtain ⟨r, hr⟩ : ∃ r, r = mayBe p m d.length := ⟨_, rfl⟩
  rw [← hr]
  unfold mayBe at hr
  have HR := Lib.hid hr
  clear hr
  go_enter Tryd.func40, Tryd.ntmps40
  go_upto_region 1 with fail
  rw [← HW1.out, ← HBE.out]
  by_cases h1 : p < m
  · have a1 : ¬ ((m : Int) - 1 < (p : Int)) := by omega
    by_cases h2 : p + 1 < m
    · have a2 : (p : Int) < (m : Int) - 1 := by omega
      have HR2 : Hid (r = ((d.length : Int) == 380)) := Lib.hid (by rw [HR.out, if_pos h2, decide_eq_true h1, Bool.true_and, int_dec])
      go_wp2_with fail
      go_ret
      exact ⟨by rw [HR2.out]; rfl, HB1.out⟩
    · have a2 : ¬ (p : Int) < (m : Int) - 1 := by omega
      by_cases h3 : m = 1
      · have a3 : (m : Int) - 1 = 0 := by omega
        have a4 : ((m : Int) - 1 == 0) = true := by rw [a3]; rfl
        have HR2 : Hid (r = true) := Lib.hid (by rw [HR.out, if_neg h2, decide_eq_true h1, Bool.true_and, h3]; rfl)
        clear h3
        go_wp2_with fail
        go_ret
        exact ⟨by rw [HR2.out]; rfl, HB1.out⟩
      · have a3 : ¬ (m : Int) - 1 = 0 := by omega
        have a4 : ((m : Int) - 1 == 0) = false := by simpa using a3
        have h4 : (m == 1) = false := by simpa using h3
        by_cases h5 : 0 < d.length
        · have a5 : (0 : Int) < (d.length : Int) := by omega
          have a6 : decide (((m : Int) - 1) * 380 + (d.length : Int) ≤ 8192) = decide ((m - 1) * 380 + d.length ≤ 8192) := by
            by_cases h6 : (m - 1) * 380 + d.length ≤ 8192
            · rw [decide_eq_true h6, decide_eq_true (by omega)]
            · rw [decide_eq_false h6, decide_eq_false (by omega)]
          have HR2 : Hid (r = decide (((m : Int) - 1) * 380 + (d.length : Int) ≤ 8192)) := Lib.hid (by rw [HR.out, if_neg h2, decide_eq_true h1, h4, decide_eq_true h5, Bool.true_and, Bool.false_or, Bool.true_and, a6])
          clear a6
          go_wp2_with fail
          go_ret
          exact ⟨by rw [HR2.out]; rfl, HB1.out⟩
        · have a5 : ¬ (0 : Int) < (d.length : Int) := by omega
          have HR2 : Hid (r = false) := Lib.hid (by rw [HR.out, if_neg h2, decide_eq_true h1, h4, decide_eq_false h5]; rfl)
          go_wp2_with fail
          go_ret
          exact ⟨by rw [HR2.out]; rfl, HB1.out⟩
  · have a1 : (m : Int) - 1 < (p : Int) := by omega
    have HR2 : Hid (r = false) := Lib.hid (by rw [HR.out, decide_eq_false h1, Bool.false_and])
    go_wp2_with fail
    go_ret
    exact ⟨by rw [HR2.out]; rfl, HB1.out⟩
end Go.Proofs.YtfmaocinckeagaaDoor
