/-
  An entry's bytes are read as the entry, and bytes that are read are those of what is read: the law, walked. No statement is proved here. No condition.
-/
import Derived.Test.YtjfcofalhajgfaaLSame
import Derived.Test.YtjfcofalhajgfaaLReadW
namespace Go.Proofs.Ytjfcofalhajgfaa
open Go.RowKit

theorem sameL_refl : ∀ (l : List Int), sameL iSame l l = true
  | [] => rfl
  | a :: l => by
    show (iSame a a && sameL iSame l l) = true
    rw [sameL_refl l]
    simp [iSame]
theorem EN.same_refl (x : EN) : x.same x = true := by unfold EN.same; rw [sameL_refl]; simp
theorem one_entN {w : World} {p : Nat} {x : EN} {A : Option Addr} {c : Nat} (hp : w.heap[p]? = some (.cells #[.int .i64 x.term, .int .u8 x.kind, .string x.data, .slice A x.list.length c] 50 (0, 0))) (h : inR.N w Any (.slice A x.list.length c) x.list) : EntN w Any (.slice (some ⟨p, 0, none⟩) 1 1) [x] := by
  refine ⟨[⟨x.term, x.kind, x.data, A, x.list.length, c⟩], Rec.one_row (R := entR) (a := ⟨x.term, x.kind, x.data, A, x.list.length, c⟩) hp trivial, rfl, fun i r e hr he => ?_⟩
  cases i with
  | zero =>
    have hr := Option.some.inj hr
    have he := Option.some.inj he
    subst hr he
    exact ⟨rfl, rfl, rfl, rfl, h⟩
  | succ i => simp at hr
set_option maxHeartbeats 4000000 in
set_option maxRecDepth 100000 in
theorem back_walk (x : EN) (A : Option Addr) (c : Nat) (lb : List UInt8) (vb : Value) (w : World) (h : inR.N w Any (.slice A x.list.length c) x.list) (hll : x.list.length ≤ 17592186044416) (hdd : x.data.size ≤ 140737488355328) (hr : Rd w w.heap.size vb lb) (hlb : lb.length ≤ 140737488355328) :
    Calls Try.prog 10 #[x.agg (.slice A x.list.length c), vb] w fun e w' => e = .returned (.bool true) ∧ Below w.heap.size w w' := by
  unfold EN.agg
  obtain ⟨w1, hw1⟩ : ∃ w1, w1 = w.alloc (.cells #[.int .i64 x.term, .int .u8 x.kind, .string x.data, .slice A x.list.length c] 50) := ⟨_, rfl⟩
  have hb1 : Below w.heap.size w w1 := by rw [hw1]; exact (Below.refl _ _).alloc (Nat.le_refl _) _
  have hx1 : w1.heap[w.heap.size]? = some (.cells #[.int .i64 x.term, .int .u8 x.kind, .string x.data, .slice A x.list.length c] 50 (0, 0)) := by rw [hw1]; exact heap_alloc_new w _
  obtain ⟨p, hp⟩ : ∃ p, p = w.heap.size := ⟨_, rfl⟩
  rw [← hp] at hx1
  obtain ⟨w2, hw2⟩ : ∃ w2, w2 = w1.alloc (.cells #[.int .i64 x.term, .int .u8 x.kind, .string x.data, .slice A x.list.length c] 50) := ⟨_, rfl⟩
  have hb2 : Below w1.heap.size w1 w2 := by rw [hw2]; exact (Below.refl _ _).alloc (Nat.le_refl _) _
  have hz2 : w2.heap[w1.heap.size]? = some (.cells #[.int .i64 x.term, .int .u8 x.kind, .string x.data, .slice A x.list.length c] 50 (0, 0)) := by rw [hw2]; exact heap_alloc_new w1 _
  have hs1 : w1.heap.size = p + 1 := by rw [hw1, hp]; simp
  have hB2 := hb1.trans (Joins.below_le hb2 hb1.size)
  have cL := long_any [x] _ w2 (one_entN hz2 ((h.grow hb1).grow hb2)) (by simp) (fun e he => by
    have he := List.mem_singleton.1 he
    subst he
    omega)
  have hr0 := hr
  obtain ⟨Ab, cb, hvb, -, -, -, -⟩ := hr0
  -- what stays: the boxed entry, its list, the bytes
  have hkeep : ∀ W, Below w1.heap.size w1 W → (W.cell? ⟨p, 0, none⟩ = some (.int .i64 x.term) ∧ W.cell? ⟨p, 1, none⟩ = some (.int .u8 x.kind) ∧ W.cell? ⟨p, 2, none⟩ = some (.string x.data) ∧ W.cell? ⟨p, 3, none⟩ = some (.slice A x.list.length c)) ∧ inR.N W Any (.slice A x.list.length c) x.list := fun W hW => by
    have e := (hW.block p (lt_of_heap hx1)).trans hx1
    exact ⟨⟨(blk_cells e).1 0, (blk_cells e).1 1, (blk_cells e).1 2, (blk_cells e).1 3⟩, (h.grow hb1).grow hW⟩
  have hrd : ∀ W, Below w.heap.size w W → Rd W W.heap.size vb lb := fun W hW => hr.below hW hW.size
  have HK := Lib.hid hkeep
  have HRD := Lib.hid hrd
  have HB1 := Lib.hid hb1
  have HB2 := Lib.hid (And.intro hb2 hB2)
  have HW1 := Lib.hid hw1
  have HW2 := Lib.hid hw2
  have HP := Lib.hid hp
  have HS := Lib.hid hs1
  obtain ⟨x0, x1, x2, x3⟩ := (hkeep w1 (Below.refl _ _)).1
  rw [hw2, hs1] at cL
  subst hvb
  clear hw1 hb1 hx1 hp hw2 hb2 hz2 hs1 hB2 hkeep hrd hr h
  go_enter Try.func10, Try.ntmps10
  go_upto_region 1 with fail
  rw [← HW1.out, ← HP.out]
  go_wp2_with fail
  rw [HS.out]
  refine cL.mono ?_
  rintro e w3 ⟨rfl, hb3⟩
  rw [← HW2.out] at hb3
  clear cL x0 x1 x2 x3
  have HB3 := Lib.hid (And.intro (HB2.out.1.trans (Joins.below_le hb3 HB2.out.1.size)) (HB2.out.2.trans (Joins.below_le hb3 HB2.out.2.size)))
  clear hb3
  cases hlong : longB [x]
  case true =>
    clear hlong
    have cA := awake_any w3
    go_wp2_with fail
    refine cA.mono ?_
    rintro e w4 ⟨rfl, hb4⟩
    have HF := Lib.hid (HB3.out.2.trans (Joins.below_le hb4 HB3.out.2.size))
    clear cA hb4
    go_wp2_with fail
    go_ret
    exact ⟨rfl, HF.out⟩
  clear hlong
  by_cases hlen : (lb.length : Int) > 5000
  · have cA := awake_any w3
    go_wp2_with fail
    refine cA.mono ?_
    rintro e w4 ⟨rfl, hb4⟩
    have HF := Lib.hid (HB3.out.2.trans (Joins.below_le hb4 HB3.out.2.size))
    clear cA hb4
    go_wp2_with fail
    go_ret
    exact ⟨rfl, HF.out⟩
  have cA := awake_any w3
  go_wp2_with fail
  refine cA.mono ?_
  rintro e w4 ⟨rfl, hb4⟩
  clear cA
  have HB4 := Lib.hid (And.intro (HB3.out.1.trans (Joins.below_le hb4 HB3.out.1.size)) (HB3.out.2.trans (Joins.below_le hb4 HB3.out.2.size)))
  clear hb4
  obtain ⟨⟨x0, x1, x2, x3⟩, hL4⟩ := HK.out w4 HB4.out.1
  have cW := write_any x (.slice A x.list.length c) w4 hL4
  unfold EN.agg at cW
  clear hL4
  go_upto_region 3 with fail
  go_wp2_with fail
  refine cW.mono ?_
  rintro e w5 ⟨hcase, hb5⟩
  clear cW x0 x1 x2 x3
  have HB5 := Lib.hid (And.intro (HB4.out.1.trans (Joins.below_le hb5 HB4.out.1.size)) (HB4.out.2.trans (Joins.below_le hb5 HB4.out.2.size)))
  clear hb5
  obtain ⟨⟨x0, x1, x2, x3⟩, hL5⟩ := HK.out w5 HB5.out.1
  have cC := check_any x (.slice A x.list.length c) w5 hL5
  unfold EN.agg at cC
  clear hL5
  obtain ⟨hn, rfl⟩ | ⟨hm, u, rfl, hu⟩ := hcase
  · -- it may not be
    rw [hn] at cC
    clear hn
    go_wp2_with fail
    refine cC.mono ?_
    rintro e w6 ⟨rfl, hb6⟩
    clear cC x0 x1 x2 x3
    have HB6 := Lib.hid (HB5.out.2.trans (Joins.below_le hb6 HB5.out.2.size))
    clear hb6
    go_upto_region 10 with fail
    -- what is read of the bytes
    have cR := read_any lb _ w6 (HRD.out w6 HB6.out) hlb
    go_wp2_with fail
    refine cR.mono ?_
    rintro e wr ⟨hcase, hbr⟩
    clear cR
    have HWR := Lib.hid (HB6.out.trans (Joins.below_le hbr HB6.out.size))
    obtain ⟨hok, A9, c9, rfl, ho9⟩ | ⟨hok, rfl⟩ := hcase
    · have hmay : (rdE (some lb)).may = true := by
        unfold readOk at hok
        simp only [Bool.and_eq_true] at hok
        exact hok.2
      have hbs := (read_back hok).symm
      obtain ⟨y, hy⟩ : ∃ y, y = rdE (some lb) := ⟨_, rfl⟩
      rw [← hy] at hmay hbs ho9 ⊢
      unfold EN.agg
      obtain ⟨wy, hwy⟩ : ∃ wy, wy = wr.alloc (.cells #[.int .i64 y.term, .int .u8 y.kind, .string y.data, .slice A9 y.list.length c9] 50) := ⟨_, rfl⟩
      have hby : Below wr.heap.size wr wy := by rw [hwy]; exact (Below.refl _ _).alloc (Nat.le_refl _) _
      have hqy : wy.heap[wr.heap.size]? = some (.cells #[.int .i64 y.term, .int .u8 y.kind, .string y.data, .slice A9 y.list.length c9] 50 (0, 0)) := by rw [hwy]; exact heap_alloc_new wr _
      obtain ⟨q9, hq9⟩ : ∃ q9, q9 = wr.heap.size := ⟨_, rfl⟩
      rw [← hq9] at hqy
      obtain ⟨y0, y1, y2, y3⟩ : wy.cell? ⟨q9, 0, none⟩ = some (.int .i64 y.term) ∧ wy.cell? ⟨q9, 1, none⟩ = some (.int .u8 y.kind) ∧ wy.cell? ⟨q9, 2, none⟩ = some (.string y.data) ∧ wy.cell? ⟨q9, 3, none⟩ = some (.slice A9 y.list.length c9) := ⟨(blk_cells hqy).1 0, (blk_cells hqy).1 1, (blk_cells hqy).1 2, (blk_cells hqy).1 3⟩
      have cW := write_any y (.slice A9 y.list.length c9) wy (ho9.n.any.grow hby)
      unfold EN.agg at cW
      have HWY := Lib.hid hwy
      have HQ9 := Lib.hid hq9
      have HBY := Lib.hid (HWR.out.trans (Joins.below_le hby HWR.out.size))
      have HM := Lib.hid (And.intro hmay hbs)
      clear hwy hby hqy hq9 hmay hbs hok hy ho9 hbr
      go_upto_region 11 with fail
      rw [← HWY.out, ← HQ9.out]
      go_wp2_with fail
      refine cW.mono ?_
      rintro e wt ⟨hcase, hbt⟩
      clear cW y0 y1 y2 y3
      obtain ⟨hn, -⟩ | ⟨-, t, rfl, ht⟩ := hcase
      · exact absurd (HM.out.1.symm.trans hn) (by decide)
      rw [HM.out.2] at ht
      have HBT := Lib.hid (HBY.out.trans (Joins.below_le hbt HBY.out.size))
      have cv1 := conv_str (Rd.own ht)
      have cv2 := conv_str (HRD.out wt HBT.out)
      clear hbt ht
      go_wp2_with fail
      go_ret
      exact ⟨by first | rfl | simp, HBT.out⟩
    · clear hok hbr
      go_wp2_with fail
      go_ret
      exact ⟨rfl, HWR.out.alloc HWR.out.size _⟩
  · -- it may be
    rw [hm] at cC
    have HM := Lib.hid hm
    have HU := Lib.hid hu
    obtain ⟨Au, cu, hus⟩ := own_slice hu
    subst hus
    clear hm hu
    go_wp2_with fail
    refine cC.mono ?_
    rintro e w6 ⟨rfl, hb6⟩
    clear cC x0 x1 x2 x3
    have hu6 := row_same HU.out fun b hb => hb6.block b (HU.out.lt b hb).2
    have HB6 := Lib.hid (And.intro (HB5.out.1.trans (Joins.below_le hb6 HB5.out.1.size)) (HB5.out.2.trans (Joins.below_le hb6 HB5.out.2.size)))
    have hxl : x.bs.length ≤ 140737488355328 := by
      have h1 := uv_length64 x.term.toNat (by unfold U64; have := EN.may_term HM.out; omega)
      have h2 := uv_length64 x.kind.toNat (by unfold U64; have := EN.may_kind HM.out; omega)
      have h3 := uv_length64 x.data.data.toList.length (by unfold U64; have := EN.may_data HM.out; have e : x.data.data.toList.length = x.data.size := by rw [Array.length_toList]; rfl
                                                           omega)
      have h4 := uv_length64 x.list.length (by unfold U64; omega)
      have h5 := intsBy_len x.list (EN.may_list HM.out).2
      have e : x.data.data.toList.length = x.data.size := by rw [Array.length_toList]; rfl
      have h6 := EN.may_data HM.out
      have h7 := (EN.may_list HM.out).1
      unfold EN.bs tv
      simp only [List.length_append]
      omega
    have cR := read_any x.bs _ w6 (Rd.own hu6) hxl
    clear hb6 hu6 HU hxl
    go_upto_region 7 with fail
    go_wp2_with fail
    refine cR.mono ?_
    rintro e w7 ⟨hcase, hb7⟩
    clear cR
    obtain ⟨hrok, hrE⟩ := read_by HM.out
    obtain ⟨hn, -⟩ | ⟨-, A7, c7, rfl, ho7⟩ := hcase.symm
    · exact absurd (hrok.symm.trans hn) (by decide)
    rw [hrE] at ho7 ⊢
    unfold EN.agg
    obtain ⟨w8, hw8⟩ : ∃ w8, w8 = w7.alloc (.cells #[.int .i64 x.term, .int .u8 x.kind, .string x.data, .slice A7 x.list.length c7] 50) := ⟨_, rfl⟩
    have hb8 : Below w7.heap.size w7 w8 := by rw [hw8]; exact (Below.refl _ _).alloc (Nat.le_refl _) _
    have hq8 : w8.heap[w7.heap.size]? = some (.cells #[.int .i64 x.term, .int .u8 x.kind, .string x.data, .slice A7 x.list.length c7] 50 (0, 0)) := by rw [hw8]; exact heap_alloc_new w7 _
    obtain ⟨q8, hq8d⟩ : ∃ q8, q8 = w7.heap.size := ⟨_, rfl⟩
    rw [← hq8d] at hq8
    have h78 := hb7.trans (Joins.below_le hb8 hb7.size)
    have HB8 := Lib.hid (And.intro (HB6.out.1.trans (Joins.below_le h78 HB6.out.1.size)) (HB6.out.2.trans (Joins.below_le h78 HB6.out.2.size)))
    obtain ⟨⟨x0, x1, x2, x3⟩, hL8⟩ := HK.out w8 HB8.out.1
    obtain ⟨y0, y1, y2, y3⟩ : w8.cell? ⟨q8, 0, none⟩ = some (.int .i64 x.term) ∧ w8.cell? ⟨q8, 1, none⟩ = some (.int .u8 x.kind) ∧ w8.cell? ⟨q8, 2, none⟩ = some (.string x.data) ∧ w8.cell? ⟨q8, 3, none⟩ = some (.slice A7 x.list.length c7) := ⟨(blk_cells hq8).1 0, (blk_cells hq8).1 1, (blk_cells hq8).1 2, (blk_cells hq8).1 3⟩
    have cS := same_any x x (.slice A7 x.list.length c7) (.slice A x.list.length c) w8 (ho7.n.any.grow hb8) hL8
    rw [EN.same_refl] at cS
    unfold EN.agg at cS
    have HW8 := Lib.hid hw8
    have HQ8 := Lib.hid hq8d
    clear hw8 hb8 hq8 hq8d h78 hb7 hL8 ho7 hrok hrE HB6
    go_upto_region 8 with fail
    rw [← HW8.out, ← HQ8.out]
    go_wp2_with fail
    refine cS.mono ?_
    rintro e w9 ⟨rfl, hb9⟩
    have HB9 := Lib.hid (HB8.out.2.trans (Joins.below_le hb9 HB8.out.2.size))
    clear cS x0 x1 x2 x3 y0 y1 y2 y3 hb9
    go_upto_region 10 with fail
    -- what is read of the bytes
    have cR := read_any lb _ w9 (HRD.out w9 HB9.out) hlb
    go_wp2_with fail
    refine cR.mono ?_
    rintro e wr ⟨hcase, hbr⟩
    clear cR
    have HWR := Lib.hid (HB9.out.trans (Joins.below_le hbr HB9.out.size))
    obtain ⟨hok, A9, c9, rfl, ho9⟩ | ⟨hok, rfl⟩ := hcase
    · have hmay : (rdE (some lb)).may = true := by
        unfold readOk at hok
        simp only [Bool.and_eq_true] at hok
        exact hok.2
      have hbs := (read_back hok).symm
      obtain ⟨y, hy⟩ : ∃ y, y = rdE (some lb) := ⟨_, rfl⟩
      rw [← hy] at hmay hbs ho9 ⊢
      unfold EN.agg
      obtain ⟨wy, hwy⟩ : ∃ wy, wy = wr.alloc (.cells #[.int .i64 y.term, .int .u8 y.kind, .string y.data, .slice A9 y.list.length c9] 50) := ⟨_, rfl⟩
      have hby : Below wr.heap.size wr wy := by rw [hwy]; exact (Below.refl _ _).alloc (Nat.le_refl _) _
      have hqy : wy.heap[wr.heap.size]? = some (.cells #[.int .i64 y.term, .int .u8 y.kind, .string y.data, .slice A9 y.list.length c9] 50 (0, 0)) := by rw [hwy]; exact heap_alloc_new wr _
      obtain ⟨q9, hq9⟩ : ∃ q9, q9 = wr.heap.size := ⟨_, rfl⟩
      rw [← hq9] at hqy
      obtain ⟨y0, y1, y2, y3⟩ : wy.cell? ⟨q9, 0, none⟩ = some (.int .i64 y.term) ∧ wy.cell? ⟨q9, 1, none⟩ = some (.int .u8 y.kind) ∧ wy.cell? ⟨q9, 2, none⟩ = some (.string y.data) ∧ wy.cell? ⟨q9, 3, none⟩ = some (.slice A9 y.list.length c9) := ⟨(blk_cells hqy).1 0, (blk_cells hqy).1 1, (blk_cells hqy).1 2, (blk_cells hqy).1 3⟩
      have cW := write_any y (.slice A9 y.list.length c9) wy (ho9.n.any.grow hby)
      unfold EN.agg at cW
      have HWY := Lib.hid hwy
      have HQ9 := Lib.hid hq9
      have HBY := Lib.hid (HWR.out.trans (Joins.below_le hby HWR.out.size))
      have HM := Lib.hid (And.intro hmay hbs)
      clear hwy hby hqy hq9 hmay hbs hok hy ho9 hbr
      go_upto_region 11 with fail
      rw [← HWY.out, ← HQ9.out]
      go_wp2_with fail
      refine cW.mono ?_
      rintro e wt ⟨hcase, hbt⟩
      clear cW y0 y1 y2 y3
      obtain ⟨hn, -⟩ | ⟨-, t, rfl, ht⟩ := hcase
      · exact absurd (HM.out.1.symm.trans hn) (by decide)
      rw [HM.out.2] at ht
      have HBT := Lib.hid (HBY.out.trans (Joins.below_le hbt HBY.out.size))
      have cv1 := conv_str (Rd.own ht)
      have cv2 := conv_str (HRD.out wt HBT.out)
      clear hbt ht
      go_wp2_with fail
      go_ret
      exact ⟨by first | rfl | simp, HBT.out⟩
    · clear hok hbr
      go_wp2_with fail
      go_ret
      exact ⟨rfl, HWR.out.alloc HWR.out.size _⟩
end Go.Proofs.Ytjfcofalhajgfaa
