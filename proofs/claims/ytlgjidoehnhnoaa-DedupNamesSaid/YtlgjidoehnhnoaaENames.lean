/-
  DedupNames, walked. No statement is proved here. No condition.
-/
import Derived.Test.YtlgjidoehnhnoaaEPlaces
import Derived.Test.YtlgjidoehnhnoaaEOwnX
namespace Go.Proofs.Ytlgjidoehnhnoaa
open Go.RowKit

theorem info_u8 : (Try.prog.info? 5).map (fun i => (i.zero, i.size, i.bytes)) = some (some (.int .u8 0), 1, 1) := by kernel_rfl
theorem BS_noughts (n : Nat) : (madeCells (Value.int .u8 0).cells n).toList = BS (List.replicate n 0) := by
  show (madeCells #[Value.int .u8 0] n).toList = _
  rw [toList_madeCells_one]
  simp [BS]
/-- n noughts, as a text -/
theorem made_text (w : World) (n : Nat) (hn : n ≤ 140737488355328) : ∃ w', (Instr.makeSlice 36 (.int .i64 (n : Int)) (.int .i64 (n : Int))).run Try.prog w = .ok (.slice (some ⟨w.heap.size, 0, none⟩) n n) w' ∧
    (convert 36 9 (.slice (some ⟨w.heap.size, 0, none⟩) n n)).run Try.prog w' = .ok (.string ⟨(List.replicate n 0).toArray⟩) w' ∧ Below w.heap.size w w' := by
  obtain ⟨i0, hi, hz0, hz1, hz2⟩ := info_parts info_u8
  obtain ⟨w', h1, h2, h3⟩ := run_make_full (P := Try.prog) w w.heap.size 36 5 i0 _ 1 Try.underlying36 hi hz0 hz1 .i64 .i64 n (by rw [hz2]; omega) (by unfold maxLen; omega) (Nat.le_refl _)
  rw [Nat.mul_one, BS_noughts] at h2
  have hr : RowN w' Any (.slice (some ⟨w.heap.size, 0, none⟩) n n) n 1 (BS (List.replicate n 0)) := RowN.of_own h2 fun _ _ => trivial
  have hrd : Rd w' w'.heap.size (.slice (some ⟨w.heap.size, 0, none⟩) n n) (List.replicate n 0) := by
    obtain ⟨A, c, hv, k1, k2, k3, k4, k5⟩ := hr
    injection hv with v1 v2 v3
    refine ⟨A, c, by rw [← v1, ← v3]; simp, by simp; omega, k3, k4, fun hne => ?_⟩
    obtain ⟨bb, oo, hA, -, hs, hc⟩ := k5 (by rcases Nat.eq_zero_or_pos n with h0 | h0; subst h0; exact absurd rfl hne; exact h0)
    refine ⟨bb, oo, hA, hs, fun i x hx => hc i _ ?_⟩
    unfold BS
    rw [List.getElem?_map, hx]
    rfl
  exact ⟨w', h1, run_str _ _ _ Try.underlying36 Try.underlying5 Try.underlying9 hrd, (Below.refl _ _).grown h3 (Nat.le_refl _) (fun k h => by cases h)⟩
theorem bLt_ba : bLt ⟨#[98]⟩ ⟨#[97]⟩ = false := by
  unfold bLt
  rw [ByteArray.toList_eq, ByteArray.toList_eq]
  rfl
theorem put_ba : putP [pA] ⟨⟨#[98]⟩, ⟨#[50]⟩⟩ = [pA, ⟨⟨#[98]⟩, ⟨#[50]⟩⟩] := by
  have h : putP [pA] ⟨⟨#[98]⟩, ⟨#[50]⟩⟩ = ins (fun q => bLt ⟨#[98]⟩ q.key) ⟨⟨#[98]⟩, ⟨#[50]⟩⟩ [pA] := rfl
  rw [h]
  unfold ins
  rw [show bLt (⟨#[98]⟩ : ByteArray) pA.key = false from bLt_ba]
  rfl
theorem names_0 : doE [pA] ⟨4, ⟨#[97]⟩, ⟨#[50]⟩, ⟨#[49]⟩, true⟩ = ([(⟨⟨#[97]⟩, ⟨#[50]⟩⟩ : PP)], ⟨1, true, ⟨#[]⟩⟩) ∧ (PO.err ⟨4, ⟨#[97]⟩, ⟨#[50]⟩, ⟨#[49]⟩, true⟩ = 0) := ⟨rfl, rfl⟩
theorem names_1 : doE [pA] ⟨4, ⟨#[97]⟩, ⟨#[50]⟩, ⟨#[]⟩, false⟩ = ([(pA : PP)], ⟨1, false, ⟨#[]⟩⟩) ∧ (PO.err ⟨4, ⟨#[97]⟩, ⟨#[50]⟩, ⟨#[]⟩, false⟩ = 0) := ⟨rfl, rfl⟩
theorem names_2 : doE [pA] ⟨1, ⟨#[98]⟩, ⟨#[]⟩, ⟨#[]⟩, false⟩ = ([(pA : PP)], ⟨1, false, ⟨#[]⟩⟩) ∧ (PO.err ⟨1, ⟨#[98]⟩, ⟨#[]⟩, ⟨#[]⟩, false⟩ = 0) := ⟨rfl, rfl⟩
theorem names_3 : doE [pA] ⟨4, ⟨#[98]⟩, ⟨#[50]⟩, ⟨#[]⟩, false⟩ = ([(pA : PP), (⟨⟨#[98]⟩, ⟨#[50]⟩⟩ : PP)], ⟨1, true, ⟨#[]⟩⟩) ∧ (PO.err ⟨4, ⟨#[98]⟩, ⟨#[50]⟩, ⟨#[]⟩, false⟩ = 0) := ⟨(show doE [pA] ⟨4, ⟨#[98]⟩, ⟨#[50]⟩, ⟨#[]⟩, false⟩ = (putP [pA] ⟨⟨#[98]⟩, ⟨#[50]⟩⟩, ⟨1, true, ⟨#[]⟩⟩) from rfl).trans (by rw [put_ba]), rfl⟩
theorem names_4 : doE [pA] ⟨4, ⟨#[98]⟩, ⟨#[50]⟩, ⟨#[]⟩, true⟩ = ([(pA : PP)], ⟨1, false, ⟨#[]⟩⟩) ∧ (PO.err ⟨4, ⟨#[98]⟩, ⟨#[50]⟩, ⟨#[]⟩, true⟩ = 0) := ⟨rfl, rfl⟩
theorem names_5 : stepP [pA] [] 1 1 ⟨1, ⟨#[97]⟩, ⟨#[]⟩, ⟨#[]⟩, false⟩ = ([], [], zR) ∧ stepErr [] 1 1 ⟨1, ⟨#[97]⟩, ⟨#[]⟩, ⟨#[]⟩, false⟩ = 1 := ⟨rfl, rfl⟩
theorem err_size {k : Int} {s t u : ByteArray} {h : Bool} (hk : k = 2) : PO.err ⟨k, s, t, u, h⟩ = if s.size < 1 ∨ 32 < s.size ∨ 2000 < t.size ∨ 2000 < u.size then 40 else 0 := by
  subst hk
  unfold PO.err
  rw [if_neg (by show ¬ ((2 : Int) = 0 ∨ (4 : Int) < 2); omega)]

set_option maxHeartbeats 16000000 in
set_option maxRecDepth 1000000 in
theorem names_walk (w : World) : Calls Try.prog 3 #[] w fun e w' => e = .returned (.bool true) ∧ Below w.heap.size w w' := by
  have cW := works_any w
  have hz := zero_res
  have hzp : ∀ W, (zeroValue 24).run Try.prog W = .ok (.agg #[.string ⟨#[]⟩, .string ⟨#[]⟩]) W := fun W => by kernel_rfl
  have hzo : ∀ W, (zeroValue 32).run Try.prog W = .ok (.agg #[.int .u8 0, .string ⟨#[]⟩, .string ⟨#[]⟩, .string ⟨#[]⟩, .bool false]) W := fun W => by kernel_rfl
  go_enter Try.func3, Try.ntmps3
  go_wp2_with fail
  refine cW.mono ?_
  rintro e w1 ⟨rfl, hb1⟩
  obtain ⟨w2, hw2⟩ : ∃ w2, w2 = w1.alloc (.cells #[.string ⟨#[97]⟩, .string ⟨#[49]⟩] 24) := ⟨_, rfl⟩
  have hb12 : Below w1.heap.size w1 w2 := by rw [hw2]; exact (Below.refl _ _).alloc (Nat.le_refl _) _
  have x2 : w2.heap[w1.heap.size]? = some (.cells #[.string ⟨#[97]⟩, .string ⟨#[49]⟩] 24 (0, 0)) := by rw [hw2]; exact heap_alloc_new w1 _
  have hm : pairR.N w2 Any (.slice (some ⟨w1.heap.size, 0, none⟩) 1 1) [pA] := Rec.one_row (R := pairR) (a := pA) x2 trivial
  have hbw := hb1.trans (Joins.below_le hb12 hb1.size)
  have HM := Lib.hid hm
  have HW2 := Lib.hid hw2
  have hb20 : Below w2.heap.size w2 w2 := Below.refl _ _
  clear cW hb1 hb12 hw2 x2 hm
  go_upto_region 4 with fail
  rw [← HW2.out]
  have c0 : Calls Try.prog 11 #[.slice (some ⟨w1.heap.size, 0, none⟩) 1 1, .agg #[.int .u8 4, .string ⟨#[97]⟩, .string ⟨#[50]⟩, .string ⟨#[49]⟩, .bool true]] w2 fun e w' => ∃ v', e = .returned (.tuple #[v', .agg #[.int .u8 1, .bool true, .string ⟨#[]⟩], .int .i64 0]) ∧ pairR.Own w' w2.heap.size 24 v' [(⟨⟨#[97]⟩, ⟨#[50]⟩⟩ : PP)] ∧ Below w2.heap.size w2 w' := by
    have := pdo_any [pA] ⟨4, ⟨#[97]⟩, ⟨#[50]⟩, ⟨#[49]⟩, true⟩ _ w2 (HM.out.grow hb20) (by simp) (by decide)
    rw [names_0.1, names_0.2] at this
    exact this
  go_wp2_with fail
  refine c0.mono ?_
  rintro e u0 ⟨v0, rfl, oo0, hbu0⟩
  obtain ⟨A0, cp0, rfl⟩ := oo0.slice
  obtain ⟨t0, ht0⟩ : ∃ t0, t0 = u0.alloc (.cells #[.int .u8 1, .bool true, .string ⟨#[]⟩] 27) := ⟨_, rfl⟩
  have hbut0 : Below u0.heap.size u0 t0 := by rw [ht0]; exact (Below.refl _ _).alloc (Nat.le_refl _) _
  have y0 : t0.heap[u0.heap.size]? = some (.cells #[.int .u8 1, .bool true, .string ⟨#[]⟩] 27 (0, 0)) := by rw [ht0]; exact heap_alloc_new u0 _
  have hbt0 := hb20.trans (Joins.below_le (hbu0.trans (Joins.below_le hbut0 hbu0.size)) hb20.size)
  have row0 := oo0.below hbut0
  have HT0 := Lib.hid ht0
  clear c0 ht0 oo0 hbut0 hbu0
  go_upto_region 5 with fail
  rw [← HT0.out]
  have c1 : Calls Try.prog 11 #[.slice (some ⟨w1.heap.size, 0, none⟩) 1 1, .agg #[.int .u8 4, .string ⟨#[97]⟩, .string ⟨#[50]⟩, .string ⟨#[]⟩, .bool false]] t0 fun e w' => ∃ v', e = .returned (.tuple #[v', .agg #[.int .u8 1, .bool false, .string ⟨#[]⟩], .int .i64 0]) ∧ pairR.Own w' t0.heap.size 24 v' [(pA : PP)] ∧ Below t0.heap.size t0 w' := by
    have := pdo_any [pA] ⟨4, ⟨#[97]⟩, ⟨#[50]⟩, ⟨#[]⟩, false⟩ _ t0 (HM.out.grow hbt0) (by simp) (by decide)
    rw [names_1.1, names_1.2] at this
    exact this
  go_wp2_with fail
  refine c1.mono ?_
  rintro e u1 ⟨v1, rfl, oo1, hbu1⟩
  obtain ⟨A1, cp1, rfl⟩ := oo1.slice
  obtain ⟨t1, ht1⟩ : ∃ t1, t1 = u1.alloc (.cells #[.int .u8 1, .bool false, .string ⟨#[]⟩] 27) := ⟨_, rfl⟩
  have hbut1 : Below u1.heap.size u1 t1 := by rw [ht1]; exact (Below.refl _ _).alloc (Nat.le_refl _) _
  have y1 : t1.heap[u1.heap.size]? = some (.cells #[.int .u8 1, .bool false, .string ⟨#[]⟩] 27 (0, 0)) := by rw [ht1]; exact heap_alloc_new u1 _
  have hbt1 := hbt0.trans (Joins.below_le (hbu1.trans (Joins.below_le hbut1 hbu1.size)) hbt0.size)
  have row1 := oo1.below hbut1
  have hc0 : Below t0.heap.size t0 t1 := hbu1.trans (Joins.below_le hbut1 hbu1.size)
  have HT1 := Lib.hid ht1
  clear c1 ht1 oo1 hbut1 hbu1
  go_upto_region 6 with fail
  rw [← HT1.out]
  have c2 : Calls Try.prog 11 #[.slice (some ⟨w1.heap.size, 0, none⟩) 1 1, .agg #[.int .u8 1, .string ⟨#[98]⟩, .string ⟨#[]⟩, .string ⟨#[]⟩, .bool false]] t1 fun e w' => ∃ v', e = .returned (.tuple #[v', .agg #[.int .u8 1, .bool false, .string ⟨#[]⟩], .int .i64 0]) ∧ pairR.Own w' t1.heap.size 24 v' [(pA : PP)] ∧ Below t1.heap.size t1 w' := by
    have := pdo_any [pA] ⟨1, ⟨#[98]⟩, ⟨#[]⟩, ⟨#[]⟩, false⟩ _ t1 (HM.out.grow hbt1) (by simp) (by decide)
    rw [names_2.1, names_2.2] at this
    exact this
  go_wp2_with fail
  refine c2.mono ?_
  rintro e u2 ⟨v2, rfl, oo2, hbu2⟩
  obtain ⟨A2, cp2, rfl⟩ := oo2.slice
  obtain ⟨t2, ht2⟩ : ∃ t2, t2 = u2.alloc (.cells #[.int .u8 1, .bool false, .string ⟨#[]⟩] 27) := ⟨_, rfl⟩
  have hbut2 : Below u2.heap.size u2 t2 := by rw [ht2]; exact (Below.refl _ _).alloc (Nat.le_refl _) _
  have y2 : t2.heap[u2.heap.size]? = some (.cells #[.int .u8 1, .bool false, .string ⟨#[]⟩] 27 (0, 0)) := by rw [ht2]; exact heap_alloc_new u2 _
  have hbt2 := hbt1.trans (Joins.below_le (hbu2.trans (Joins.below_le hbut2 hbu2.size)) hbt1.size)
  have row2 := oo2.below hbut2
  have hc1 : Below t1.heap.size t1 t2 := hbu2.trans (Joins.below_le hbut2 hbu2.size)
  have HT2 := Lib.hid ht2
  clear c2 ht2 oo2 hbut2 hbu2
  go_upto_region 7 with fail
  rw [← HT2.out]
  have c3 : Calls Try.prog 11 #[.slice (some ⟨w1.heap.size, 0, none⟩) 1 1, .agg #[.int .u8 4, .string ⟨#[98]⟩, .string ⟨#[50]⟩, .string ⟨#[]⟩, .bool false]] t2 fun e w' => ∃ v', e = .returned (.tuple #[v', .agg #[.int .u8 1, .bool true, .string ⟨#[]⟩], .int .i64 0]) ∧ pairR.Own w' t2.heap.size 24 v' [(pA : PP), (⟨⟨#[98]⟩, ⟨#[50]⟩⟩ : PP)] ∧ Below t2.heap.size t2 w' := by
    have := pdo_any [pA] ⟨4, ⟨#[98]⟩, ⟨#[50]⟩, ⟨#[]⟩, false⟩ _ t2 (HM.out.grow hbt2) (by simp) (by decide)
    rw [names_3.1, names_3.2] at this
    exact this
  go_wp2_with fail
  refine c3.mono ?_
  rintro e u3 ⟨v3, rfl, oo3, hbu3⟩
  obtain ⟨A3, cp3, rfl⟩ := oo3.slice
  obtain ⟨t3, ht3⟩ : ∃ t3, t3 = u3.alloc (.cells #[.int .u8 1, .bool true, .string ⟨#[]⟩] 27) := ⟨_, rfl⟩
  have hbut3 : Below u3.heap.size u3 t3 := by rw [ht3]; exact (Below.refl _ _).alloc (Nat.le_refl _) _
  have y3 : t3.heap[u3.heap.size]? = some (.cells #[.int .u8 1, .bool true, .string ⟨#[]⟩] 27 (0, 0)) := by rw [ht3]; exact heap_alloc_new u3 _
  have hbt3 := hbt2.trans (Joins.below_le (hbu3.trans (Joins.below_le hbut3 hbu3.size)) hbt2.size)
  have row3 := oo3.below hbut3
  have hc2 : Below t2.heap.size t2 t3 := hbu3.trans (Joins.below_le hbut3 hbu3.size)
  have HT3 := Lib.hid ht3
  clear c3 ht3 oo3 hbut3 hbu3
  go_upto_region 8 with fail
  rw [← HT3.out]
  have c4 : Calls Try.prog 11 #[.slice (some ⟨w1.heap.size, 0, none⟩) 1 1, .agg #[.int .u8 4, .string ⟨#[98]⟩, .string ⟨#[50]⟩, .string ⟨#[]⟩, .bool true]] t3 fun e w' => ∃ v', e = .returned (.tuple #[v', .agg #[.int .u8 1, .bool false, .string ⟨#[]⟩], .int .i64 0]) ∧ pairR.Own w' t3.heap.size 24 v' [(pA : PP)] ∧ Below t3.heap.size t3 w' := by
    have := pdo_any [pA] ⟨4, ⟨#[98]⟩, ⟨#[50]⟩, ⟨#[]⟩, true⟩ _ t3 (HM.out.grow hbt3) (by simp) (by decide)
    rw [names_4.1, names_4.2] at this
    exact this
  go_wp2_with fail
  refine c4.mono ?_
  rintro e u4 ⟨v4, rfl, oo4, hbu4⟩
  obtain ⟨A4, cp4, rfl⟩ := oo4.slice
  obtain ⟨t4, ht4⟩ : ∃ t4, t4 = u4.alloc (.cells #[.int .u8 1, .bool false, .string ⟨#[]⟩] 27) := ⟨_, rfl⟩
  have hbut4 : Below u4.heap.size u4 t4 := by rw [ht4]; exact (Below.refl _ _).alloc (Nat.le_refl _) _
  have y4 : t4.heap[u4.heap.size]? = some (.cells #[.int .u8 1, .bool false, .string ⟨#[]⟩] 27 (0, 0)) := by rw [ht4]; exact heap_alloc_new u4 _
  have hbt4 := hbt3.trans (Joins.below_le (hbu4.trans (Joins.below_le hbut4 hbu4.size)) hbt3.size)
  have row4 := oo4.below hbut4
  have hc3 : Below t3.heap.size t3 t4 := hbu4.trans (Joins.below_le hbut4 hbu4.size)
  have HT4 := Lib.hid ht4
  clear c4 ht4 oo4 hbut4 hbu4
  go_upto_region 9 with fail
  rw [← HT4.out]
  have c5 : Calls Try.prog 12 #[.slice (some ⟨w1.heap.size, 0, none⟩) 1 1, .slice none 0 0, .int .i64 1, .int .i64 1, .agg #[.int .u8 1, .string ⟨#[97]⟩, .string ⟨#[]⟩, .string ⟨#[]⟩, .bool false]] t4 fun e w' => ∃ va vb, e = .returned (.tuple #[va, vb, .agg #[.int .u8 0, .bool false, .string ⟨#[]⟩], .int .i64 1]) ∧ pairR.Own w' t4.heap.size 24 va [] ∧ lastR.Own w' t4.heap.size 46 vb [] ∧ Below t4.heap.size t4 w' := by
    have := pstep_any [pA] [] 1 1 ⟨1, ⟨#[97]⟩, ⟨#[]⟩, ⟨#[]⟩, false⟩ _ (.slice none 0 0) t4 (HM.out.grow hbt4) (Rec.N.nil _ _) (by simp) (by simp) (by decide)
    rw [names_5.1, names_5.2] at this
    exact this
  go_wp2_with fail
  refine c5.mono ?_
  rintro e u5 ⟨va5, vb5, rfl, oa5, ob5, hbu5⟩
  obtain ⟨Aa5, ca5, rfl⟩ := oa5.slice
  obtain ⟨Ab5, cb5, rfl⟩ := ob5.slice
  obtain ⟨t5, ht5⟩ : ∃ t5, t5 = u5.alloc (.cells #[.int .u8 0, .bool false, .string ⟨#[]⟩] 27) := ⟨_, rfl⟩
  have hbut5 : Below u5.heap.size u5 t5 := by rw [ht5]; exact (Below.refl _ _).alloc (Nat.le_refl _) _
  have hbt5 := hbt4.trans (Joins.below_le (hbu5.trans (Joins.below_le hbut5 hbu5.size)) hbt4.size)
  have hb45 := hbu5.trans (Joins.below_le hbut5 hbu5.size)
  have HT5 := Lib.hid ht5
  clear c5 ht5 oa5 ob5 hbut5
  go_upto_region 10 with fail
  rw [← HT5.out]
  obtain ⟨t6, mk6, cv6, hb56⟩ := made_text t5 32 (by omega)
  have mk6' : (Instr.makeSlice 36 (.int .i64 32) (.int .i64 32)).run Try.prog t5 = .ok (.slice (some ⟨t5.heap.size, 0, none⟩) 32 32) t6 := mk6
  obtain ⟨K, hK⟩ : ∃ K : ByteArray, K = ⟨(List.replicate 32 0).toArray⟩ := ⟨_, rfl⟩
  have hKs : K.size = 32 := by rw [hK]; simp [ByteArray.size]
  rw [← hK] at cv6
  obtain ⟨t7, mk7, cv7, hb67⟩ := made_text t6 2000 (by omega)
  have mk7' : (Instr.makeSlice 36 (.int .i64 2000) (.int .i64 2000)).run Try.prog t6 = .ok (.slice (some ⟨t6.heap.size, 0, none⟩) 2000 2000) t7 := mk7
  obtain ⟨G, hG⟩ : ∃ G : ByteArray, G = ⟨(List.replicate 2000 0).toArray⟩ := ⟨_, rfl⟩
  have hGs : G.size = 2000 := by rw [hG]; simp [ByteArray.size]
  rw [← hG] at cv7
  clear hK hG mk6 mk7
  -- what stands, at t7
  have hb57 := hb56.trans (Joins.below_le hb67 hb56.size)
  have hb47 := hb45.trans (Joins.below_le hb57 hb45.size)
  have s5 := hbt5.size
  have bt4 : Below t4.heap.size t4 t7 := hb47
  have hbt7 := hbt5.trans (Joins.below_le hb57 hbt5.size)
  have q0 := (((((hc0.trans (Joins.below_le hc1 hc0.size)).trans (Joins.below_le hc2 (hc0.trans (Joins.below_le hc1 hc0.size)).size)).trans (Joins.below_le hc3 ((hc0.trans (Joins.below_le hc1 hc0.size)).trans (Joins.below_le hc2 (hc0.trans (Joins.below_le hc1 hc0.size)).size)).size)).trans (Joins.below_le hb47 (((hc0.trans (Joins.below_le hc1 hc0.size)).trans (Joins.below_le hc2 (hc0.trans (Joins.below_le hc1 hc0.size)).size)).trans (Joins.below_le hc3 ((hc0.trans (Joins.below_le hc1 hc0.size)).trans (Joins.below_le hc2 (hc0.trans (Joins.below_le hc1 hc0.size)).size)).size)).size)).block _ (Array.getElem?_eq_some_iff.1 y0).1).trans y0
  have rw0 := row0.below ((((hc0.trans (Joins.below_le hc1 hc0.size)).trans (Joins.below_le hc2 (hc0.trans (Joins.below_le hc1 hc0.size)).size)).trans (Joins.below_le hc3 ((hc0.trans (Joins.below_le hc1 hc0.size)).trans (Joins.below_le hc2 (hc0.trans (Joins.below_le hc1 hc0.size)).size)).size)).trans (Joins.below_le hb47 (((hc0.trans (Joins.below_le hc1 hc0.size)).trans (Joins.below_le hc2 (hc0.trans (Joins.below_le hc1 hc0.size)).size)).trans (Joins.below_le hc3 ((hc0.trans (Joins.below_le hc1 hc0.size)).trans (Joins.below_le hc2 (hc0.trans (Joins.below_le hc1 hc0.size)).size)).size)).size))
  have q1 := ((((hc1.trans (Joins.below_le hc2 hc1.size)).trans (Joins.below_le hc3 (hc1.trans (Joins.below_le hc2 hc1.size)).size)).trans (Joins.below_le hb47 ((hc1.trans (Joins.below_le hc2 hc1.size)).trans (Joins.below_le hc3 (hc1.trans (Joins.below_le hc2 hc1.size)).size)).size)).block _ (Array.getElem?_eq_some_iff.1 y1).1).trans y1
  have rw1 := row1.below (((hc1.trans (Joins.below_le hc2 hc1.size)).trans (Joins.below_le hc3 (hc1.trans (Joins.below_le hc2 hc1.size)).size)).trans (Joins.below_le hb47 ((hc1.trans (Joins.below_le hc2 hc1.size)).trans (Joins.below_le hc3 (hc1.trans (Joins.below_le hc2 hc1.size)).size)).size))
  have q2 := (((hc2.trans (Joins.below_le hc3 hc2.size)).trans (Joins.below_le hb47 (hc2.trans (Joins.below_le hc3 hc2.size)).size)).block _ (Array.getElem?_eq_some_iff.1 y2).1).trans y2
  have rw2 := row2.below ((hc2.trans (Joins.below_le hc3 hc2.size)).trans (Joins.below_le hb47 (hc2.trans (Joins.below_le hc3 hc2.size)).size))
  have q3 := ((hc3.trans (Joins.below_le hb47 hc3.size)).block _ (Array.getElem?_eq_some_iff.1 y3).1).trans y3
  have rw3 := row3.below (hc3.trans (Joins.below_le hb47 hc3.size))
  have q4 := (hb47.block _ (Array.getElem?_eq_some_iff.1 y4).1).trans y4
  have rw4 := row4.below hb47
  obtain ⟨b0, o0, nn0, kk0, hv0, -, -, -, f0⟩ := pair_cell rw0.n (i := 0) (p := ⟨⟨#[97]⟩, ⟨#[50]⟩⟩) rfl
  injection hv0 with e1 e2 e3
  subst e1 e2 e3
  rw [Nat.zero_mul, Nat.add_zero] at f0
  have f0' : t7.cell? ⟨b0, o0 + 1, none⟩ = some (.string ⟨#[50]⟩) := f0
  obtain ⟨b1, o1, nn1, kk1, hv1, -, -, -, f1⟩ := pair_cell rw1.n (i := 0) (p := pA) rfl
  injection hv1 with e1 e2 e3
  subst e1 e2 e3
  rw [Nat.zero_mul, Nat.add_zero] at f1
  have f1' : t7.cell? ⟨b1, o1 + 1, none⟩ = some (.string ⟨#[49]⟩) := f1
  clear f0 f1
  have g0 : t7.cell? ⟨u0.heap.size, 1, none⟩ = some (.bool true) := (blk_cells q0).1 1
  have g1 : t7.cell? ⟨u1.heap.size, 1, none⟩ = some (.bool false) := (blk_cells q1).1 1
  have g20 : t7.cell? ⟨u2.heap.size, 0, none⟩ = some (.int .u8 1) := (blk_cells q2).1 0
  have g21 : t7.cell? ⟨u2.heap.size, 1, none⟩ = some (.bool false) := (blk_cells q2).1 1
  have g22 : t7.cell? ⟨u2.heap.size, 2, none⟩ = some (.string ⟨#[]⟩) := (blk_cells q2).1 2
  have g3 : t7.cell? ⟨u3.heap.size, 1, none⟩ = some (.bool true) := (blk_cells q3).1 1
  have g4 : t7.cell? ⟨u4.heap.size, 1, none⟩ = some (.bool false) := (blk_cells q4).1 1
  have sK := size_app K ⟨#[120]⟩
  have sG := size_app G ⟨#[120]⟩
  have hx1 : (⟨#[120]⟩ : ByteArray).size = 1 := rfl
  have cp0 : ∀ W, Calls Try.prog 13 #[.agg #[.int .u8 2, .string ⟨#[]⟩, .string ⟨#[]⟩, .string ⟨#[]⟩, .bool false]] W fun e w' => e = .returned (.int .i64 40) ∧ Below W.heap.size W w' := fun W => by
    have := pcheck_any ⟨2, ⟨#[]⟩, ⟨#[]⟩, ⟨#[]⟩, false⟩ W ⟨by show (0 : Int) ≤ 2; omega, by show (2 : Int) ≤ 255; omega⟩
    rw [show PO.err ⟨2, ⟨#[]⟩, ⟨#[]⟩, ⟨#[]⟩, false⟩ = 40 from rfl] at this
    exact this
  have cp1 : ∀ W, Calls Try.prog 13 #[.agg #[.int .u8 2, .string K, .string G, .string G, .bool false]] W fun e w' => e = .returned (.int .i64 0) ∧ Below W.heap.size W w' := fun W => by
    have := pcheck_any ⟨2, K, G, G, false⟩ W ⟨by show (0 : Int) ≤ 2; omega, by show (2 : Int) ≤ 255; omega⟩
    rw [show PO.err ⟨2, K, G, G, false⟩ = 0 from by rw [err_size rfl, if_neg (by omega)]] at this
    exact this
  have cp2 : ∀ W, Calls Try.prog 13 #[.agg #[.int .u8 2, .string (K ++ ⟨#[120]⟩), .string ⟨#[]⟩, .string ⟨#[]⟩, .bool false]] W fun e w' => e = .returned (.int .i64 40) ∧ Below W.heap.size W w' := fun W => by
    have := pcheck_any ⟨2, (K ++ ⟨#[120]⟩), ⟨#[]⟩, ⟨#[]⟩, false⟩ W ⟨by show (0 : Int) ≤ 2; omega, by show (2 : Int) ≤ 255; omega⟩
    rw [show PO.err ⟨2, (K ++ ⟨#[120]⟩), ⟨#[]⟩, ⟨#[]⟩, false⟩ = 40 from by rw [err_size rfl, if_pos (by omega)]] at this
    exact this
  have cp3 : ∀ W, Calls Try.prog 13 #[.agg #[.int .u8 2, .string ⟨#[97]⟩, .string (G ++ ⟨#[120]⟩), .string ⟨#[]⟩, .bool false]] W fun e w' => e = .returned (.int .i64 40) ∧ Below W.heap.size W w' := fun W => by
    have := pcheck_any ⟨2, ⟨#[97]⟩, (G ++ ⟨#[120]⟩), ⟨#[]⟩, false⟩ W ⟨by show (0 : Int) ≤ 2; omega, by show (2 : Int) ≤ 255; omega⟩
    rw [show PO.err ⟨2, ⟨#[97]⟩, (G ++ ⟨#[120]⟩), ⟨#[]⟩, false⟩ = 40 from by rw [err_size rfl, if_pos (by omega)]] at this
    exact this
  have cp4 : ∀ W, Calls Try.prog 13 #[.agg #[.int .u8 2, .string ⟨#[97]⟩, .string ⟨#[]⟩, .string (G ++ ⟨#[120]⟩), .bool false]] W fun e w' => e = .returned (.int .i64 40) ∧ Below W.heap.size W w' := fun W => by
    have := pcheck_any ⟨2, ⟨#[97]⟩, ⟨#[]⟩, (G ++ ⟨#[120]⟩), false⟩ W ⟨by show (0 : Int) ≤ 2; omega, by show (2 : Int) ≤ 255; omega⟩
    rw [show PO.err ⟨2, ⟨#[97]⟩, ⟨#[]⟩, (G ++ ⟨#[120]⟩), false⟩ = 40 from by rw [err_size rfl, if_pos (by omega)]] at this
    exact this
  have cp5 : ∀ W, Calls Try.prog 13 #[.agg #[.int .u8 0, .string ⟨#[97]⟩, .string ⟨#[]⟩, .string ⟨#[]⟩, .bool false]] W fun e w' => e = .returned (.int .i64 1) ∧ Below W.heap.size W w' := fun W => by
    have := pcheck_any ⟨0, ⟨#[97]⟩, ⟨#[]⟩, ⟨#[]⟩, false⟩ W ⟨by show (0 : Int) ≤ 0; omega, by show (0 : Int) ≤ 255; omega⟩
    rw [show PO.err ⟨0, ⟨#[97]⟩, ⟨#[]⟩, ⟨#[]⟩, false⟩ = 1 from rfl] at this
    exact this
  have cp6 : ∀ W, Calls Try.prog 13 #[.agg #[.int .u8 5, .string ⟨#[97]⟩, .string ⟨#[]⟩, .string ⟨#[]⟩, .bool false]] W fun e w' => e = .returned (.int .i64 1) ∧ Below W.heap.size W w' := fun W => by
    have := pcheck_any ⟨5, ⟨#[97]⟩, ⟨#[]⟩, ⟨#[]⟩, false⟩ W ⟨by show (0 : Int) ≤ 5; omega, by show (5 : Int) ≤ 255; omega⟩
    rw [show PO.err ⟨5, ⟨#[97]⟩, ⟨#[]⟩, ⟨#[]⟩, false⟩ = 1 from rfl] at this
    exact this
  have cl0 : ∀ W, Calls Try.prog 14 #[.string ⟨#[97, 98]⟩, .int .i64 4] W fun e w' => e = .returned (.int .i64 3) ∧ Below W.heap.size W w' := fun W => by
    have := pplace_any ⟨#[97, 98]⟩ 4 W (by decide) (by decide)
    rw [show placeP ⟨#[97, 98]⟩ 4 = 3 from by decide] at this
    exact this
  have cl1 : ∀ W, Calls Try.prog 14 #[.string ⟨#[97, 98]⟩, .int .i64 0] W fun e w' => e = .returned (.int .i64 0) ∧ Below W.heap.size W w' := fun W => by
    have := pplace_any ⟨#[97, 98]⟩ 0 W (by decide) (by decide)
    rw [show placeP ⟨#[97, 98]⟩ 0 = 0 from by decide] at this
    exact this
  have cl2 : ∀ W, Calls Try.prog 14 #[.string ⟨#[]⟩, .int .i64 3] W fun e w' => e = .returned (.int .i64 0) ∧ Below W.heap.size W w' := fun W => by
    have := pplace_any ⟨#[]⟩ 3 W (by decide) (by decide)
    rw [show placeP ⟨#[]⟩ 3 = 0 from by decide] at this
    exact this
  have Hp0 := Lib.hid cp0
  have Hp1 := Lib.hid cp1
  have Hp2 := Lib.hid cp2
  have Hp3 := Lib.hid cp3
  have Hp4 := Lib.hid cp4
  have Hp5 := Lib.hid cp5
  have Hp6 := Lib.hid cp6
  have Hl0 := Lib.hid cl0
  have Hl1 := Lib.hid cl1
  have Hl2 := Lib.hid cl2
  clear cp0 cp1 cp2 cp3 cp4 cp5 cp6 cl0 cl1 cl2
  have HF := Lib.hid (hbw.trans (Joins.below_le hbt7 hbw.size))
  have hbe : Below t7.heap.size t7 t7 := Below.refl _ _
  have h22 := eqS_yes (rfl : (⟨#[]⟩ : ByteArray) = ⟨#[]⟩)
  have h23 := eqS_yes (rfl : (⟨#[49]⟩ : ByteArray) = ⟨#[49]⟩)
  have h24 := eqS_yes (rfl : (⟨#[50]⟩ : ByteArray) = ⟨#[50]⟩)
  go_wp2_with fail
  refine (Hp0.out _).mono ?_
  rintro e z0 ⟨rfl, hz0⟩
  replace hbe := hbe.trans (Joins.below_le hz0 hbe.size)
  clear hz0
  clear g0 g1 g20 g21 g22 g3 g4 f0' f1'
  go_wp2_with fail
  refine (Hp1.out _).mono ?_
  rintro e z1 ⟨rfl, hz1⟩
  replace hbe := hbe.trans (Joins.below_le hz1 hbe.size)
  clear hz1
  go_wp2_with fail
  refine (Hp2.out _).mono ?_
  rintro e z2 ⟨rfl, hz2⟩
  replace hbe := hbe.trans (Joins.below_le hz2 hbe.size)
  clear hz2
  go_wp2_with fail
  refine (Hp3.out _).mono ?_
  rintro e z3 ⟨rfl, hz3⟩
  replace hbe := hbe.trans (Joins.below_le hz3 hbe.size)
  clear hz3
  go_wp2_with fail
  refine (Hp4.out _).mono ?_
  rintro e z4 ⟨rfl, hz4⟩
  replace hbe := hbe.trans (Joins.below_le hz4 hbe.size)
  clear hz4
  go_wp2_with fail
  refine (Hp5.out _).mono ?_
  rintro e z5 ⟨rfl, hz5⟩
  replace hbe := hbe.trans (Joins.below_le hz5 hbe.size)
  clear hz5
  go_wp2_with fail
  refine (Hp6.out _).mono ?_
  rintro e z6 ⟨rfl, hz6⟩
  replace hbe := hbe.trans (Joins.below_le hz6 hbe.size)
  clear hz6
  go_wp2_with fail
  refine (Hl0.out _).mono ?_
  rintro e z7 ⟨rfl, hz7⟩
  replace hbe := hbe.trans (Joins.below_le hz7 hbe.size)
  clear hz7
  go_wp2_with fail
  refine (Hl1.out _).mono ?_
  rintro e z8 ⟨rfl, hz8⟩
  replace hbe := hbe.trans (Joins.below_le hz8 hbe.size)
  clear hz8
  go_wp2_with fail
  refine (Hl2.out _).mono ?_
  rintro e z9 ⟨rfl, hz9⟩
  replace hbe := hbe.trans (Joins.below_le hz9 hbe.size)
  clear hz9
  have HG := Lib.hid (HF.out.trans (Joins.below_le hbe HF.out.size))
  clear hbe
  go_wp2_with fail
  go_ret
  exact ⟨rfl, HG.out⟩
end Go.Proofs.Ytlgjidoehnhnoaa
