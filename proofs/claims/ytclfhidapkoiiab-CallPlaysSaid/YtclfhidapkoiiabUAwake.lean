/-
  The example. No statement is proved here. No condition.
-/
import Derived.Test.YtclfhidapkoiiabUNil
namespace Go.Proofs.Ytclfhidapkoiiab
open Go.RowKit Go.Maps

theorem pnew_ex (life : Int) (w : World) (h1 : 1 ≤ life) (h2 : life ≤ 2047) :
    Calls Try.prog 4 #[.int .i64 life] w fun e w' => ∃ p b, w.heap.size ≤ p ∧ w.heap.size ≤ b ∧ e = .returned (.tuple #[.pointer (some ⟨p, 0, none⟩), .int .i64 0]) ∧ SC w' p b life 0 [] ∧ Below w.heap.size w w' :=
  (pnew_yes life w h1 h2).mono fun _ _ ⟨he, hs, hb⟩ => ⟨_, _, Nat.le_succ _, Nat.le_refl _, he, hs, hb⟩
theorem below_kept {B : Nat} {w w1 w2 : World} {F : Nat → Prop} (h : Below B w w1) (k : Kept w1 w2 F) (hB : B ≤ w.heap.size) (hF : ∀ n, F n → B ≤ n) : Below B w w2 := h.trans (k.below (Nat.le_trans hB h.size) hF)
theorem SC.tlt {w : World} {p b : Nat} {life given : Int} {M : List (Nat × WT)} (h : SC w p b life given M) : ∀ n, TC b M n → n < w.heap.size := fun n hn => by
  rcases hn with rfl | ⟨m, hm, rfl⟩
  · exact h.ltb
  · exact h.ltm hm
theorem own_keep {w1 w2 : World} {B : Nat} {T : TypeId} {v : Value} {l : List WT} {F : Nat → Prop} (h : wtR.Own w1 B T v l) (k : Kept w1 w2 F) (hF : ∀ n, F n → n < B) : wtR.Own w2 B T v l :=
  row_same h fun p hp => k.block p (h.lt p hp).2 fun f => by have h1 := (h.lt p hp).1; have h2 := hF p f; omega
def kA : ByteArray := ⟨#[97]⟩
def kB : ByteArray := ⟨#[98]⟩
def xa (l : Int) (m : Bool) : WT := ⟨3145729, kA, 201, 5, 10, l, m⟩
def xb : WT := ⟨3145730, kB, 201, 6, 12, 12, false⟩
theorem d1 : dueA 14 4 (xa 10 true) = some (xa 14 true) := by kernel_rfl
theorem d2 : dueA 14 4 xb = none := by kernel_rfl
theorem d3 : dueA 14 4 (xa 14 true) = none := by kernel_rfl
theorem o1 : oldA 22 10 (xa 14 true) = some (xa 14 true) := by kernel_rfl
theorem o2 : oldA 22 10 xb = some xb := by kernel_rfl
set_option maxHeartbeats 2000000 in
set_option maxRecDepth 100000 in
theorem awake_any (w : World) : Calls Try.prog 21 #[] w fun e w' => e = .returned (.bool true) ∧ Below w.heap.size w w' := by
  go_enter Try.func21, Try.ntmps21
  go_wp2_with fail
  refine (pnew_ex 3 w (by decide) (by decide)).mono ?_
  rintro e w1 ⟨p, b, hp, hb, rfl, hs1, hb1⟩
  have HS1 := Lib.hid hs1
  have HB1 := Lib.hid hb1
  clear hs1 hb1
  go_wp2_with fail
  refine (pask_yes HS1.out ⟨#[97]⟩ 201 5 10 (by decide) (by decide) (by decide)).mono ?_
  rintro e w2 ⟨he, q1, hq1, hs2, hk2⟩
  have he : e = .returned (.tuple #[.int .i64 3145729, .int .i64 0]) := he
  subst he
  have hs2 : SC w2 p b 3 1 [(q1, xa 10 false)] := hs2
  have hq1 : w.heap.size ≤ q1 := Nat.le_trans HB1.out.size hq1
  have HS2 := Lib.hid hs2
  have HB2 := Lib.hid (below_kept HB1.out hk2 (Nat.le_refl _) fun n hn => by rcases hn with rfl | rfl <;> assumption)
  clear hs2 hk2 HS1 HB1
  go_wp2_with fail
  refine (pask_yes HS2.out ⟨#[98]⟩ 201 6 12 (by decide) (by simp) (by decide)).mono ?_
  rintro e w3 ⟨he, q2, hq2, hs3, hk3⟩
  have he : e = .returned (.tuple #[.int .i64 3145730, .int .i64 0]) := he
  subst he
  have hs3 : SC w3 p b 3 2 [(q1, xa 10 false), (q2, xb)] := hs3
  have hq2 : w.heap.size ≤ q2 := Nat.le_trans HB2.out.size hq2
  have hTC : ∀ (x y : WT) n, TC b [(q1, x), (q2, y)] n → w.heap.size ≤ n := fun x y n hn => by
    rcases hn with rfl | ⟨m, hm, rfl⟩
    · exact hb
    · rcases List.mem_cons.1 hm with rfl | hm
      · exact hq1
      · rw [List.mem_singleton.1 hm]; exact hq2
  have HTC := Lib.hid hTC
  have HS3 := Lib.hid hs3
  have HB3 := Lib.hid (below_kept HB2.out hk3 (Nat.le_refl _) fun n hn => by rcases hn with rfl | rfl <;> assumption)
  clear hs3 hk3 HS2 HB2 hTC
  go_wp2_with fail
  refine (pmark_any HS3.out ⟨#[97]⟩).mono ?_
  rintro e w4 ⟨he, hs4, hk4⟩
  have he : e = .returned (.int .i64 1) := he
  subst he
  have hs4 : SC w4 p b 3 2 [(q1, xa 10 true), (q2, xb)] := hs4
  have HS4 := Lib.hid hs4
  have HB4 := Lib.hid (below_kept HB3.out hk4 (Nat.le_refl _) (HTC.out _ _))
  clear hs4 hk4 HS3 HB3
  go_wp2_with fail
  refine (pdue_any HS4.out 14 4).mono ?_
  rintro e w5 ⟨A, c, he, hO5, hs5, hk5⟩
  have hL5 : (([(q1, xa 10 true), (q2, xb)] : List (Nat × WT)).map (·.2)).filterMap (dueA 14 4) = [xa 14 true] := by simp [d1, d2]
  have hF5 : ([(q1, xa 10 true), (q2, xb)] : List (Nat × WT)).filterMap (leftF false (dueA 14 4)) = [(q1, xa 14 true), (q2, xb)] := by simp [leftF, d1, d2]
  rw [hL5] at he hO5
  rw [hF5] at hs5
  clear hL5 hF5
  have he : e = .returned (.slice A 1 c) := he
  subst he
  have hO5 : wtR.Own w5 w4.heap.size 37 (.slice A 1 c) [xa 14 true] := hO5
  have hs5 : SC w5 p b 3 2 [(q1, xa 14 true), (q2, xb)] := hs5
  have HS5 := Lib.hid hs5
  have HO5 := Lib.hid hO5
  have HT5 : Hid (∀ (x y : WT) n, TC b [(q1, x), (q2, y)] n → n < w4.heap.size) := Lib.hid fun x y n hn => by
    have h1 := HS4.out.ltb
    have h2 := HS4.out.ltm (m := (q1, xa 10 true)) (by simp)
    have h3 := HS4.out.ltm (m := (q2, xb)) (by simp)
    rcases hn with rfl | ⟨m, hm, rfl⟩
    · exact h1
    · rcases List.mem_cons.1 hm with rfl | hm
      · exact h2
      · rw [List.mem_singleton.1 hm]; exact h3
  have HB5 := Lib.hid (below_kept HB4.out hk5 (Nat.le_refl _) (HTC.out _ _))
  clear hs5 hk5 hO5 HS4 HB4
  go_wp2_with fail
  refine (pdue_any HS5.out 14 4).mono ?_
  rintro e w6 ⟨A6, c6, he, -, hs6, hk6⟩
  have hL6 : (([(q1, xa 14 true), (q2, xb)] : List (Nat × WT)).map (·.2)).filterMap (dueA 14 4) = [] := by simp [d3, d2]
  have hF6 : ([(q1, xa 14 true), (q2, xb)] : List (Nat × WT)).filterMap (leftF false (dueA 14 4)) = [(q1, xa 14 true), (q2, xb)] := by simp [leftF, d3, d2]
  rw [hL6] at he
  rw [hF6] at hs6
  clear hL6 hF6
  have he : e = .returned (.slice A6 0 c6) := he
  subst he
  have hs6 : SC w6 p b 3 2 [(q1, xa 14 true), (q2, xb)] := hs6
  have HS6 := Lib.hid hs6
  have HO6 := Lib.hid (own_keep HO5.out hk6 (HT5.out _ _))
  have HB6 := Lib.hid (below_kept HB5.out hk6 (Nat.le_refl _) (HTC.out _ _))
  clear hs6 hk6 HS5 HB5 HO5
  go_wp2_with fail
  refine (pold_any HS6.out 22 10).mono ?_
  rintro e w7 ⟨A7, c7, he, -, hs7, hk7⟩
  have hL7 : (([(q1, xa 14 true), (q2, xb)] : List (Nat × WT)).map (·.2)).filterMap (oldA 22 10) = [xa 14 true, xb] := by simp [o1, o2]
  have hF7 : ([(q1, xa 14 true), (q2, xb)] : List (Nat × WT)).filterMap (leftF true (oldA 22 10)) = [] := by simp [leftF, o1, o2]
  rw [hL7] at he
  rw [hF7] at hs7
  clear hL7 hF7
  have he : e = .returned (.slice A7 2 c7) := he
  subst he
  have hs7 : SC w7 p b 3 2 [] := hs7
  have HS7 := Lib.hid hs7
  have HO7 := Lib.hid (own_keep HO6.out hk7 (HT5.out _ _))
  have HB7 := Lib.hid (below_kept HB6.out hk7 (Nat.le_refl _) (HTC.out _ _))
  clear hs7 hk7 HS6 HB6 HO6
  go_wp2_with fail
  refine (ptell_no HS7.out 3145729 (by simp) (i6_of (by decide) (by decide))).mono ?_
  rintro e w8 ⟨he, hb8⟩
  have he : e = .returned (.tuple #[.agg #[.int .i64 0, .string ⟨#[]⟩, .int .i64 0, .int .i64 0, .int .i64 0, .int .i64 0, .bool false], .bool false]) := he
  subst he
  have hO8 := HO7.out.below hb8
  obtain ⟨g, o, n', k', hv, -, hgl, hcell⟩ := (Rec.Own.n hO8).cell (i := 0) (a := xa 14 true) rfl
  injection hv with v1 v2 v3
  subst v1 v2 v3
  obtain ⟨w9, hw9⟩ : ∃ w9, w9 = w8.alloc (.cells #[.int .i64 0, .string ⟨#[]⟩, .int .i64 0, .int .i64 0, .int .i64 0, .int .i64 0, .bool false] 37) := ⟨_, rfl⟩
  have hb9 : Below w8.heap.size w8 w9 := by rw [hw9]; exact (Below.refl _ _).alloc (Nat.le_refl _) _
  have hce : ∀ r, w9.cell? ⟨g, r, none⟩ = w8.cell? ⟨g, r, none⟩ := fun r => hb9.cell (p := ⟨g, r, none⟩) hgl
  obtain ⟨e0, e1, e2, e3, e4, e5, e6⟩ : w9.cell? ⟨g, o + 0 * 7 + 0, none⟩ = some (.int .i64 3145729) ∧ w9.cell? ⟨g, o + 0 * 7 + 1, none⟩ = some (.string ⟨#[97]⟩) ∧ w9.cell? ⟨g, o + 0 * 7 + 2, none⟩ = some (.int .i64 201) ∧ w9.cell? ⟨g, o + 0 * 7 + 3, none⟩ = some (.int .i64 5) ∧ w9.cell? ⟨g, o + 0 * 7 + 4, none⟩ = some (.int .i64 10) ∧ w9.cell? ⟨g, o + 0 * 7 + 5, none⟩ = some (.int .i64 14) ∧ w9.cell? ⟨g, o + 0 * 7 + 6, none⟩ = some (.bool true) :=
    ⟨(hce _).trans (hcell 0 _ rfl), (hce _).trans (hcell 1 _ rfl), (hce _).trans (hcell 2 _ rfl), (hce _).trans (hcell 3 _ rfl), (hce _).trans (hcell 4 _ rfl), (hce _).trans (hcell 5 _ rfl), (hce _).trans (hcell 6 _ rfl)⟩
  have HF := Lib.hid ((HB7.out.trans (Joins.below_le hb8 HB7.out.size)).trans (Joins.below_le hb9 (Nat.le_trans HB7.out.size hb8.size)))
  have heq := eq_wt (xa 14 true) w9
  have heq : (Op.equalIn 10000 37 (.agg #[.int .i64 3145729, .string ⟨#[97]⟩, .int .i64 201, .int .i64 5, .int .i64 10, .int .i64 14, .bool true]) (.agg #[.int .i64 3145729, .string ⟨#[97]⟩, .int .i64 201, .int .i64 5, .int .i64 10, .int .i64 14, .bool true])).run Try.prog w9 = .ok true w9 := heq
  have HW9 := Lib.hid hw9
  simp only [Nat.zero_mul, Nat.add_zero] at e0 e1 e2 e3 e4 e5 e6
  clear hw9 hce hcell hgl hb8 hb9 hO8 HO7 HS7 HB7 HT5 HTC hp hb hq1 hq2
  go_upto_region 11 with fail
  rw [← HW9.out]
  go_wp2_with fail
  go_ret
  exact ⟨rfl, HF.out⟩
end Go.Proofs.Ytclfhidapkoiiab
