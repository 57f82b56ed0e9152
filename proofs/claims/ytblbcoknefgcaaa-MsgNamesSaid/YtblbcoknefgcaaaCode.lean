/-
  What each function of package code that writes comes to: the new slice holds what was handed in and the bytes behind it, and nothing that was there has turned. Conditions: lengths within the memory that a call may have.
-/
import Derived.Test.YtblbcoknefgcaaaMem
import Derived.Test.YtblbcoknefgcaaaPlain
namespace Go.Proofs.Ytblbcoknefgcaaa
open Go.RowKit

theorem info_u8 : (Try.prog.info? 5).map (fun i => (i.zero, i.size, i.bytes)) = some (some (.int .u8 0), 1, 1) := by kernel_rfl

set_option maxHeartbeats 400000 in
theorem copied_any (l : List UInt8) (v : Value) (more : Int) (w : World) (hr : Rd w w.heap.size v l) (hm0 : 0 ≤ more) (hm : l.length + more ≤ 281474976710656) (hl : l.length ≤ 140737488355328) :
    Calls Try.prog 94 #[v, .int .i64 more] w fun e w' => ∃ v', e = .returned v' ∧ w'.ownsRow w.heap.size 5 1 v' l.length (BS l) ∧ Below w.heap.size w w' := by
  obtain ⟨i0, hi, hz0, hz1, hz2⟩ := info_parts info_u8
  obtain ⟨more, rfl⟩ := Int.eq_ofNat_of_zero_le hm0
  have HR := Lib.hid hr
  obtain ⟨A, c, rfl, h1, h2, h3, h4⟩ := hr
  clear h1 h2 h3 h4
  go_enter Try.func94, Try.ntmps94
  go_wp2_with (first
    | (at_make; refine wpList_make_own _ rfl _ _ 23 rfl w.heap.size 5 i0 (.int .u8 0) 1 Try.underlying23 hi hz0 hz1 .i64 .i64 _ (l.length + more) rfl rfl (by first | rfl | omega) (by rw [hz2]; omega) (by unfold maxLen; omega) (Nat.le_refl _) ?_; intro w0 hown0 hgrow0)
    | (at_builtin; go_must (refine wpList_app rfl _ _ 23 rfl w.heap.size 5 i0 Try.underlying23 hi hz0 hz1 hz2 _ _ [] l 0 rfl rfl hown0 w.heap.size (Rd.below HR.out ((Below.refl _ _).grown hgrow0 (Nat.le_refl _) (fun k h => by cases h)) (Nat.le_refl _)) (by simp; omega) hgrow0.size ?_; intro v1 w1 hown1 hgrow1)))
  go_ret
  exact ⟨_, rfl, by simpa using hown1, ((Below.refl _ _).grown hgrow0 (Nat.le_refl _) (fun k h => by cases h)).grown hgrow1 hgrow0.size (fun k h => (hown0.lt k h).1)⟩

set_option maxRecDepth 100000 in
set_option maxHeartbeats 400000 in
theorem put_any (l : List UInt8) (v : Value) (u : Nat) (n base : Nat) (w : World) (hown : w.ownsRow base 5 1 v n (BS l)) (hbase : base ≤ w.heap.size) (hu : U64 u) (hl : l.length ≤ 140737488355318) :
    Calls Try.prog 157 #[v, .int .u64 u] w fun e w' => ∃ v', e = .returned v' ∧ w'.ownsRow base 5 1 v' (l ++ uv u).length (BS (l ++ uv u)) ∧ Below base w w' := by
  obtain ⟨i0, hi, hz0, hz1, hz2⟩ := info_parts info_u8
  go_enter Try.func157, Try.ntmps157
  go_wp2
  go_loopw [0, 1] (fun s x wr => ∃ (q : Nat) (d : List UInt8), x = .int .u64 q ∧ U64 q ∧ Hid (uv u = d ++ uv q) ∧ wr.ownsRow base 5 1 s (l.length + d.length) (BS (l ++ d)) ∧ Below base w wr) (fun _ x _ => (intOf x).toNat)
  case atStart => exact ⟨u, [], rfl, hu, rfl, own_as hown (by simp) (by simp), Below.refl _ _⟩
  case round =>
    obtain ⟨q, d, rfl, hq, he, ho, hb⟩ := hrel
    have hd : d.length + 1 ≤ 10 := by
      have h1 := uv_length64 u hu
      have h2 := uv_pos q
      rw [he.out, List.length_append] at h1
      omega
    have hsz := hb.size
    by_cases hs : q < 128
    · have hs' : ¬ (128 : Int) ≤ (q : Int) := by omega
      have hx := byte_of q hs
      have HX := Lib.hid hx
      clear hx
      go_wp2_with (at_builtin; go_must (refine wpList_app rfl (.tmp 15) (.tmp 18) 23 rfl base 5 i0 Try.underlying23 hi hz0 hz1 hz2 _ _ (l ++ d) [UInt8.ofNat q] _ rfl rfl (ho.alloc _) (wr.heap.size + 1) (Rd.lit wr _ _ _ HX.out) (by simp only [List.length_append, List.length_cons, List.length_nil]; omega) (by simp; omega) ?_; intro v1 w1 hown1 hgrow1))
      go_ret
      exact ⟨_, rfl, own_as hown1 (by rw [he.out, uv_small hs, List.append_assoc]) (by simp), (hb.alloc (by omega) _).grown hgrow1 (by simp; omega) (fun k hk => (ho.lt k hk).1)⟩
    · have hs' : (128 : Int) ≤ (q : Int) := by omega
      have hx := or128 q
      have HX := Lib.hid hx
      clear hx
      go_wp2_with (at_builtin; go_must (refine wpList_app rfl (.tmp 7) (.tmp 11) 23 rfl base 5 i0 Try.underlying23 hi hz0 hz1 hz2 _ _ (l ++ d) [UInt8.ofNat (q % 128 + 128)] _ rfl rfl (ho.alloc _) (wr.heap.size + 1) (Rd.lit wr _ _ _ HX.out) (by simp only [List.length_append, List.length_cons, List.length_nil]; omega) (by simp; omega) ?_; intro v1 w1 hown1 hgrow1))
      refine ⟨⟨q / 128, d ++ [UInt8.ofNat (q % 128 + 128)], by simp, by unfold U64 at hq ⊢; omega, ?_, own_as hown1 (by rw [List.append_assoc]) (by simp), (hb.alloc (by omega) _).grown hgrow1 (by simp; omega) (fun k hk => (ho.lt k hk).1)⟩, by simp [intOf]; omega⟩
      exact (by rw [he.out, uv_large (by omega), List.append_assoc]; rfl : uv u = (d ++ [UInt8.ofNat (q % 128 + 128)]) ++ uv (q / 128))

set_option maxHeartbeats 400000 in
theorem fold_any (n : Int) (w : World) (hn : I64 n) :
    Calls Try.prog 158 #[.int .i64 n] w fun e w' => e = .returned (.int .u64 (zz n : Int)) ∧ w = w' := by
  by_cases h : n < 0
  · go_enter Try.func158, Try.ntmps158
    go_wp2
    go_ret
    exact ⟨ret_int (fold_neg n hn h), rfl⟩
  · go_enter Try.func158, Try.ntmps158
    go_wp2
    go_ret
    exact ⟨ret_int (fold_pos n hn (by omega)), rfl⟩

set_option maxHeartbeats 400000 in
theorem num_any (l : List UInt8) (v : Value) (n : Int) (w : World) (hr : Rd w w.heap.size v l) (hn : I64 n) (hl : l.length ≤ 140737488355318) :
    Calls Try.prog 155 #[v, .int .i64 n] w fun e w' => ∃ v', e = .returned v' ∧ w'.ownsRow w.heap.size 5 1 v' (l ++ uv (zz n)).length (BS (l ++ uv (zz n))) ∧ Below w.heap.size w w' := by
  have hz := zz_fits n hn
  go_enter Try.func155, Try.ntmps155
  go_wp2_with fail
  refine (copied_any l v 10 _ hr (by omega) (by omega) (by omega)).mono ?_
  rintro e w1 ⟨v1, rfl, ho1, hb1⟩
  go_wp2_with fail
  refine (fold_any n _ hn).mono ?_
  rintro e w2 ⟨rfl, rfl⟩
  go_wp2_with fail
  refine (put_any l v1 (zz n) _ w.heap.size _ ho1 hb1.size hz hl).mono ?_
  rintro e w3 ⟨v3, rfl, ho3, hb3⟩
  go_wp2_with fail
  go_ret
  exact ⟨_, rfl, ho3, hb1.trans hb3⟩

set_option maxHeartbeats 400000 in
theorem count_any (l : List UInt8) (v : Value) (n : Int) (w : World) (hr : Rd w w.heap.size v l) (h0 : 0 ≤ n) (h1 : n ≤ 2147483647) (hl : l.length ≤ 140737488355318) :
    Calls Try.prog 154 #[v, .int .i64 n] w fun e w' => ∃ v', e = .returned v' ∧ w'.ownsRow w.heap.size 5 1 v' (l ++ uv n.toNat).length (BS (l ++ uv n.toNat)) ∧ Below w.heap.size w w' := by
  obtain ⟨k, rfl⟩ := Int.eq_ofNat_of_zero_le h0
  have hz : U64 k := by unfold U64; omega
  have ha : ¬ (k : Int) < 0 := by omega
  have hb : ¬ (2147483647 : Int) < (k : Int) := by omega
  go_enter Try.func154, Try.ntmps154
  go_wp2_with fail
  refine (copied_any l v 10 _ hr (by omega) (by omega) (by omega)).mono ?_
  rintro e w1 ⟨v1, rfl, ho1, hb1⟩
  go_wp2_with fail
  refine (put_any l v1 k _ w.heap.size _ ho1 hb1.size hz hl).mono ?_
  rintro e w3 ⟨v3, rfl, ho3, hb3⟩
  go_wp2_with fail
  go_ret
  exact ⟨_, rfl, by simpa using ho3, hb1.trans hb3⟩

/-- a count that may not be: what was handed in alone -/
theorem count_no (l : List UInt8) (v : Value) (n : Int) (w : World) (hr : Rd w w.heap.size v l) (h : n < 0 ∨ 2147483647 < n) (hl : l.length ≤ 140737488355318) :
    Calls Try.prog 154 #[v, .int .i64 n] w fun e w' => ∃ v', e = .returned v' ∧ w'.ownsRow w.heap.size 5 1 v' l.length (BS l) ∧ Below w.heap.size w w' := by
  by_cases ha : n < 0
  · go_enter Try.func154, Try.ntmps154
    go_wp2_with fail
    refine (copied_any l v 0 _ hr (by omega) (by omega) (by omega)).mono ?_
    rintro e w1 ⟨v1, rfl, ho1, hb1⟩
    go_wp2_with fail
    go_ret
    exact ⟨_, rfl, ho1, hb1⟩
  · have hb : (2147483647 : Int) < n := by omega
    go_enter Try.func154, Try.ntmps154
    go_wp2_with fail
    refine (copied_any l v 0 _ hr (by omega) (by omega) (by omega)).mono ?_
    rintro e w1 ⟨v1, rfl, ho1, hb1⟩
    go_wp2_with fail
    go_ret
    exact ⟨_, rfl, ho1, hb1⟩

/-- a text's bytes -/
def tv (s : List UInt8) : List UInt8 := uv s.length ++ s

set_option maxHeartbeats 400000 in
theorem str_any (l : List UInt8) (v : Value) (s : ByteArray) (w : World) (hr : Rd w w.heap.size v l) (h1 : s.size ≤ 2147483647) (hl : l.length + s.size ≤ 140737488355318) :
    Calls Try.prog 156 #[v, .string s] w fun e w' => ∃ v', e = .returned v' ∧ w'.ownsRow w.heap.size 5 1 v' (l ++ tv s.data.toList).length (BS (l ++ tv s.data.toList)) ∧ Below w.heap.size w w' := by
  obtain ⟨i0, hi, hz0, hz1, hz2⟩ := info_parts info_u8
  have hz : U64 s.size := by unfold U64; omega
  have hb : ¬ (2147483647 : Int) < (s.size : Int) := by omega
  have hu := uv_length64 s.size hz
  have hsl : s.data.toList.length = s.size := by simp
  have HS := Lib.hid hsl
  clear hsl
  go_enter Try.func156, Try.ntmps156
  go_wp2_with fail
  refine (copied_any l v (10 + (s.size : Int)) _ hr (by omega) (by omega) (by omega)).mono ?_
  rintro e w1 ⟨v1, rfl, ho1, hb1⟩
  have hs1 := hb1.size
  go_wp2_with fail
  refine (put_any l v1 s.size _ w.heap.size _ ho1 hb1.size hz (by omega)).mono ?_
  rintro e w3 ⟨v3, rfl, ho3, hb3⟩
  have hs3 := hb3.size
  go_wp2_with (at_builtin; go_must (refine Lib.wpList_append_own_string _ rfl (.tmp 18) (.tmp 19) 23 9 rfl w.heap.size 5 i0 Try.underlying23 Try.underlying9 hi hz0 hz1 hz2 _ _ _ rfl ho3 s rfl (by simp only [List.length_append]; unfold maxLen; omega) (by simp only [List.length_append]; omega) (by omega) ?_; intro v4 w4 ho4 hg4 _))
  go_ret
  refine ⟨_, rfl, ?_, (hb1.trans hb3).grown hg4 (by omega) (fun k hk => (ho3.lt k hk).1)⟩
  have e1 : BS (l ++ uv s.size) ++ Lib.strCells s = BS (l ++ tv s.data.toList) := by
    unfold tv BS Lib.strCells
    rw [HS.out, ← List.append_assoc, List.map_append (l₁ := l ++ uv s.size)]
  rw [e1] at ho4
  exact own_as ho4 rfl rfl

/-- a truth value's byte -/
def fv (t : Bool) : List UInt8 := [if t then 1 else 0]

set_option maxHeartbeats 400000 in
theorem flag_any (l : List UInt8) (v : Value) (t : Bool) (w : World) (hr : Rd w w.heap.size v l) (hl : l.length ≤ 140737488355318) :
    Calls Try.prog 153 #[v, .bool t] w fun e w' => ∃ v', e = .returned v' ∧ w'.ownsRow w.heap.size 5 1 v' (l ++ fv t).length (BS (l ++ fv t)) ∧ Below w.heap.size w w' := by
  obtain ⟨i0, hi, hz0, hz1, hz2⟩ := info_parts info_u8
  cases t
  · go_enter Try.func153, Try.ntmps153
    go_wp2_with fail
    refine (copied_any l v 1 _ hr (by omega) (by omega) (by omega)).mono ?_
    rintro e w1 ⟨v1, rfl, ho1, hb1⟩
    have hs1 := hb1.size
    go_wp2_with (at_builtin; go_must (refine wpList_app rfl (.tmp 8) (.tmp 10) 23 rfl w.heap.size 5 i0 Try.underlying23 hi hz0 hz1 hz2 _ _ l [0] _ rfl rfl (ho1.alloc _) (w1.heap.size + 1) (Rd.lit w1 _ _ _ (by rfl)) (by simp only [List.length_cons, List.length_nil]; omega) (by simp; omega) ?_; intro v2 w2 ho2 hg2))
    go_ret
    exact ⟨_, rfl, own_as ho2 rfl rfl, (hb1.alloc (by omega) _).grown hg2 (by simp; omega) (fun k hk => (ho1.lt k hk).1)⟩
  · go_enter Try.func153, Try.ntmps153
    go_wp2_with fail
    refine (copied_any l v 1 _ hr (by omega) (by omega) (by omega)).mono ?_
    rintro e w1 ⟨v1, rfl, ho1, hb1⟩
    have hs1 := hb1.size
    go_wp2_with (at_builtin; go_must (refine wpList_app rfl (.tmp 8) (.tmp 10) 23 rfl w.heap.size 5 i0 Try.underlying23 hi hz0 hz1 hz2 _ _ l [1] _ rfl rfl (ho1.alloc _) (w1.heap.size + 1) (Rd.lit w1 _ _ _ (by rfl)) (by simp only [List.length_cons, List.length_nil]; omega) (by simp; omega) ?_; intro v2 w2 ho2 hg2))
    go_ret
    exact ⟨_, rfl, own_as ho2 rfl rfl, (hb1.alloc (by omega) _).grown hg2 (by simp; omega) (fun k hk => (ho1.lt k hk).1)⟩
end Go.Proofs.Ytblbcoknefgcaaa
