/-
  What each function of the document's answer for layer 1 (package butteryref01) that writes comes to: the new slice holds what was handed in and the bytes behind it, and nothing that was there has turned. Conditions: lengths within the memory that a call may have.
-/
import Derived.Test.YtblbcoknefgcaaaCode
import Derived.Test.YtblbcoknefgcaaaReaderC
namespace Go.Proofs.Ytblbcoknefgcaaa
open Go.RowKit

theorem conv_bytes (bs : ByteArray) (W : World) (hs : bs.size ≤ 140737488355328) : ∃ A c W', (convert 9 23 (.string bs)).run Try.prog W = .ok (.slice A bs.size c) W' ∧
    Rd W' W'.heap.size (.slice A bs.size c) bs.data.toList ∧ W.grownBy W' none ∧ W'.heap.size = W.heap.size + 1 := by
  have hrun := run_bytes_of_string (P := Try.prog) W 9 23 5 bs Try.underlying9 Try.underlying23 Try.underlying5
  refine ⟨_, _, _, hrun, ?_, ?_, by simp⟩
  · have hl : bs.data.toList.length = bs.size := by simp
    refine ⟨_, _, by rw [hl], by rw [hl]; exact grownCap_ge _ _ _ _, grownCap_le_maxLen _ _ _ _ (by unfold maxLen; omega), (fun h => by cases h), fun _ => ⟨W.heap.size, 0, rfl, by simp, fun i x hx => ?_⟩⟩
    have h1 := World.cell?_alloc_mark W.drew (bytesRow bs (grownCap W bs.size 0 5)) 5 ((bytesRow bs (grownCap W bs.size 0 5)).size, (bytesRow bs (grownCap W bs.size 0 5)).size + 1) i
    have hi : i < bs.size := by
      rw [← hl]
      exact (List.getElem?_eq_some_iff.1 hx).1
    have h2 : (bytesRow bs (grownCap W bs.size 0 5))[i]? = some (.int .u8 (x.toNat : Int)) := by
      unfold bytesRow
      rw [Array.getElem?_append_left (by simpa using hi), Array.getElem?_map]
      have : bs.data[i]? = some x := by rw [← hx]; simp
      rw [this]
      rfl
    rw [Nat.zero_add]
    exact h1.trans h2
  · exact ⟨rfl, rfl, rfl, by simp, fun k hk _ => heap_alloc_old W.drew _ hk⟩

/-! ### Of nil -/
set_option maxHeartbeats 400000 in
theorem with_any (l m : List UInt8) (b c : Value) (w : World) (hb : Rd w w.heap.size b l) (hc : Rd w w.heap.size c m) (hl : l.length + m.length ≤ 140737488355328) :
    Calls Try.prog 98 #[b, c] w fun e w' => ∃ v', e = .returned v' ∧ w'.ownsRow w.heap.size 5 1 v' (l ++ m).length (BS (l ++ m)) ∧ Below w.heap.size w w' := by
  obtain ⟨i0, hi, hz0, hz1, hz2⟩ := info_parts info_u8
  have HB := Lib.hid hb
  have HC := Lib.hid hc
  obtain ⟨A, ca, rfl, -⟩ := hb
  obtain ⟨A2, cb, rfl, -⟩ := hc
  have hlit : (w.alloc (.cells #[] 5)).ownsRow w.heap.size 5 1 (.slice (some ⟨w.heap.size, 0, none⟩) 0 0) 0 (BS []) := World.ownsRow_lit w #[] 0 (Nat.le_refl _) (by unfold maxLen; omega) rfl
  have hbl : Below w.heap.size w (w.alloc (.cells #[] 5)) := (Below.refl _ _).alloc (Nat.le_refl _) _
  have hr0 : Rd (w.alloc (.cells #[] 5)) (w.heap.size + 1) (.slice A l.length ca) l := HB.out.below hbl (by omega)
  go_enter Try.func98, Try.ntmps98
  go_wp2_with (first
    | (at_builtin; refine wpList_app rfl (.tmp 6) (.tmp 7) 23 rfl w.heap.size 5 i0 Try.underlying23 hi hz0 hz1 hz2 _ _ [] l 0 rfl rfl hlit _ hr0 (by simp only [List.length_nil]; omega) (by simp) ?_; intro v1 y1 ho1 hg1; have hb1' := hbl.grown hg1 hbl.size (fun k h => (hlit.lt k h).1))
    | (at_builtin; refine wpList_app rfl (.tmp 9) (.tmp 10) 23 rfl w.heap.size 5 i0 Try.underlying23 hi hz0 hz1 hz2 _ _ _ m _ rfl rfl ho1 _ (HC.out.below hb1' hb1'.size) (by simp only [List.nil_append]; omega) hb1'.size ?_; intro v2 y2 ho2 hg2; have hb2' := hb1'.grown hg2 hb1'.size (fun k h => (ho1.lt k h).1)))
  go_ret
  exact ⟨_, rfl, own_as ho2 (by simp) rfl, hb2'⟩

theorem byte_sum (q : Nat) : (q : Int) % 128 + 128 = ((UInt8.ofNat (q % 128 + 128)).toNat : Int) := by rw [UInt8.toNat_ofNat']; omega

set_option maxRecDepth 100000 in
set_option maxHeartbeats 400000 in
theorem uint_any (u : Nat) (w : World) (hu : U64 u) :
    Calls Try.prog 99 #[.int .u64 u] w fun e w' => ∃ v', e = .returned v' ∧ w'.ownsRow w.heap.size 5 1 v' (uv u).length (BS (uv u)) ∧ Below w.heap.size w w' := by
  obtain ⟨i0, hi, hz0, hz1, hz2⟩ := info_parts info_u8
  go_enter Try.func99, Try.ntmps99
  go_wp2
  go_loopw [0, 3] (fun x s wr => ∃ (q : Nat) (d : List UInt8), x = .int .u64 q ∧ U64 q ∧ Hid (uv u = d ++ uv q) ∧ wr.ownsRow w.heap.size 5 1 s d.length (BS d) ∧ Below w.heap.size w wr) (fun x _ _ => (intOf x).toNat)
  case atStart => exact ⟨u, [], rfl, hu, rfl, World.ownsRow_nil _ _ _ _, Below.refl _ _⟩
  case round =>
    obtain ⟨q, d, rfl, hq, he, ho, hb⟩ := hrel
    have hd : d.length + 1 ≤ 10 := by
      have h1 := uv_length64 u hu
      have h2 := uv_pos q
      rw [he.out, List.length_append] at h1
      omega
    have hsz := hb.size
    by_cases hs : q < 128
    · have hs' : ¬ (128 : Int) ≤ (q : Int) := by omega
      have hx := byte_of q hs
      have HX := Lib.hid hx
      clear hx
      go_wp2_with (at_builtin; go_must (refine wpList_app rfl (.tmp 15) (.tmp 18) 23 rfl w.heap.size 5 i0 Try.underlying23 hi hz0 hz1 hz2 _ _ d [UInt8.ofNat q] _ rfl rfl (ho.alloc _) (wr.heap.size + 1) (Rd.lit wr _ _ _ HX.out) (by simp only [List.length_cons, List.length_nil]; omega) (by simp; omega) ?_; intro v1 w1 hown1 hgrow1))
      go_ret
      exact ⟨_, rfl, own_as hown1 (by rw [he.out, uv_small hs]) (by rw [he.out, uv_small hs]), (hb.alloc (by omega) _).grown hgrow1 (by simp; omega) (fun k hk => (ho.lt k hk).1)⟩
    · have hs' : (128 : Int) ≤ (q : Int) := by omega
      have hx := byte_sum q
      have HX := Lib.hid hx
      have hqq : IntKind.u64.wrap ((q : Int) / 128) = ((q / 128 : Nat) : Int) := by
        unfold U64 at hq
        rw [wrapU64]
        omega
      have HQ := Lib.hid hqq
      clear hx hqq
      go_wp2_with (at_builtin; go_must (refine wpList_app rfl (.tmp 6) (.tmp 11) 23 rfl w.heap.size 5 i0 Try.underlying23 hi hz0 hz1 hz2 _ _ d [UInt8.ofNat (q % 128 + 128)] _ rfl rfl (ho.alloc _) (wr.heap.size + 1) (Rd.lit wr _ _ _ HX.out) (by simp only [List.length_cons, List.length_nil]; omega) (by simp; omega) ?_; intro v1 w1 hown1 hgrow1))
      refine ⟨⟨q / 128, d ++ [UInt8.ofNat (q % 128 + 128)], congrArg (Value.int .u64) HQ.out, by unfold U64 at hq ⊢; omega, ?_, own_as hown1 rfl (by simp), (hb.alloc (by omega) _).grown hgrow1 (by simp; omega) (fun k hk => (ho.lt k hk).1)⟩, by simp only [intOf, HQ.out]; omega⟩
      exact (by rw [he.out, uv_large (by omega), List.append_assoc]; rfl : uv u = (d ++ [UInt8.ofNat (q % 128 + 128)]) ++ uv (q / 128))

theorem ref_neg (n : Int) (h : I64 n) (h0 : n < 0) : IntKind.u64.wrap (IntKind.u64.wrap (IntKind.u64.wrap (wrap64 (-wrap64 (n + 1))) * 2) + 1) = (zz n : Int) := by
  rw [← fold_neg n h h0, Int.mul_comm]
theorem ref_pos (n : Int) (h : I64 n) (h0 : ¬ n < 0) : IntKind.u64.wrap (IntKind.u64.wrap n * 2) = (zz n : Int) := by
  rw [← fold_pos n h h0, Int.mul_comm]

set_option maxHeartbeats 400000 in
theorem xnum_any (l : List UInt8) (b : Value) (n : Int) (w : World) (hb : Rd w w.heap.size b l) (hn : I64 n) (hl : l.length ≤ 140737488355318) :
    Calls Try.prog 97 #[b, .int .i64 n] w fun e w' => ∃ v', e = .returned v' ∧ w'.ownsRow w.heap.size 5 1 v' (l ++ uv (zz n)).length (BS (l ++ uv (zz n))) ∧ Below w.heap.size w w' := by
  have hz := zz_fits n hn
  have hzl := uv_length64 _ hz
  by_cases h : n < 0
  · have hE := ref_neg n hn h
    have HE := Lib.hid hE
    clear hE
    go_enter Try.func97, Try.ntmps97
    go_wp2_with fail
    rw [HE.out]
    refine (uint_any (zz n) _ hz).mono ?_
    rintro e w1 ⟨v1, rfl, ho1, hb1⟩
    go_wp2_with fail
    refine (with_any l (uv (zz n)) b v1 _ (hb.below hb1 hb1.size) (Rd.own ho1) (by omega)).mono ?_
    rintro e w2 ⟨v2, rfl, ho2, hb2⟩
    go_wp2_with fail
    go_ret
    exact ⟨_, rfl, World.ownsRow.mono ho2 hb1.size, hb1.trans (hb2.mono hb1.size)⟩
  · have hE := ref_pos n hn h
    have HE := Lib.hid hE
    clear hE
    have h' : 0 ≤ n := by omega
    go_enter Try.func97, Try.ntmps97
    go_wp2_with fail
    rw [HE.out]
    refine (uint_any (zz n) _ hz).mono ?_
    rintro e w1 ⟨v1, rfl, ho1, hb1⟩
    go_wp2_with fail
    refine (with_any l (uv (zz n)) b v1 _ (hb.below hb1 hb1.size) (Rd.own ho1) (by omega)).mono ?_
    rintro e w2 ⟨v2, rfl, ho2, hb2⟩
    go_wp2_with fail
    go_ret
    exact ⟨_, rfl, World.ownsRow.mono ho2 hb1.size, hb1.trans (hb2.mono hb1.size)⟩

set_option maxHeartbeats 400000 in
theorem xcount_any (l : List UInt8) (b : Value) (n : Int) (w : World) (hb : Rd w w.heap.size b l) (h0 : 0 ≤ n) (h1 : n ≤ 2147483647) (hl : l.length ≤ 140737488355318) :
    Calls Try.prog 48 #[b, .int .i64 n] w fun e w' => ∃ v', e = .returned v' ∧ w'.ownsRow w.heap.size 5 1 v' (l ++ uv n.toNat).length (BS (l ++ uv n.toNat)) ∧ Below w.heap.size w w' := by
  obtain ⟨k, rfl⟩ := Int.eq_ofNat_of_zero_le h0
  have hz : U64 k := by unfold U64; omega
  have hzl := uv_length64 _ hz
  have ha : ¬ (k : Int) < 0 := by omega
  have hbb : ¬ (2147483647 : Int) < (k : Int) := by omega
  go_enter Try.func48, Try.ntmps48
  go_wp2_with fail
  refine (uint_any k _ hz).mono ?_
  rintro e w1 ⟨v1, rfl, ho1, hb1⟩
  go_wp2_with fail
  refine (with_any l (uv k) b v1 _ (hb.below hb1 hb1.size) (Rd.own ho1) (by omega)).mono ?_
  rintro e w2 ⟨v2, rfl, ho2, hb2⟩
  go_wp2_with fail
  go_ret
  exact ⟨_, rfl, World.ownsRow.mono ho2 hb1.size, hb1.trans (hb2.mono hb1.size)⟩

theorem xcount_no (l : List UInt8) (b : Value) (n : Int) (w : World) (hb : Rd w w.heap.size b l) (h : n < 0 ∨ 2147483647 < n) (hl : l.length ≤ 140737488355318) :
    Calls Try.prog 48 #[b, .int .i64 n] w fun e w' => ∃ v', e = .returned v' ∧ w'.ownsRow w.heap.size 5 1 v' l.length (BS l) ∧ Below w.heap.size w w' := by
  have hw := with_any l [] b (.slice none 0 0) w hb (Rd.nil _ _) (by simp only [List.length_nil]; omega)
  rw [List.append_nil] at hw
  by_cases ha : n < 0
  · go_enter Try.func48, Try.ntmps48
    go_wp2_with fail
    refine hw.mono ?_
    rintro e w1 ⟨v1, rfl, ho1, hb1⟩
    clear hw
    go_wp2_with fail
    go_ret
    exact ⟨_, rfl, ho1, hb1⟩
  · have hb : (2147483647 : Int) < n := by omega
    go_enter Try.func48, Try.ntmps48
    go_wp2_with fail
    refine hw.mono ?_
    rintro e w1 ⟨v1, rfl, ho1, hb1⟩
    clear hw
    go_wp2_with fail
    go_ret
    exact ⟨_, rfl, ho1, hb1⟩

set_option maxHeartbeats 400000 in
theorem xstr_any (l : List UInt8) (b : Value) (s : ByteArray) (w : World) (hb : Rd w w.heap.size b l) (h1 : s.size ≤ 2147483647) (hl : l.length + s.size ≤ 140737488355318) :
    Calls Try.prog 45 #[b, .string s] w fun e w' => ∃ v', e = .returned v' ∧ w'.ownsRow w.heap.size 5 1 v' (l ++ tv s.data.toList).length (BS (l ++ tv s.data.toList)) ∧ Below w.heap.size w w' := by
  have hsl : s.data.toList.length = s.size := by simp
  have hu := uv_length64 s.size (by unfold U64; omega)
  have htv : (l ++ uv s.size) ++ s.data.toList = l ++ tv s.data.toList := by unfold tv; rw [hsl, List.append_assoc]
  have HT := Lib.hid htv
  have HS := Lib.hid hsl
  clear htv hsl
  go_enter Try.func45, Try.ntmps45
  go_wp2_with fail
  refine (xcount_any l b (s.size : Int) _ hb (by omega) (by omega) (by omega)).mono ?_
  rintro e w1 ⟨v1, rfl, ho1, hb1⟩
  rw [show ((s.size : Int)).toNat = s.size by omega] at ho1
  obtain ⟨A, c, W2, hrun, hrd, hgr, hsz2⟩ := conv_bytes s w1 (by omega)
  have hb2 := hb1.grown hgr hb1.size (fun k h => by cases h)
  have hrd1 : Rd W2 W2.heap.size v1 (l ++ uv s.size) := (Rd.own ho1).keep (by omega) fun p hp => World.cell?_of_block (hgr.block p.block hp (by simp))
  clear hgr hsz2 ho1
  go_wp2_with fail
  refine (with_any (l ++ uv s.size) s.data.toList v1 _ _ hrd1 hrd (by rw [HS.out, List.length_append]; omega)).mono ?_
  rintro e w3 ⟨v3, rfl, ho3, hb3⟩
  rw [HT.out] at ho3
  clear hrun
  go_wp2_with fail
  go_ret
  exact ⟨_, rfl, World.ownsRow.mono ho3 hb2.size, hb2.trans (hb3.mono hb2.size)⟩

set_option maxHeartbeats 400000 in
theorem xflag_any (l : List UInt8) (b : Value) (t : Bool) (w : World) (hb : Rd w w.heap.size b l) (hl : l.length ≤ 140737488355318) :
    Calls Try.prog 46 #[b, .bool t] w fun e w' => ∃ v', e = .returned v' ∧ w'.ownsRow w.heap.size 5 1 v' (l ++ fv t).length (BS (l ++ fv t)) ∧ Below w.heap.size w w' := by
  cases t
  · go_enter Try.func46, Try.ntmps46
    go_wp2_with fail
    refine (with_any l [0] b _ _ (hb.below ((Below.refl _ _).alloc (Nat.le_refl _) _) (by simp)) ((Rd.lit w 5 0 0 rfl).keep (by simp) fun _ _ => rfl) (by simp only [List.length_cons, List.length_nil]; omega)).mono ?_
    rintro e w2 ⟨v2, rfl, ho2, hb2⟩
    go_wp2_with fail
    go_ret
    exact ⟨_, rfl, World.ownsRow.mono ho2 (by simp), ((Below.refl _ _).alloc (Nat.le_refl _) _).trans (hb2.mono (by simp))⟩
  · go_enter Try.func46, Try.ntmps46
    go_wp2_with fail
    refine (with_any l [1] b _ _ (hb.below ((Below.refl _ _).alloc (Nat.le_refl _) _) (by simp)) ((Rd.lit w 5 1 1 rfl).keep (by simp) fun _ _ => rfl) (by simp only [List.length_cons, List.length_nil]; omega)).mono ?_
    rintro e w2 ⟨v2, rfl, ho2, hb2⟩
    go_wp2_with fail
    go_ret
    exact ⟨_, rfl, World.ownsRow.mono ho2 (by simp), ((Below.refl _ _).alloc (Nat.le_refl _) _).trans (hb2.mono (by simp))⟩
end Go.Proofs.Ytblbcoknefgcaaa
