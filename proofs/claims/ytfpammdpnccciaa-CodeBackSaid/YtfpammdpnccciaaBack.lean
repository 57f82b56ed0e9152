/-
  The walk of the law CodeBack: what was written, one behind the other, is read so, and then nothing is left; of bytes cut short the reader has failed. No condition but that the numbers fit their kinds.
-/
import Derived.Test.YtfpammdpnccciaaWorks
import Derived.Test.YtfpammdpnccciaaPlainC
namespace Go.Proofs.Ytfpammdpnccciaa
open Go.RowKit

/-- 'c & (1 << 31 - 1)' -/
theorem and_bounds (c : Int) : 0 ≤ bits BinOp.and IntKind.i64 c 2147483647 ∧ bits BinOp.and IntKind.i64 c 2147483647 ≤ 2147483647 := by
  have e : bits BinOp.and IntKind.i64 c 2147483647 = IntKind.i64.wrap (((BitVec.ofInt 64 c).toNat &&& 2147483647 : Nat) : Int) := rfl
  have h : (BitVec.ofInt 64 c).toNat &&& 2147483647 ≤ 2147483647 := Nat.and_le_right
  rw [e, IntKind.wrap_i64]
  omega

theorem str_back (s : ByteArray) : (⟨s.data.toList.toArray⟩ : ByteArray) = s := by cases s; simp

/-- 'int(uint(cut) % uint(len(b)))' -/
theorem cut_index (cut : Int) (len : Nat) (h0 : 0 < len) (h1 : len ≤ 1048700) : ∃ k : Nat, k < len ∧ wrap64 ((IntKind.u64.wrap cut).tmod (len : Int)) = (k : Int) := by
  have hw : 0 ≤ IntKind.u64.wrap cut := by rw [wrapU64]; omega
  rw [Int.tmod_eq_emod_of_nonneg hw]
  have h2 := Int.emod_nonneg (IntKind.u64.wrap cut) (show (len : Int) ≠ 0 by omega)
  have h3 := Int.emod_lt_of_pos (IntKind.u64.wrap cut) (show (0 : Int) < (len : Int) by omega)
  refine ⟨(IntKind.u64.wrap cut % (len : Int)).toNat, by omega, ?_⟩
  rw [IntWalk.wrap64_in _ ⟨by omega, by omega⟩]
  omega

/-- the law's four readings -/
def chain (most : Int) (p : Option (List UInt8)) : Option (List UInt8) := (told false gFlag (told [] (gStr most) (told 0 (gCount 2147483647) (told 0 gNum p).2).2).2).2

theorem chain_short {most : Int} {p x : List UInt8} (h : chain most (some (p ++ x)) = some []) (hx : x ≠ []) : chain most (some p) = none := by
  cases hp : chain most (some p) with
  | none => rfl
  | some t =>
    exfalso
    unfold chain at h hp
    obtain ⟨l3, h3⟩ := told_went hp
    obtain ⟨l2, h2⟩ := told_went h3
    obtain ⟨l1, h1⟩ := told_went h2
    rw [h3] at hp
    rw [h2] at h3
    rw [h1] at h2
    rw [told_ext ext_num x h1, told_ext (ext_count _) x h2, told_ext (ext_str _) x h3, told_ext ext_flag x hp] at h
    injection h with h
    exact hx (List.append_eq_nil_iff.1 h).2

set_option maxRecDepth 100000 in
set_option maxHeartbeats 1000000 in
theorem back_walk (n c : Int) (s : ByteArray) (v : Bool) (cut : Int) (hn : I64 n) (w : World) :
    Calls Try.prog 6 #[.int .i64 n, .int .i64 c, .string s, .bool v, .int .i64 cut] w fun e w' => e = .returned (.bool true) ∧ Below w.heap.size w w' := by
  by_cases hlong : 1048576 < s.size
  · have hl' : (1048576 : Int) < (s.size : Int) := by omega
    go_enter Try.func6, Try.ntmps6
    go_wp2_with fail
    refine (works_any _).mono ?_
    rintro e w1 ⟨rfl, hb1⟩
    go_wp2_with fail
    refine (works_any _).mono ?_
    rintro e w2 ⟨rfl, hb2⟩
    go_wp2_with fail
    go_ret
    exact ⟨rfl, hb1.trans (hb2.mono hb1.size)⟩
  · have hl' : ¬ (1048576 : Int) < (s.size : Int) := by omega
    obtain ⟨m, hm⟩ : ∃ m, m = bits BinOp.and IntKind.i64 c 2147483647 := ⟨_, rfl⟩
    obtain ⟨hm0, hm1⟩ := and_bounds c
    rw [← hm] at hm0 hm1
    have HM := Lib.hid hm
    clear hm
    have hsl : s.data.toList.length = s.size := by simp
    have hu1 := uv_length64 _ (zz_fits n hn)
    have hu2 := uv_length64 m.toNat (by unfold U64; omega)
    have hu3 : (tv s.data.toList).length ≤ 10 + s.size := by
      unfold tv
      rw [List.length_append, hsl]
      have := uv_length64 s.size (by unfold U64; omega)
      omega
    obtain ⟨r2, hr2⟩ : ∃ r, r = tv s.data.toList ++ fv v := ⟨_, rfl⟩
    obtain ⟨r1, hr1⟩ : ∃ r, r = uv m.toNat ++ r2 := ⟨_, rfl⟩
    obtain ⟨L, hL⟩ : ∃ L, L = uv (zz n) ++ r1 := ⟨_, rfl⟩
    have hLL : ((([] ++ uv (zz n)) ++ uv m.toNat) ++ tv s.data.toList) ++ fv v = L := by rw [hL, hr1, hr2]; simp only [List.nil_append, List.append_assoc]
    have hlen : L.length ≤ 1048700 ∧ 0 < L.length := by rw [← hLL]; simp only [List.nil_append, List.length_append, fv, List.length_cons, List.length_nil]; omega
    have e1 : told 0 gNum (some L) = (n, some r1) := told_some (by rw [hL]; exact gNum_uv n r1 hn)
    have e2 : told 0 (gCount 2147483647) (some r1) = (m, some r2) := told_some (by rw [hr1]; exact gCount_uv _ m r2 hm0 hm1 hm1)
    have e3 : told [] (gStr (s.size : Int)) (some r2) = (s.data.toList, some (fv v)) := told_some (by rw [hr2]; exact gStr_tv _ _ _ (by omega) (by omega))
    have e4 : told false gFlag (some (fv v)) = (v, some []) := told_some (by have := gFlag_fv v []; rwa [List.append_nil] at this)
    have hch : chain (s.size : Int) (some L) = some [] := by unfold chain; rw [e1]; simp only []; rw [e2]; simp only []; rw [e3]; simp only []; rw [e4]
    have HLL := Lib.hid hLL
    have E1 := Lib.hid e1
    have E2 := Lib.hid e2
    have E3 := Lib.hid e3
    have E4 := Lib.hid e4
    have HCH := Lib.hid hch
    have HSL := Lib.hid hsl
    obtain ⟨hlen1, hlen0⟩ := hlen
    clear hr1 hr2 hL hLL e1 e2 e3 e4 hch hsl
    go_enter Try.func6, Try.ntmps6
    go_wp2_with fail
    refine (works_any _).mono ?_
    rintro e w1 ⟨rfl, hb1⟩
    go_wp2_with fail
    rw [← HM.out]
    refine (num_any [] _ n _ (Rd.nil _ _) hn (by simp)).mono ?_
    rintro e w2 ⟨v2, rfl, ho2, hb2⟩
    have hb2' := hb1.trans (hb2.mono hb1.size)
    have hrd2 := Rd.own ho2
    clear ho2 hb2
    go_wp2_with fail
    refine (count_any _ v2 m _ hrd2 hm0 hm1 (by simp only [List.nil_append]; omega)).mono ?_
    rintro e w3 ⟨v3, rfl, ho3, hb3⟩
    have hb3' := hb2'.trans (hb3.mono hb2'.size)
    have hrd3 := Rd.own ho3
    clear ho3 hb3 hrd2
    go_wp2_with fail
    refine (str_any _ v3 s _ hrd3 (by omega) (by simp only [List.nil_append, List.length_append]; omega)).mono ?_
    rintro e w4 ⟨v4, rfl, ho4, hb4⟩
    have hb4' := hb3'.trans (hb4.mono hb3'.size)
    have hrd4 := Rd.own ho4
    clear ho4 hb4 hrd3
    go_wp2_with fail
    refine (flag_any _ v4 v _ hrd4 (by simp only [List.nil_append, List.length_append]; omega)).mono ?_
    rintro e w5 ⟨v5, rfl, ho5, hb5⟩
    have hb5' := hb4'.trans (hb5.mono hb4'.size)
    have hrd5 := Rd.own ho5
    rw [HLL.out] at hrd5
    have hk5 := hrd5
    obtain ⟨A5, c5, rfl, hlc5, -⟩ := hk5
    clear ho5 hb5 hrd4 hb1 hb2' hb3' hb4'
    go_wp2_with fail
    refine (New_any L _ _ hrd5 (by omega)).mono ?_
    rintro e w6 ⟨R, rfl, hR, hd6, hb6⟩
    have hb6' := hb5'.trans (hb6.mono hb5'.size)
    have HR5 := Lib.hid hrd5
    have HB6 := Lib.hid hb6
    have hRw : w.heap.size ≤ R := Nat.le_trans hb5'.size hR
    clear hb6 hrd5 hb5'
    go_wp2_with fail
    have c1 := Num_any R _ _ hd6
    rw [E1.out] at c1
    refine c1.mono ?_
    rintro e w7 ⟨rfl, hg7, hd7⟩
    clear c1
    go_wp2_with fail
    have c1 := Count_any R 2147483647 _ _ hd7
    rw [E2.out] at c1
    refine c1.mono ?_
    rintro e w8 ⟨rfl, hg8, hd8⟩
    clear c1
    go_wp2_with fail
    have c1 := Str_any R (s.size : Int) _ _ hd8
    rw [E3.out] at c1
    refine c1.mono ?_
    rintro e w9 ⟨he, hg9, hd9⟩
    obtain rfl : e = .returned (.string s) := he.trans (congrArg (fun x => Ending.returned (.string x)) (str_back s))
    clear c1 he
    go_wp2_with fail
    have c1 := Flag_any R _ _ hd9
    rw [E4.out] at c1
    refine c1.mono ?_
    rintro e w10 ⟨rfl, hg10, hd10⟩
    clear c1
    go_wp2_with fail
    refine (done_any R _ _ hd10).mono ?_
    rintro e w11 ⟨rfl, rfl⟩
    have hg := grown_trans (grown_trans hg7 hg8) (grown_trans hg9 hg10)
    have hb10 := hb6'.grown hg hb6'.size (fun k hk => by injection hk with hk; omega)
    have hrd10 : Rd w10 w10.heap.size (.slice A5 L.length c5) L := by
      refine HR5.out.keep (Nat.le_trans HB6.out.size hg.size) fun p hp => ?_
      refine (World.cell?_of_block (hg.block p.block (Nat.lt_of_lt_of_le hp HB6.out.size) ?_)).trans (HB6.out.cell hp)
      intro h
      injection h with h
      omega
    obtain ⟨k, hkl, hk⟩ := cut_index cut L.length hlen0 hlen1
    have hkc : k ≤ c5 := by omega
    have hch : chain (s.size : Int) (some (L.take k)) = none := by
      have h1 := HCH.out
      rw [← List.take_append_drop k L] at h1
      refine chain_short h1 fun h => ?_
      have := congrArg List.length h
      rw [List.length_drop, List.length_nil] at this
      omega
    have HC := Lib.hid hch
    have htk : (L.take k).length ≤ 140737488355328 := by rw [List.length_take]; omega
    have hrt := Rd.takeAny hrd10 (n := k) (by omega)
    clear hch hrd10 hg hg7 hg8 hg9 hg10 hd6 hd7 hd8 hd9 hd10
    go_wp2_with fail
    refine (New_any (L.take k) _ _ hrt htk).mono ?_
    rintro e x1 ⟨S, rfl, hS, hs1, hx1⟩
    have hy1 := hb10.trans (hx1.mono hb10.size)
    have hSw : w.heap.size ≤ S := Nat.le_trans hb10.size hS
    clear hrt hx1 hk
    go_wp2_with fail
    refine (Num_any S _ _ hs1).mono ?_
    rintro e x2 ⟨rfl, hg2, hs2⟩
    go_wp2_with fail
    refine (Count_any S 2147483647 _ _ hs2).mono ?_
    rintro e x3 ⟨rfl, hg3, hs3⟩
    go_wp2_with fail
    refine (Str_any S (s.size : Int) _ _ hs3).mono ?_
    rintro e x4 ⟨rfl, hg4, hs4⟩
    go_wp2_with fail
    refine (Flag_any S _ _ hs4).mono ?_
    rintro e x5 ⟨rfl, hg5, hs5⟩
    have hnone : Rdr 56 x5 S none := by
      have h := hs5
      have h2 := HC.out
      unfold chain at h2
      rw [h2] at h
      exact h
    clear hs1 hs2 hs3 hs4 hs5
    go_wp2_with fail
    refine (ok_any S none _ hnone).mono ?_
    rintro e x6 ⟨rfl, rfl⟩
    go_wp2_with fail
    refine (done_any S none _ hnone).mono ?_
    rintro e x6 ⟨rfl, rfl⟩
    go_wp2_with fail
    go_ret
    have hg := grown_trans (grown_trans hg2 hg3) (grown_trans hg4 hg5)
    exact ⟨rfl, hy1.grown hg hy1.size (fun k hk => by injection hk with hk; omega)⟩
end Go.Proofs.Ytfpammdpnccciaa
