/-
  The walk of the law SealCuts: a sum goes on from any cut; of four texts that come to nothing by exclusive or the sums do. Conditions: the table reads as the program lays it, the bytes lie in memory.
-/
import Derived.Test.YteojnmgpnejamaaDoorNames
import Derived.Deep.RegionHeld3
namespace Go.Proofs.YteojnmgpnejamaaDoor
open Go.RowKit

theorem xor_twice (a x : Nat) : a ^^^ (a ^^^ x) = x := by rw [← Nat.xor_assoc, Nat.xor_self, Nat.zero_xor]
theorem noN_noN (x : Nat) : noN (noN x) = x := by
  have h : ∀ y, noN y = 4294967295 ^^^ y := fun _ => rfl
  rw [h, h]
  exact xor_twice _ _
theorem on_append (r : Nat) (l m : List UInt8) : on r (l ++ m) = on (on r l) m := by unfold on; rw [List.map_append, crc_append]
theorem sum_cut (l : List UInt8) (k : Nat) : sumN (sumN 0 (l.take k)) (l.drop k) = sumN 0 l := by
  unfold sumN
  rw [noN_noN, ← on_append, List.take_append_drop]

/-- three texts, byte by byte by exclusive or -/
def xor3 (a b c : List UInt8) : List UInt8 := List.zipWith (· ^^^ ·) (List.zipWith (· ^^^ ·) a b) c
theorem nat_xor (a b : List UInt8) : (List.zipWith (· ^^^ ·) a b).map UInt8.toNat = List.zipWith (· ^^^ ·) (a.map UInt8.toNat) (b.map UInt8.toNat) := by
  induction a generalizing b with
  | nil => rfl
  | cons x a ih =>
    cases b with
    | nil => rfl
    | cons y b =>
      show (x ^^^ y).toNat :: _ = _
      rw [UInt8.toNat_xor]
      exact congrArg _ (ih b)
theorem on_xor (F : Nat) (a b c : List UInt8) (h1 : a.length = b.length) (h2 : a.length = c.length) : on F (xor3 a b c) = on F a ^^^ on F b ^^^ on F c := by
  unfold on xor3
  rw [nat_xor, nat_xor]
  have e1 := crc_xor (List.zipWith (· ^^^ ·) (a.map UInt8.toNat) (b.map UInt8.toNat)) (c.map UInt8.toNat) (F ^^^ F) F (by simp; omega)
  have e2 := crc_xor (a.map UInt8.toNat) (b.map UInt8.toNat) F F (by simp; exact h1)
  rw [e2, Nat.xor_self, Nat.zero_xor] at e1
  exact e1
theorem four_xor (F x y z : Nat) : (F ^^^ x) ^^^ (F ^^^ y) ^^^ (F ^^^ z) ^^^ (F ^^^ (x ^^^ y ^^^ z)) = 0 := by
  apply Nat.eq_of_testBit_eq
  intro i
  simp only [Nat.testBit_xor, Nat.zero_testBit]
  cases F.testBit i <;> cases x.testBit i <;> cases y.testBit i <;> cases z.testBit i <;> rfl
theorem sums_xor (a b c : List UInt8) (h1 : a.length = b.length) (h2 : a.length = c.length) : sumN 0 a ^^^ sumN 0 b ^^^ sumN 0 c ^^^ sumN 0 (xor3 a b c) = 0 := by
  have e := on_xor (noN 0) a b c h1 h2
  unfold sumN
  rw [e]
  exact four_xor _ _ _ _

theorem bits_xor_u8 (a b : UInt8) : bits .xor .u8 (a.toNat : Int) (b.toNat : Int) = ((a ^^^ b).toNat : Int) := by
  have h1 := a.toNat_lt
  have h2 := b.toNat_lt
  have hx : a.toNat ^^^ b.toNat < 2 ^ 8 := Nat.xor_lt_two_pow h1 h2
  have e1 : (BitVec.ofInt 8 (a.toNat : Int)).toNat = a.toNat := by rw [BitVec.ofInt_natCast, BitVec.toNat_ofNat]; exact Nat.mod_eq_of_lt h1
  have e2 : (BitVec.ofInt 8 (b.toNat : Int)).toNat = b.toNat := by rw [BitVec.ofInt_natCast, BitVec.toNat_ofNat]; exact Nat.mod_eq_of_lt h2
  show IntKind.u8.wrap ((BitVec.ofInt 8 (a.toNat : Int) ^^^ BitVec.ofInt 8 (b.toNat : Int)).toNat : Int) = _
  rw [BitVec.toNat_xor, e1, e2, wrapU8', UInt8.toNat_xor]
  omega

/-- the same, whatever the address is -/
theorem Rd.cutAny {w : World} {B c k : Nat} {A : Option Addr} {l : List UInt8} (h : Rd w B (.slice A l.length c) l) (hk : k ≤ l.length) (A' : Option Addr)
    (hA : A' = A.map (·.add k) ∨ (c = k ∧ A' = A)) : Rd w B (.slice A' (l.length - k) (c - k)) (l.drop k) := by
  have h' := h
  obtain ⟨A0, c', he, h1, h2, h3, h4⟩ := h
  injection he with e1 _ e2
  subst e1
  subst e2
  cases A with
  | none =>
    have hc := h3 rfl
    have hA0 : A' = none := by rcases hA with h | ⟨_, h⟩ <;> simpa using h
    have hl : l = [] := List.eq_nil_of_length_eq_zero (by omega)
    subst hA0
    subst hl
    subst hc
    simpa using Rd.nil w B
  | some ad =>
    by_cases hl : l = []
    · subst hl
      have hk0 : k = 0 := by simpa using hk
      subst hk0
      refine ⟨A', c, by simp, by simp, by omega, ?_, fun hn => absurd (by simp) hn⟩
      intro h0
      rcases hA with h | ⟨_, h⟩ <;> (rw [h0] at h; cases h)
    · obtain ⟨b, o, hb, _, _⟩ := h4 hl
      injection hb with hb
      subst hb
      refine Rd.cut h' hk h1 A' ?_
      rcases hA with h | ⟨h, h0⟩
      · left; rw [h]; simp [plus_zero]
      · right; exact ⟨h, by rw [h0]; simp⟩

/-- a cut from a place on, whatever the address is -/
theorem slice_from_any (A : Option Addr) (len c : Nat) (k : Nat) (hl : k ≤ len) : ∃ A', (∀ W, (Instr.slice 22 (.slice A len c) (some (.int .i64 (k : Int))) none none).run Tryd.prog W = .ok (.slice A' (len - k) (c - k)) W) ∧ (A' = A.map (·.add k) ∨ (c = k ∧ A' = A)) := by
  refine ⟨if c = k then A else A.map (·.add k), fun W => ?_, ?_⟩
  · rw [run_slice_l _ _ _ _ _ elem_bytes .i64 (k : Int) (by omega) (by omega), size_bytes]
    simp only [Result.andThen, sliced, Int.toNat_natCast, Nat.mul_one]
  · by_cases h : c = k
    · right; rw [if_pos h]; exact ⟨h, rfl⟩
    · left; rw [if_neg h]

theorem sliceAt_bytes (W : World) (x : Value) (lo hi mx : Option Value) : (Instr.sliceAt 22 x lo hi mx).run Tryd.prog W = (Instr.slice 22 x lo hi mx).run Tryd.prog W := run_sliceAt_slice _ _ _ _ _ _ elem_bytes

theorem xor3_length (a b c : List UInt8) (h1 : a.length = b.length) (h2 : a.length = c.length) : (xor3 a b c).length = a.length := by
  unfold xor3
  rw [List.length_zipWith, List.length_zipWith]
  omega
theorem xor3_get {a b c : List UInt8} {i : Nat} {x y z : UInt8} (ha : a[i]? = some x) (hb : b[i]? = some y) (hc : c[i]? = some z) : (xor3 a b c)[i]? = some (x ^^^ y ^^^ z) := by
  unfold xor3
  rw [List.getElem?_zipWith, List.getElem?_zipWith, ha, hb, hc]
theorem take_set {xs zs : List UInt8} {r : Nat} {u : UInt8} (h : xs.take r = zs.take r) (hr : r < xs.length) (hz : zs[r]? = some u) : (xs.set r u).take (r + 1) = zs.take (r + 1) := by
  apply List.ext_getElem?
  intro i
  rw [List.getElem?_take, List.getElem?_take]
  by_cases hi : i < r + 1
  · rw [if_pos hi, if_pos hi]
    by_cases he : i = r
    · subst he
      rw [List.getElem?_set_self hr, hz]
    · rw [List.getElem?_set_ne (fun e => he e.symm)]
      have := congrArg (fun l => l[i]?) h
      simp only [List.getElem?_take] at this
      rw [if_pos (by omega), if_pos (by omega)] at this
      exact this
  · rw [if_neg hi, if_neg hi]
theorem BS_set (xs : List UInt8) (r : Nat) (u : UInt8) : BS (xs.set r u) = (BS xs).set r (.int .u8 (u.toNat : Int)) := by unfold BS; rw [List.map_set]

/-- where the cut is -/
def cutAt (n : Int) (len : Nat) : Nat := ((n % 18446744073709551616) % ((len : Int) + 1)).toNat
theorem cutAt_le (n : Int) (len : Nat) : cutAt n len ≤ len := by
  unfold cutAt
  have h := Int.emod_lt_of_pos (n % 18446744073709551616) (show (0 : Int) < (len : Int) + 1 by omega)
  omega

theorem cutAt_is (n : Int) (len : Nat) (hl : len ≤ 140737488351232) : wrap64 ((IntKind.u64.wrap n).tmod ((len : Int) + 1)) = (cutAt n len : Int) := by
  rw [IntKind.wrap_u64, Int.tmod_eq_emod_of_nonneg (Int.emod_nonneg _ (by decide))]
  have h1 := Int.emod_lt_of_pos (n % 18446744073709551616) (show (0 : Int) < (len : Int) + 1 by omega)
  have h0 := Int.emod_nonneg (n % 18446744073709551616) (show (len : Int) + 1 ≠ 0 by omega)
  unfold cutAt
  generalize (n % 18446744073709551616) % ((len : Int) + 1) = r at h0 h1
  unfold wrap64
  omega

set_option maxRecDepth 100000 in
set_option maxHeartbeats 4000000 in
theorem cuts_walk (l la lc : List UInt8) (x : Value) (n : Int) (y z : Value) (w : World) (ht : Tab w) (hx : Rd w w.heap.size x l) (hy : Rd w w.heap.size y la) (hz : Rd w w.heap.size z lc) (hl : l.length ≤ 140737488351232) (hla : la.length ≤ 140737488351232) (hlc : lc.length ≤ 140737488351232) :
    Calls Tryd.prog 8 #[x, .int .i64 n, y, z] w fun e w' => e = .returned (.bool true) ∧ Below w.heap.size w w' := by
  have HX := Lib.hid hx
  have HY := Lib.hid hy
  have HZ := Lib.hid hz
  obtain ⟨A, c, rfl, -⟩ := hx
  obtain ⟨A2, c2, rfl, -⟩ := hy
  obtain ⟨A3, c3, rfl, -⟩ := hz
  by_cases hbig : 5000 < l.length
  · have t1 : ((5000 : Int) < (l.length : Int)) = True := by simp; omega
    go_enter Tryd.func8, Tryd.ntmps8
    go_wp2_with fail
    refine (awake_any _ ht).mono ?_
    rintro e w1 ⟨rfl, hb1⟩
    go_wp2_with fail
    go_ret
    exact ⟨rfl, hb1⟩
  · have t1 : ((5000 : Int) < (l.length : Int)) = False := by simp; omega
    have hkk := cutAt_is n l.length (by omega)
    have hkl := cutAt_le n l.length
    obtain ⟨k, hk⟩ : ∃ k, k = cutAt n l.length := ⟨_, rfl⟩
    rw [← hk] at hkk hkl
    clear hk
    obtain ⟨Ak, hsk, hAk⟩ := slice_from_any A l.length c k hkl
    have rk := Rd.cutAny HX.out hkl Ak hAk
    have rt := Rd.takeAny HX.out hkl
    have hcl : l.length ≤ c := by
      obtain ⟨_, _, he, h1, _⟩ := HX.out
      injection he with _ _ e
      omega
    have hkc : (k : Int) ≤ (c : Int) := by omega
    have hkl2 : (k : Int) ≤ (l.length : Int) := by omega
    have hk0 : (0 : Int) ≤ (k : Int) := by omega
    have hst : ∀ W, (Instr.sliceAt 22 (.slice A l.length c) none (some (.int .i64 (k : Int))) none).run Tryd.prog W = .ok (.slice A k c) W := fun W => (sliceAt_bytes W _ _ _ _).trans (slice_till W _ _ _ _ k rfl (by omega))
    have hsk2 : ∀ W, (Instr.sliceAt 22 (.slice A l.length c) (some (.int .i64 (k : Int))) none none).run Tryd.prog W = .ok (.slice Ak (l.length - k) (c - k)) W := fun W => (sliceAt_bytes W _ _ _ _).trans (hsk W)
    clear hsk
    have HAK := Lib.hid hAk
    have hcut := sum_cut l k
    have HCUT := Lib.hid hcut
    clear hAk hcut
    go_enter Tryd.func8, Tryd.ntmps8
    go_wp2_with fail
    refine (awake_any _ ht).mono ?_
    rintro e w1 ⟨rfl, hb1⟩
    go_wp2_with fail
    rw [hkk]
    have hb := hb1.drew
    clear hb1
    have cA : ∀ W, Below w.heap.size w W → _ := fun W hW => sum_any (l.take k) _ W (ht.below hW ht.1) (rt.below hW hW.size) (by rw [List.length_take]; omega)
    have cB : ∀ W, Below w.heap.size w W → _ := fun W hW => more_any (l.drop k) _ (sumN 0 (l.take k)) W (sumN_lt _ (by decide)) (ht.below hW ht.1) (rk.below hW hW.size) (by rw [List.length_drop]; omega)
    have cC : ∀ W, Below w.heap.size w W → _ := fun W hW => sum_any l _ W (ht.below hW ht.1) (HX.out.below hW hW.size) (by omega)
    go_region_held3 (fun w' => Below w.heap.size w w') (exact hb)
      (first
        | (go_at_call 12; refine (cB _ hb).mono ?_; rintro e wy ⟨rfl, hby⟩; replace hb := hb.trans (hby.mono hb.size))
        | (go_at_call 10; refine (cA _ hb).mono ?_; rintro e wy ⟨rfl, hby⟩; replace hb := hb.trans (hby.mono hb.size))
        | (go_at_call 10; refine (cC _ hb).mono ?_; rintro e wy ⟨rfl, hby⟩; replace hb := hb.trans (hby.mono hb.size)))
    all_goals
      rw [HCUT.out]
      clear cA cB cC hst hsk2 rk rt
      obtain ⟨x0, hx0⟩ : ∃ x0, x0 = sumN 0 l := ⟨_, rfl⟩
      rw [← hx0]
      have hneq : (((x0 : Nat) : Int) != ((x0 : Nat) : Int)) = false := by simp
      clear hx0
      obtain ⟨N, hN⟩ : ∃ N, N = min (min la.length l.length) lc.length := ⟨_, rfl⟩
      have hmin : (if (lc.length : Int) < (if l.length < la.length then (l.length : Int) else (la.length : Int)) then (lc.length : Int) else (if l.length < la.length then (l.length : Int) else (la.length : Int))) = (N : Int) := by
        rw [hN]
        split <;> split <;> omega
      have hNa : N ≤ la.length := by omega
      have hNl : N ≤ l.length := by omega
      have hNc : N ≤ lc.length := by omega
      clear hN
      go_upto_region 7 with fail
      rw [hneq]
      clear hmin
      obtain ⟨w2, hmk, ho2, hb2⟩ := made_noughts wy N (by omega)
      have hGw : w.heap.size ≤ wy.heap.size := hb.size
      obtain ⟨G, hG⟩ : ∃ G, G = wy.heap.size := ⟨_, rfl⟩
      rw [← hG] at hmk ho2 hGw
      replace hb := hb.trans (hb2.mono hb.size)
      clear hG hb2
      obtain ⟨zs, hzs⟩ : ∃ zs, zs = xor3 (la.take N) (l.take N) (lc.take N) := ⟨_, rfl⟩
      have hta : (la.take N).length = N := by rw [List.length_take]; omega
      have htl : (l.take N).length = N := by rw [List.length_take]; omega
      have htc : (lc.take N).length = N := by rw [List.length_take]; omega
      have hzl : zs.length = N := by rw [hzs, xor3_length _ _ _ (hta.trans htl.symm) (hta.trans htc.symm), hta]
      have hzero := sums_xor (la.take N) (l.take N) (lc.take N) (hta.trans htl.symm) (hta.trans htc.symm)
      have HZS := Lib.hid hzs
      have HZL := Lib.hid hzl
      have HZERO := Lib.hid hzero
      clear hzs hzl hzero hta htl htc
      go_wp2_with fail
      go_loopw [12] (fun i wr => ∃ (r : Nat) (xs : List UInt8), i = .int .i64 r ∧ r ≤ N ∧ Hid (xs.length = N ∧ xs.take r = zs.take r) ∧ wr.ownsRow G 5 1 (.slice (some ⟨G, 0, none⟩) N N) N (BS xs) ∧ Below w.heap.size w wr) (fun i _ => N - (intOf i).toNat)
      case atStart => exact ⟨0, List.replicate N 0, rfl, by omega, ⟨by simp, rfl⟩, ho2, hb⟩
      case round =>
        obtain ⟨r, xs, rfl, hr, hxs, hox, hbr⟩ := hrel
        clear hb ho2
        by_cases hrN : r < N
        · have hr1 : (r : Int) < (N : Int) := by omega
          have hr2 : (r : Int) < (la.length : Int) := by omega
          have hr3 : (r : Int) < (l.length : Int) := by omega
          have hr4 : (r : Int) < (lc.length : Int) := by omega
          have hr0 : (0 : Int) ≤ (r : Int) := by omega
          obtain ⟨b1, o1, d1, e1, -, -, hB1⟩ := HX.out.open (by omega)
          injection e1 with e1 _ e1'
          subst e1
          subst e1'
          obtain ⟨b2, o2, d2, e2, -, -, hB2⟩ := HY.out.open (by omega)
          injection e2 with e2 _ e2'
          subst e2
          subst e2'
          obtain ⟨b3, o3, d3, e3, -, -, hB3⟩ := HZ.out.open (by omega)
          injection e3 with e3 _ e3'
          subst e3
          subst e3'
          have k1 := (hbr.cell (p := ⟨b1, o1 + r, none⟩) hB1).trans (byteAt_cell HX.out (i := r) (by omega))
          have k2 := (hbr.cell (p := ⟨b2, o2 + r, none⟩) hB2).trans (byteAt_cell HY.out (i := r) (by omega))
          have k3 := (hbr.cell (p := ⟨b3, o3 + r, none⟩) hB3).trans (byteAt_cell HZ.out (i := r) (by omega))
          have hxy := bits_xor_u8 (la.getD r 0) (l.getD r 0)
          have hxyz := bits_xor_u8 (la.getD r 0 ^^^ l.getD r 0) (lc.getD r 0)
          have hst := hox.stored r (.int .u8 ((la.getD r 0 ^^^ l.getD r 0 ^^^ lc.getD r 0).toNat : Int))
          have hz : zs[r]? = some (la.getD r 0 ^^^ l.getD r 0 ^^^ lc.getD r 0) := by
            rw [HZS.out]
            refine xor3_get ?_ ?_ ?_
            all_goals rw [List.getElem?_take, if_pos hrN]
            · rw [List.getElem?_eq_getElem (show r < la.length by omega)]; simp [List.getD, (show r < la.length by omega)]
            · rw [List.getElem?_eq_getElem (show r < l.length by omega)]; simp [List.getD, (show r < l.length by omega)]
            · rw [List.getElem?_eq_getElem (show r < lc.length by omega)]; simp [List.getD, (show r < lc.length by omega)]
          rw [← BS_set] at hst
          have hxl := hxs.out.1
          have hnew : Hid ((xs.set r (la.getD r 0 ^^^ l.getD r 0 ^^^ lc.getD r 0)).length = N ∧ (xs.set r (la.getD r 0 ^^^ l.getD r 0 ^^^ lc.getD r 0)).take (r + 1) = zs.take (r + 1)) :=
            ⟨by rw [List.length_set]; exact hxl, take_set hxs.out.2 (by omega) hz⟩
          have hcg : wr.cell? ⟨G, r, none⟩ = some (.int .u8 ((xs.getD r 0).toNat : Int)) := by
            rw [hox.cellAt r (by omega)]
            unfold BS
            rw [List.getElem?_map, List.getElem?_eq_getElem (show r < xs.length by omega)]
            simp [List.getD, (show r < xs.length by omega)]
          have hfg : wr.frozen? ⟨G, r, none⟩ = false := hox.frozenAt r
          have hbs := hbr.setCell (p := ⟨G, r, none⟩) hGw (.int .u8 ((la.getD r 0 ^^^ l.getD r 0 ^^^ lc.getD r 0).toNat : Int))
          unfold byteAt at k1 k2 k3
          obtain ⟨u, hu⟩ : ∃ u, u = la.getD r 0 ^^^ l.getD r 0 ^^^ lc.getD r 0 := ⟨_, rfl⟩
          rw [← hu] at hxyz hst hnew hbs
          obtain ⟨u1, hu1⟩ : ∃ u1, u1 = la.getD r 0 ^^^ l.getD r 0 := ⟨_, rfl⟩
          rw [← hu1] at hxy hxyz
          obtain ⟨q1, hq1⟩ : ∃ q1, q1 = l.getD r 0 := ⟨_, rfl⟩
          obtain ⟨q2, hq2⟩ : ∃ q2, q2 = la.getD r 0 := ⟨_, rfl⟩
          obtain ⟨q3, hq3⟩ : ∃ q3, q3 = lc.getD r 0 := ⟨_, rfl⟩
          obtain ⟨q4, hq4⟩ : ∃ q4, q4 = xs.getD r 0 := ⟨_, rfl⟩
          rw [← hq1] at k1 hxy
          rw [← hq2] at k2 hxy
          rw [← hq3] at k3 hxyz
          rw [← hq4] at hcg
          have HST := Lib.hid hst
          clear hq1 hq2 hq3 hq4 hu hu1 hz hst hxs hxl
          go_wp2_with fail
          go_region
          all_goals go_wp2_with fail
          all_goals exact ⟨⟨r + 1, _, by go_num, hrN, hnew, HST.out.1.drew, hbs.drew⟩, by simp [intOf]; omega⟩
        · have hr1 : ¬ (r : Int) < (N : Int) := by omega
          obtain rfl : r = N := by omega
          have hxe : xs = zs := by
            have h := hxs.out.2
            rw [List.take_of_length_le (by rw [hxs.out.1]; exact Nat.le_refl _), List.take_of_length_le (by rw [HZL.out]; exact Nat.le_refl _)] at h
            exact h
          subst hxe
          have hca : la.length ≤ c2 := by
            obtain ⟨_, _, he, h1, _⟩ := HY.out
            injection he with _ _ e
            omega
          have hcc : lc.length ≤ c3 := by
            obtain ⟨_, _, he, h1, _⟩ := HZ.out
            injection he with _ _ e
            omega
          have g1 : (r : Int) ≤ (c : Int) := by omega
          have g2 : (r : Int) ≤ (c2 : Int) := by omega
          have g3 : (r : Int) ≤ (c3 : Int) := by omega
          have g0 : (0 : Int) ≤ (r : Int) := by omega
          have hs1 : ∀ W, (Instr.sliceAt 22 (.slice A l.length c) none (some (.int .i64 (r : Int))) none).run Tryd.prog W = .ok (.slice A r c) W := fun W => (sliceAt_bytes W _ _ _ _).trans (slice_till W _ _ _ _ r rfl (by omega))
          have hs2 : ∀ W, (Instr.sliceAt 22 (.slice A2 la.length c2) none (some (.int .i64 (r : Int))) none).run Tryd.prog W = .ok (.slice A2 r c2) W := fun W => (sliceAt_bytes W _ _ _ _).trans (slice_till W _ _ _ _ r rfl (by omega))
          have hs3 : ∀ W, (Instr.sliceAt 22 (.slice A3 lc.length c3) none (some (.int .i64 (r : Int))) none).run Tryd.prog W = .ok (.slice A3 r c3) W := fun W => (sliceAt_bytes W _ _ _ _).trans (slice_till W _ _ _ _ r rfl (by omega))
          have low : ∀ W, Below wr.heap.size wr W → Below w.heap.size w W := fun W hW => hbr.trans (hW.mono hbr.size)
          have cA : ∀ W, Below wr.heap.size wr W → _ := fun W hW => sum_any (la.take r) _ W (ht.below (low W hW) ht.1) ((Rd.takeAny HY.out hNa).below (low W hW) (low W hW).size) (by rw [List.length_take]; omega)
          have cB : ∀ W, Below wr.heap.size wr W → _ := fun W hW => sum_any (l.take r) _ W (ht.below (low W hW) ht.1) ((Rd.takeAny HX.out hNl).below (low W hW) (low W hW).size) (by rw [List.length_take]; omega)
          have cC : ∀ W, Below wr.heap.size wr W → _ := fun W hW => sum_any (lc.take r) _ W (ht.below (low W hW) ht.1) ((Rd.takeAny HZ.out hNc).below (low W hW) (low W hW).size) (by rw [List.length_take]; omega)
          have cD : ∀ W, Below wr.heap.size wr W → _ := fun W hW => sum_any xs _ W (ht.below (low W hW) ht.1) ((Rd.own hox).below hW hW.size) (by rw [HZL.out]; omega)
          have hzero := HZERO.out
          rw [← HZS.out] at hzero
          have lA := sumN_lt (s := 0) (la.take r) (by decide)
          have lB := sumN_lt (s := 0) (l.take r) (by decide)
          have lC := sumN_lt (s := 0) (lc.take r) (by decide)
          have lD := sumN_lt (s := 0) xs (by decide)
          obtain ⟨X1, hX1⟩ : ∃ X, X = sumN 0 (la.take r) := ⟨_, rfl⟩
          obtain ⟨X2, hX2⟩ : ∃ X, X = sumN 0 (l.take r) := ⟨_, rfl⟩
          obtain ⟨X3, hX3⟩ : ∃ X, X = sumN 0 (lc.take r) := ⟨_, rfl⟩
          obtain ⟨X4, hX4⟩ : ∃ X, X = sumN 0 xs := ⟨_, rfl⟩
          rw [← hX1, ← hX2, ← hX3, ← hX4] at hzero
          rw [← hX1] at cA lA
          rw [← hX2] at cB lB
          rw [← hX3] at cC lC
          rw [← hX4] at cD lD
          have y1 := bits_xor_u32 X1 X2 lA lB
          have l2 : X1 ^^^ X2 < 4294967296 := Nat.xor_lt_two_pow (n := 32) lA lB
          have y2 := bits_xor_u32 (X1 ^^^ X2) X3 l2 lC
          have l3 : X1 ^^^ X2 ^^^ X3 < 4294967296 := Nat.xor_lt_two_pow (n := 32) l2 lC
          have y3 := bits_xor_u32 (X1 ^^^ X2 ^^^ X3) X4 l3 lD
          rw [hzero] at y3
          obtain ⟨Y1, hY1⟩ : ∃ Y, Y = X1 ^^^ X2 := ⟨_, rfl⟩
          rw [← hY1] at y1 y2 y3
          obtain ⟨Y2, hY2⟩ : ∃ Y, Y = Y1 ^^^ X3 := ⟨_, rfl⟩
          rw [← hY2] at y2 y3
          have LOW := Lib.hid low
          clear hX1 hX2 hX3 hX4 hY1 hY2 hzero lA lB lC lD l2 l3 hxs low
          go_upto_region 12 with fail
          have hq : Below wr.heap.size wr wr.drew := (Below.refl _ _).drew
          go_region_held3 (fun w' => Below wr.heap.size wr w') (exact hq)
            (first
              | (go_at_call 10; refine (cA _ hq).mono ?_; rintro e wy ⟨rfl, hby⟩; replace hq := hq.trans (hby.mono hq.size))
              | (go_at_call 10; refine (cB _ hq).mono ?_; rintro e wy ⟨rfl, hby⟩; replace hq := hq.trans (hby.mono hq.size))
              | (go_at_call 10; refine (cC _ hq).mono ?_; rintro e wy ⟨rfl, hby⟩; replace hq := hq.trans (hby.mono hq.size))
              | (go_at_call 10; refine (cD _ hq).mono ?_; rintro e wy ⟨rfl, hby⟩; replace hq := hq.trans (hby.mono hq.size)))
          all_goals go_wp2_with fail
          all_goals go_ret
          all_goals exact ⟨rfl, LOW.out _ hq⟩
end Go.Proofs.YteojnmgpnejamaaDoor
