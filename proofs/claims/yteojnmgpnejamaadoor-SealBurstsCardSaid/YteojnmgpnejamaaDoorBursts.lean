/-
  The walk of the law SealBursts: a frame of which bits are turned, all within 32 that follow one another, is refused. Conditions: the table reads as the program lays it, the body lies in memory.
-/
import Derived.Test.YteojnmgpnejamaaDoorCuts
namespace Go.Proofs.YteojnmgpnejamaaDoor
open Go.RowKit

def nats (l : List UInt8) : List Nat := l.map UInt8.toNat
theorem nats_lt (l : List UInt8) : ∀ x ∈ nats l, x < 256 := fun x hx => by
  obtain ⟨y, _, rfl⟩ := List.mem_map.1 hx
  exact y.toNat_lt
theorem nats_length (l : List UInt8) : (nats l).length = l.length := List.length_map ..
theorem nats_le4 {t : Nat} (h : t < 4294967296) : nats (le4u t) = le4 t := by
  unfold nats le4u le4
  show [(UInt8.ofNat (t % 256)).toNat, (UInt8.ofNat (t / 256 % 256)).toNat, (UInt8.ofNat (t / 65536 % 256)).toNat, (UInt8.ofNat (t / 16777216)).toNat] = _
  rw [toNat_of, toNat_of, toNat_of, toNat_of, Nat.mod_mod, Nat.mod_mod, Nat.mod_mod, Nat.mod_eq_of_lt (show t / 16777216 < 256 by omega)]

/-- The sum of a whole frame comes to one number. -/
theorem frame_crc (k : UInt8) (l : List UInt8) : crc 4294967295 (nats (frame k l)) = stN 32 4294967295 := by
  have hS := sumN_lt (s := 0) (bareOf k l) (by decide)
  have e : nats (frame k l) = nats (bareOf k l) ++ le4 (sumN 0 (bareOf k l)) := by
    unfold frame
    rw [← nats_le4 hS]
    exact List.map_append
  have hno : ∀ y, noN y = 4294967295 ^^^ y := fun _ => rfl
  have hsum : sumN 0 (bareOf k l) = noN (on 4294967295 (bareOf k l)) := rfl
  have hon : on 4294967295 (bareOf k l) = crc 4294967295 (nats (bareOf k l)) := rfl
  rw [hno, hon, Nat.xor_comm] at hsum
  rw [e]
  exact (crc_frame (nats_lt _) hS).2 hsum

/-- BURSTS ARE TOLD. -/
theorem burst_refused {k : UInt8} {l xs : List UInt8} {p u : Nat} (hl : xs.length = (frame k l).length) (hu : u < 2 ^ 32) (h0 : u ≠ 0) (hp : p ≤ 8 * (frame k l).length)
    (h : leN (nats xs) = leN (nats (frame k l)) ^^^ (2 ^ p * u)) : (openedOf xs).1 = 30 ∨ (openedOf xs).1 = 4 := by
  by_cases hf : formOf xs = true
  · by_cases hs : summed xs = true
    · have ho : openedOf xs = (0, xs.getD 0 0, bodyOf xs) := by unfold openedOf; rw [hf, hs]; rfl
      obtain ⟨_, hfr⟩ := frame_opened ho
      have h1 := frame_crc (xs.getD 0 0) (bodyOf xs)
      rw [hfr, ← frame_crc k l] at h1
      exact absurd h1 (crc_burst (nats_lt _) (nats_lt _) (by rw [nats_length, nats_length, hl]) hu h0 (by rw [nats_length]; exact hp) h 4294967295)
    · left
      unfold openedOf
      rw [if_pos hf, if_neg hs]
  · right
    unfold openedOf
    rw [if_neg hf]

/-- the byte with a bit that is turned -/
def flipped (x : UInt8) (j : Nat) : UInt8 := x ^^^ UInt8.ofNat (2 ^ j)
theorem flipped_nat (x : UInt8) {j : Nat} (h : j < 8) : (flipped x j).toNat = x.toNat ^^^ 2 ^ j := by
  unfold flipped
  have : 2 ^ j < 2 ^ 8 := Nat.pow_lt_pow_right (by omega) h
  rw [UInt8.toNat_xor, toNat_of, Nat.mod_eq_of_lt (by omega)]
theorem nats_set (xs : List UInt8) (q : Nat) (y : UInt8) : nats (xs.set q y) = (nats xs).set q y.toNat := by unfold nats; rw [List.map_set]

/-- what the loop over the mask keeps -/
def Turned (F : List UInt8) (P mask i : Nat) (xs : List UInt8) : Prop :=
  xs.length = F.length ∧ leN (nats xs) = leN (nats F) ^^^ (2 ^ P * (mask % 2 ^ i)) ∧ (mask % 2 ^ i = 0 → xs = F)
theorem Turned.start (F : List UInt8) (P mask : Nat) : Turned F P mask 0 F := ⟨rfl, by rw [Nat.pow_zero, Nat.mod_one, Nat.mul_zero, Nat.xor_zero], fun _ => rfl⟩
theorem Turned.skip {F xs : List UInt8} {P mask i : Nat} (h : Turned F P mask i xs) (hb : ¬ mask / 2 ^ i % 2 = 1) : Turned F P mask (i + 1) xs := by
  obtain ⟨h1, h2, h3⟩ := h
  rw [← mask_skip mask i hb] at h2 h3
  exact ⟨h1, h2, h3⟩
theorem mask_more {mask i : Nat} (hb : mask / 2 ^ i % 2 = 1) : mask % 2 ^ (i + 1) ≠ 0 := by
  have h2 : mask % 2 ^ (i + 1) = mask % 2 ^ i + 2 ^ i := by rw [Nat.pow_succ, Nat.mod_mul, hb, Nat.mul_one]
  have := Nat.two_pow_pos i
  omega
theorem Turned.flip {F xs : List UInt8} {P mask i : Nat} (h : Turned F P mask i xs) (hb : mask / 2 ^ i % 2 = 1) (hq : (P + i) / 8 < xs.length) :
    Turned F P mask (i + 1) (xs.set ((P + i) / 8) (flipped (xs.getD ((P + i) / 8) 0) ((P + i) % 8))) := by
  obtain ⟨h1, h2, h3⟩ := h
  refine ⟨by rw [List.length_set]; exact h1, ?_, fun h0 => absurd h0 (mask_more hb)⟩
  have hj : (P + i) % 8 < 8 := Nat.mod_lt _ (by decide)
  rw [nats_set, flipped_nat _ hj]
  have hx : (nats xs)[(P + i) / 8]? = some (xs.getD ((P + i) / 8) 0).toNat := by
    unfold nats
    rw [List.getElem?_map, List.getElem?_eq_getElem hq]
    simp [List.getD, hq]
  rw [leN_flip (nats xs) _ _ _ hx hj (nats_lt _), h2, show 8 * ((P + i) / 8) + (P + i) % 8 = P + i by omega]
  exact mask_step _ mask P i hb

theorem flip_bits (x : UInt8) {j : Nat} (h : j < 8) : bits .xor .u8 (x.toNat : Int) ((2 : Int) ^ j % 256) = ((flipped x j).toNat : Int) := by
  have h2 : 2 ^ j < 2 ^ 8 := Nat.pow_lt_pow_right (by omega) h
  have e : (2 : Int) ^ j % 256 = ((UInt8.ofNat (2 ^ j)).toNat : Int) := by
    rw [toNat_of, show ((2 : Int) ^ j) = ((2 ^ j : Nat) : Int) by simp]
    omega
  rw [e, bits_xor_u8]
  rfl

/-- where the bits begin -/
def placeAt (n : Int) (L : Nat) : Nat := ((n % 18446744073709551616) % (8 * (L : Int))).toNat
theorem placeAt_lt (n : Int) (L : Nat) (h : 0 < L) : placeAt n L < 8 * L := by
  unfold placeAt
  have h1 := Int.emod_lt_of_pos (n % 18446744073709551616) (show (0 : Int) < 8 * (L : Int) by omega)
  have h0 := Int.emod_nonneg (n % 18446744073709551616) (show 8 * (L : Int) ≠ 0 by omega)
  omega
theorem placeAt_is (n : Int) (L : Nat) (h0 : 0 < L) (hl : L ≤ 5007) : wrap64 ((IntKind.u64.wrap n).tmod (8 * (L : Int))) = (placeAt n L : Int) := by
  rw [IntKind.wrap_u64, Int.tmod_eq_emod_of_nonneg (Int.emod_nonneg _ (by decide))]
  have h1 := Int.emod_lt_of_pos (n % 18446744073709551616) (show (0 : Int) < 8 * (L : Int) by omega)
  have h2 := Int.emod_nonneg (n % 18446744073709551616) (show 8 * (L : Int) ≠ 0 by omega)
  unfold placeAt
  generalize (n % 18446744073709551616) % (8 * (L : Int)) = r at h1 h2
  unfold wrap64
  omega

set_option maxRecDepth 100000 in
set_option maxHeartbeats 4000000 in
theorem bursts_walk (k : UInt8) (l : List UInt8) (x : Value) (n : Int) (mask : Nat) (w : World) (ht : Tab w) (hx : Rd w w.heap.size x l) (hl : l.length ≤ 140737488351232) (hm : mask < 4294967296) :
    Calls Tryd.prog 7 #[.int .u8 (k.toNat : Int), x, .int .i64 n, .int .u32 (mask : Int)] w fun e w' => e = .returned (.bool true) ∧ Below w.heap.size w w' := by
  have HX := Lib.hid hx
  obtain ⟨A, c, rfl, -⟩ := hx
  by_cases hbig : 5000 < l.length
  · have t1 : ((5000 : Int) < (l.length : Int)) = True := by simp; omega
    go_enter Tryd.func7, Tryd.ntmps7
    go_wp2_with fail
    refine (awake_any _ ht).mono ?_
    rintro e w1 ⟨rfl, hb1⟩
    go_wp2_with fail
    go_ret
    exact ⟨rfl, hb1⟩
  · have t1 : ((5000 : Int) < (l.length : Int)) = False := by simp; omega
    have hs : sealedOf k l = (0, frame k l) := if_neg (by omega)
    have HS := Lib.hid hs
    clear hs
    go_enter Tryd.func7, Tryd.ntmps7
    go_wp2_with fail
    refine (awake_any _ ht).mono ?_
    rintro e w1 ⟨rfl, hb1⟩
    go_wp2_with fail
    have c1 := seal_any k l _ w1 (ht.below hb1 ht.1) (HX.out.below hb1 hb1.size) (by omega)
    unfold SealedPost at c1
    rw [HS.out] at c1
    refine c1.mono ?_
    rintro e w2 ⟨v2, n2, rfl, ho2, hb2⟩
    have hb := hb1.trans (hb2.mono hb1.size)
    have hgw : w.heap.size ≤ w1.heap.size := hb1.size
    have hFl := frame_length k l
    obtain ⟨F, hF⟩ : ∃ F, F = frame k l := ⟨_, rfl⟩
    rw [← hF] at ho2 hFl
    have ho2' : w2.ownsRow w1.heap.size 5 1 v2 n2 (BS F) := ho2
    clear ho2
    have ho2 := ho2'
    clear ho2'
    obtain ⟨g, cap, rfl, hg, hgw2, -, -⟩ := own_open ho2 (by show 0 < F.length; omega)
    have hn2 := own_count ho2
    subst hn2
    obtain ⟨L, hL⟩ : ∃ L, L = F.length := ⟨_, rfl⟩
    rw [← hL] at hFl ho2 ⊢
    have hgw3 : w.heap.size ≤ g := Nat.le_trans hgw hg
    have hL7 : 7 ≤ L := by omega
    have hL5 : L ≤ 5007 := by omega
    have hpp := placeAt_is n L (by omega) (by omega)
    have hpl := placeAt_lt n L (by omega)
    obtain ⟨P, hP⟩ : ∃ P, P = placeAt n L := ⟨_, rfl⟩
    rw [← hP] at hpp hpl
    have HF := Lib.hid hF
    have HL := Lib.hid hL
    have HFL := Lib.hid hFl
    clear c1 hb1 hb2 hF hL hFl hP
    go_wp2_with fail
    rw [hpp]
    clear hpp
    go_loopw [11, 12] (fun t i wr => ∃ (m : Nat) (tb : Bool) (xs : List UInt8), t = .bool tb ∧ i = .int .i64 m ∧ m ≤ 32 ∧ P + m ≤ 8 * L ∧ Hid (tb = decide (mask % 2 ^ m ≠ 0)) ∧ Hid (Turned F P mask m xs) ∧ wr.ownsRow w1.heap.size 5 1 (.slice (some ⟨g, 0, none⟩) L cap) L (BS xs) ∧ Below w.heap.size w wr) (fun _ i _ => 32 - (intOf i).toNat)
    case atStart => exact ⟨0, false, F, rfl, rfl, by omega, by omega, by unfold Hid; rw [Nat.pow_zero, Nat.mod_one]; rfl, Turned.start F P mask, ho2, hb⟩
    case round =>
      obtain ⟨m, tb, xs, rfl, rfl, hm32, hPm, htb, htu, hox, hbr⟩ := hrel
      clear hb ho2
      by_cases hin : m < 32 ∧ P + m < 8 * L
      · obtain ⟨hi1, hi2⟩ := hin
        have u1 : (m : Int) < 32 := by omega
        have u0 : ¬ (m : Int) < 0 := by omega
        have u2 : (P : Int) + (m : Int) < 8 * (L : Int) := by omega
        have hdiv : (mask : Int) / 2 ^ m = ((mask / 2 ^ m : Nat) : Int) := by simp
        have hb1 := bits_low1 (mask / 2 ^ m) (Nat.lt_of_le_of_lt (Nat.div_le_self _ _) hm)
        obtain ⟨q, hq⟩ : ∃ q, q = mask / 2 ^ m := ⟨_, rfl⟩
        rw [← hq] at hdiv hb1
        have HQ := Lib.hid hq
        clear hq
        by_cases hbit0 : mask / 2 ^ m % 2 = 1
        · have hbit : q % 2 = 1 := by rw [HQ.out]; exact hbit0
          have hb2 : ((((q % 2 : Nat) : Int)) == 1) = true := by rw [hbit]; rfl
          have HB := Lib.hid hbit0
          clear hbit hbit0
          have hxl := htu.out.1
          rw [← HL.out] at hxl
          have hQ : (P + m) / 8 < L := by omega
          have hcell : wr.cell? ⟨g, (P + m) / 8, none⟩ = some (.int .u8 ((xs.getD ((P + m) / 8) 0).toNat : Int)) := by
            rw [hox.cellAt _ (by omega)]
            unfold BS
            rw [List.getElem?_map, List.getElem?_eq_getElem (show (P + m) / 8 < xs.length by omega)]
            simp [List.getD, (show (P + m) / 8 < xs.length by omega)]
          have hfz : wr.frozen? ⟨g, (P + m) / 8, none⟩ = false := hox.frozenAt _
          obtain ⟨x0, hx0⟩ : ∃ x0, x0 = xs.getD ((P + m) / 8) 0 := ⟨_, rfl⟩
          rw [← hx0] at hcell
          have HX0 := Lib.hid hx0
          clear hx0
          go_upto_region 12 with fail
          have hfl := flip_bits x0 (j := (P + m) % 8) (Nat.mod_lt _ (by decide))
          have hst := hox.stored ((P + m) / 8) (.int .u8 ((flipped x0 ((P + m) % 8)).toNat : Int))
          rw [← BS_set] at hst
          have hbs := hbr.setCell (p := ⟨g, (P + m) / 8, none⟩) hgw3 (.int .u8 ((flipped x0 ((P + m) % 8)).toNat : Int))
          have htf := Turned.flip htu.out HB.out (by omega)
          rw [← HX0.out] at htf
          have htb2 : Hid (true = decide (mask % 2 ^ (m + 1) ≠ 0)) := (decide_eq_true (mask_more HB.out)).symm
          have HTF := Lib.hid htf
          have HST := Lib.hid hst.1
          clear htf hst htb htu
          go_region
          all_goals go_wp2_with fail
          all_goals exact ⟨⟨m + 1, true, _, rfl, by go_num, hi1, hi2, htb2, HTF, HST.out.drew, hbs.drew⟩, by simp [intOf]; omega⟩
        · have hb2 : ((((q % 2 : Nat) : Int)) == 1) = false := by
            have hz : q % 2 = 0 := by rw [HQ.out]; have := Nat.mod_two_eq_zero_or_one (mask / 2 ^ m); omega
            rw [hz]
            rfl
          have htu2 := Turned.skip htu.out hbit0
          have htb2 : Hid (tb = decide (mask % 2 ^ (m + 1) ≠ 0)) := by unfold Hid; rw [mask_skip mask m hbit0]; exact htb.out
          have HTU := Lib.hid htu2
          clear hbit0 htu2 htu htb
          go_wp2_with fail
          exact ⟨⟨m + 1, tb, xs, rfl, by go_num, hi1, hi2, htb2, HTU, hox, hbr⟩, by simp [intOf]; omega⟩
      · have hxl := htu.out.1
        rw [← HL.out] at hxl
        have c2 := open_any xs _ wr (ht.below hbr ht.1) (Rd.own hox) (by omega)
        unfold OpenedPost at c2
        have key : (¬ m < 32) ∨ (m < 32 ∧ ¬ P + m < 8 * L) := by omega
        have HOX := Lib.hid hox
        clear hox
        rcases key with hk | ⟨hk, hk2⟩
        case' inl =>
          have u1 : ¬ (m : Int) < 32 := by omega
        case' inr =>
          have u1 : (m : Int) < 32 := by omega
          have u2 : ¬ (P : Int) + (m : Int) < 8 * (L : Int) := by omega
        all_goals
          by_cases hz : mask % 2 ^ m = 0
          · have hxs := htu.out.2.2 hz
            rw [hz] at htb
            have htb' : tb = false := htb.out.trans (by simp)
            subst htb'
            have hl8 : l.length ≤ 8192 := by omega
            have hop : openedOf xs = (0, k, l) := by rw [hxs, HF.out, opened_frame k l hl8]
            rw [hop] at c2
            clear hop hxs htu htb hz
            go_wp2_with fail
            refine c2.mono ?_
            rintro e w5 ⟨v5, n5, rfl, ho5, hb5⟩
            have hb5' := hbr.trans (hb5.mono hbr.size)
            go_wp2_with fail
            refine (same_any l l v5 _ _ (Rd.own ho5) (HX.out.below hb5' hb5'.size) (by omega) (by omega)).mono ?_
            rintro e w6 ⟨rfl, hb6⟩
            rw [show decide (l = l) = true by simp]
            go_wp2_with fail
            go_ret
            exact ⟨rfl, hb5'.trans (hb6.mono hb5'.size)⟩
          · have htb' : tb = true := htb.out.trans (decide_eq_true hz)
            subst htb'
            have hxF : xs.length = (frame k l).length := by rw [← HF.out, ← HL.out]; exact hxl
            have hbu := burst_refused (k := k) (l := l) (xs := xs) (p := P) (u := mask % 2 ^ m) hxF (Nat.lt_of_le_of_lt (Nat.mod_le _ _) hm) hz (by rw [← HF.out, ← HL.out]; omega) (by rw [← HF.out]; exact htu.out.2.1)
            obtain ⟨r, hr⟩ : ∃ r, openedOf xs = r := ⟨_, rfl⟩
            rw [hr] at c2 hbu
            obtain ⟨er, kr, lr⟩ := r
            have hbu' : er = 30 ∨ er = 4 := hbu
            clear hr hbu htu htb hz
            rcases hbu' with rfl | rfl
            all_goals
              go_wp2_with fail
              refine c2.mono ?_
              rintro e w5 ⟨v5, n5, rfl, ho5, hb5⟩
              have hb5' := hbr.trans (hb5.mono hbr.size)
              go_wp2_with fail
              go_ret
              exact ⟨rfl, hb5'⟩
end Go.Proofs.YteojnmgpnejamaaDoor
