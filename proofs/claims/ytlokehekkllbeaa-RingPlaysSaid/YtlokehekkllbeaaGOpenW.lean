/-
  The document's ring (butteryref04): Open, walked. No statement is proved here. Condition: each sector has 512 bytes.
-/
import Derived.Test.YtlokehekkllbeaaGOpen
namespace Go.Proofs.Ytlokehekkllbeaa
open Go.RowKit

theorem drewn_below {B : Nat} {a w : World} (h : Below B a w) (n : Nat) : Below B a (w.drewN n) := ⟨h.os, h.tape, h.output, h.size, h.block⟩
def XOpenPost (w : World) (S : List (List UInt8)) (base : Nat) (e : Ending) (w' : World) : Prop :=
  ∃ x v, e = .returned (.tuple #[.pointer (some ⟨x, 0, none⟩), v]) ∧ Below w.heap.size w w' ∧ XG w' (fun b => w.heap.size ≤ b) x S ⟨0, 0, base, lastIn base (run S S.length (base + 1)), topTo S base S.length⟩ ∧ LL w' v (whole [] (run S S.length (base + 1)))
def OInv (w wr : World) (x : Nat) (S : List (List UInt8)) (base k : Nat) : Prop := Below w.heap.size w wr ∧ XG wr (fun b => w.heap.size ≤ b) x (S.take k) ⟨0, 0, base, base, topTo S base k⟩
def PInv (w2 wr : World) (x : Nat) (S : List (List UInt8)) (N : Nat → Prop) (base k : Nat) (v10 v11 : Value) : Prop := (run S k (base + 1)).length = k ∧ ∃ n10 n11 xs, YSt w2 wr x S ⟨0, 0, base, lastIn base (run S k (base + 1)), topTo S base S.length⟩ N v10 v11 n10 n11 xs (whole [] (run S k (base + 1))) (rest [] (run S k (base + 1)))

set_option maxHeartbeats 8000000 in
set_option maxRecDepth 100000 in
theorem xopen_any (S : List (List UInt8)) (h5 : All512 S) (v : Value) (base : Nat) (w : World) (hv : LL w v S) (hS1 : 1 ≤ S.length) (hS2 : S.length ≤ 65536) (hb : base ≤ 4611686018427387904) :
    Calls Try.prog 8 #[v, .int .i64 (base : Int)] w (XOpenPost w S base) := by
  obtain ⟨A, c, rfl⟩ := hv.slice
  obtain ⟨sn, hsn⟩ : ∃ sn, sn = S.length := ⟨_, rfl⟩
  rw [← hsn] at hv hS1 hS2 ⊢
  have HV := Lib.hid hv
  have H5 := Lib.hid h5
  have HSN := Lib.hid hsn
  clear hv h5 hsn
  go_enter Try.func8, Try.ntmps8
  go_upto_region 2 with fail
  obtain ⟨x, hx⟩ : ∃ x, x = w.heap.size := ⟨_, rfl⟩
  obtain ⟨w1, hw1⟩ : ∃ w1, w1 = w.alloc (.cells #[.slice none 0 0, .int .i64 (base : Int), .int .i64 (base : Int), .int .i64 (base : Int)] 46) := ⟨_, rfl⟩
  rw [← hw1, ← hx]
  have hb1 : Below w.heap.size w w1 := by rw [hw1]; exact (Below.refl _ _).alloc (Nat.le_refl _) _
  have hx1 : w1.heap[x]? = some (.cells #[.slice none 0 0, .int .i64 (base : Int), .int .i64 (base : Int), .int .i64 (base : Int)] 46 (0, 0)) := by rw [hw1, hx]; exact heap_alloc_new _ _
  have hi0 : OInv w w1 x S base 0 := ⟨hb1, .slice none 0 0, [], hx1, World.ownsRow_nil _ _ _ _, Els.nil _ _, by rw [hx]; exact Nat.le_refl _, fun b hb => by cases hb⟩
  have HI0 := Lib.hid hi0
  have HX := Lib.hid hx
  clear hi0 hb1 hx1 hw1 hx
  go_wp2_with fail
  go_loopw [7, 8, 9] (fun i _ _ wr => ∃ k : Nat, i = .int .i64 k ∧ k ≤ sn ∧ Hid (OInv w wr x S base k)) (fun i _ _ _ => sn - (intOf i).toNat)
  case atStart => exact ⟨0, rfl, Nat.zero_le _, HI0⟩
  case round =>
    clear HI0
    obtain ⟨k, rfl, hk, hinv⟩ := hrel
    obtain ⟨wz, hwz⟩ : ∃ wz : World, wz = wr := ⟨_, rfl⟩
    subst hwz
    by_cases hkl : k < sn
    · have i1 : (k : Int) < (sn : Int) := by omega
      have i0 : (0 : Int) ≤ (k : Int) := by omega
      obtain ⟨hbel, vx, xs, hxa⟩ := hinv.out
      obtain ⟨s, hs⟩ : ∃ s, S[k]? = some s := ⟨_, List.getElem?_eq_getElem (by have := HSN.out; omega)⟩
      have hs5 := H5.out.at hs
      have hvz : LL wz (.slice A sn c) S := HV.out.kept (fun _ _ _ => trivial) (fun _ _ _ => trivial) hbel.size (fun b _ hl => hbel.block b hl)
      obtain ⟨bs, os, As, ns, cs, rfl, hcs, hrs⟩ := hvz.at hs
      obtain ⟨bz, oz, Az, nz, cz, hA2, hcz, hrz⟩ := HV.out.at hs
      injection hA2 with hA2
      injection hA2 with e1 e2
      subst e1 e2
      have hbw : bs < w.heap.size := World.block_lt_of_cell? w _ hcz
      have htk : (S.take k).length = k := by rw [List.length_take]; have := HSN.out; omega
      obtain ⟨Ax, cx, rfl⟩ := own_slice hxa.own
      rw [htk] at hxa
      obtain ⟨ib, hib, z0, z1, z2⟩ := info_parts info_BB
      obtain ⟨iu, hiu, u0, u1, u2⟩ := info_parts info_U8
      obtain ⟨A5, n5, c5, w5, A7, c7, w7, hap5, hap7, hsame, hb8, hsz7, hsz8, hxg8⟩ := xlaid hxa htk (by omega) hbel (Nat.le_refl _) hrs hs5 ib hib z0 z1 z2 iu hiu u0 u1 u2
      rw [← take_snoc hs] at hxg8
      have hx0 : wz.cell? ⟨x, 0, none⟩ = some (.slice Ax k cx) := hxa.c0
      have hfz := hxa.fz 0
      have t0 : ∀ W : World, W.heap[x]? = wz.heap[x]? → W.cell? ⟨x, 0, none⟩ = some (.slice Ax k cx) ∧ W.frozen? ⟨x, 0, none⟩ = false := fun W hW => ⟨(World.cell?_of_block (a := ⟨x, 0, none⟩) hW).trans hx0, (row7 (hW.trans hxa.cells)).2 0⟩
      have d0 : wz.drew.cell? ⟨x, 0, none⟩ = some (.slice Ax k cx) := hx0
      have d1 : wz.drew.cell? ⟨bs, os + k, none⟩ = some (.slice As ns cs) := hcs
      have hba : Below wz.heap.size wz (wz.alloc (.cells #[] 5)).drew := ((Below.refl _ _).alloc (Nat.le_refl _) _).drew
      have a0 : (wz.alloc (.cells #[] 5)).drew.cell? ⟨x, 0, none⟩ = some (.slice Ax k cx) := (hba.cell (p := ⟨x, 0, none⟩) hxa.lt).trans hx0
      have a1 : (wz.alloc (.cells #[] 5)).drew.cell? ⟨bs, os + k, none⟩ = some (.slice As ns cs) := (hba.cell (p := ⟨bs, os + k, none⟩) (World.block_lt_of_cell? wz _ hcs)).trans hcs
      have b0 := (t0 w5 (hsame w5 (.inl rfl))).1
      have e0 := (t0 _ (hsame _ (.inr (.inl rfl)))).1
      have f0 := (t0 w7 (hsame w7 (.inr (.inr rfl)))).1
      have f1 := (t0 w7 (hsame w7 (.inr (.inr rfl)))).2
      obtain ⟨w8, hw8⟩ : ∃ w8, w8 = w7.setCell ⟨x, 0, none⟩ (.slice A7 (k + 1) c7) := ⟨_, rfl⟩
      rw [← hw8] at hb8 hxg8
      have HAP5 := Lib.hid hap5
      have HAP7 := Lib.hid hap7
      have HB8 := Lib.hid hb8
      have HXG8 := Lib.hid hxg8
      have HW8 := Lib.hid hw8
      have HS := Lib.hid hs
      have HS5 := Lib.hid hs5
      have hcw8 : w8.cell? ⟨bs, os + k, none⟩ = some (.slice Az nz cz) := (hb8.cell (p := ⟨bs, os + k, none⟩) hbw).trans hcz
      have HCW8 := Lib.hid hcw8
      have hrz8 : Rd w8 w8.heap.size (.slice Az nz cz) s := hrz.below hb8 (by have := hb8.size; omega)
      have cR := xread_any s hs5 _ w8 hrz8 k sn (by omega) hS2
      obtain ⟨o, ho⟩ : ∃ o, o = pcOf s k sn := ⟨_, rfl⟩
      rw [← ho] at cR
      have HO := Lib.hid ho
      have HCR := Lib.hid cR
      clear hap5 hap7 hb8 hxg8 hw8 hs hs5 hcw8 hrz8 ho hvz hrs hsame hxa hbel hba t0 htk hrz hcz hinv cR
      go_upto_region 5 with fail
      go_cut [39] (fun _ wx => wx = w8)
      case first =>
        go_region_law (first | (refine stepApp rfl (.tmp 32) (.tmp 36) 39 rfl _ _ rfl rfl HAP5.out ?_) | (refine stepApp rfl (.tmp 31) (.tmp 38) 28 rfl _ _ rfl rfl HAP7.out ?_))
        all_goals go_wp2_with fail
        all_goals go_meet
        all_goals exact HW8.out.symm
      case rest =>
        obtain ⟨w8, hw8⟩ : ∃ w8' : World, w8' = w8 := ⟨_, rfl⟩
        subst hcut
        subst hw8
        clear d0 d1 a0 a1 b0 e0 f0 f1 hx0 hfz hcs
        have hcs8 := HCW8.out
        have hs8 := HB8.out.size
        go_wp2_with fail
        refine HCR.out.mono ?_
        rintro e w9 ⟨Au, nu, cu, rfl, hrd9, hb9⟩
        obtain ⟨w10, hw10⟩ : ∃ w10, w10 = w9.alloc (.cells #[.int .i64 (numO o : Int), .bool (lastO o), .slice Au nu cu] 49) := ⟨_, rfl⟩
        have hb10 : Below w9.heap.size w9 w10 := by rw [hw10]; exact (Below.refl _ _).alloc (Nat.le_refl _) _
        have hp10 : w10.heap[w9.heap.size]? = some (.cells #[.int .i64 (numO o : Int), .bool (lastO o), .slice Au nu cu] 49 (0, 0)) := by rw [hw10]; exact heap_alloc_new _ _
        have hbw10 := hb9.trans (Joins.below_le hb10 hb9.size)
        have hxg10 := HXG8.out.below hbw10
        have hbel10 : Below w.heap.size w w10 := HB8.out.trans (Joins.below_le hbw10 hs8)
        have htop := topTo_snoc S base k
        rw [List.getD_eq_getElem?_getD, HS.out] at htop
        rw [show (some s).getD [] = s from rfl, ← HSN.out, ← HO.out] at htop
        obtain ⟨pb, hpb⟩ : ∃ pb, pb = w9.heap.size := ⟨_, rfl⟩
        rw [← hpb] at hp10
        have HPB := Lib.hid hpb
        have HW10 := Lib.hid hw10
        have HXG10 := Lib.hid hxg10
        have HBEL10 := Lib.hid hbel10
        have HP10 := Lib.hid hp10
        have HTOP := Lib.hid htop
        clear hrd9 hb9 hb10 hp10 hbw10 hxg10 hbel10 htop hpb hw10 hcs8
        go_upto_region 7 with fail
        rw [← HW10.out, ← HPB.out]
        have p0 : w10.cell? ⟨pb, 0, none⟩ = some (.int .i64 (numO o : Int)) := (row7 HP10.out).1 0
        obtain ⟨vy, ys, hxa10⟩ := HXG10.out
        have p3 : w10.cell? ⟨x, 3, none⟩ = some (.int .i64 (topTo S base k : Int)) := hxa10.c3
        have z3 := hxa10.fz 3
        have HXA10 := Lib.hid hxa10
        clear hxa10
        cases o with
        | none =>
          have hnx : ∀ n, OInv w (w10.drewN n) x S base (k + 1) := fun n => ⟨drewn_below HBEL10.out n, by rw [HTOP.out]; exact HXG10.out.drew n⟩
          have HNX := Lib.hid hnx
          clear hnx
          go_wp2_with fail
          go_quiet (fail)
          replace HNX := Lib.hid (HNX.out nq)
          go_wp2_with fail
          exact ⟨⟨k + 1, by go_num, hkl, HNX⟩, by simp [intOf]; omega⟩
        | some p =>
          have p0' : w10.cell? ⟨pb, 0, none⟩ = some (.int .i64 (p.n : Int)) := p0
          have htop : topTo S base (k + 1) = max (topTo S base k) p.n := HTOP.out
          clear p0
          by_cases hgt : topTo S base k < p.n
          · have j1 : (topTo S base k : Int) < (p.n : Int) := by omega
            have hnx : ∀ n, OInv w ((w10.drewN n).setCell ⟨x, 3, none⟩ (.int .i64 (p.n : Int))) x S base (k + 1) := fun n => ⟨(drewn_below HBEL10.out n).setCell (p := ⟨x, 3, none⟩) (by show w.heap.size ≤ x; rw [HX.out]; exact Nat.le_refl _) _, vy, ys, (HXA10.out.kept (w' := w10.drewN n) (fun _ h _ => h) (Nat.le_refl _) (fun _ _ _ => rfl)).note 3 _ ⟨0, 0, base, base, topTo S base (k + 1)⟩ (by rw [htop, Nat.max_eq_right (Nat.le_of_lt hgt)]; simp)⟩
            have HNX := Lib.hid hnx
            clear hnx htop hgt
            go_wp2_with fail
            go_quiet (fail)
            replace HNX := Lib.hid (HNX.out nq)
            obtain ⟨w11, hw11⟩ : ∃ w11, w11 = w10.drewN nq := ⟨_, rfl⟩
            have r0 : w11.cell? ⟨pb, 0, none⟩ = some (.int .i64 (p.n : Int)) := by rw [hw11]; exact p0'
            have r3 : w11.cell? ⟨x, 3, none⟩ = some (.int .i64 (topTo S base k : Int)) := by rw [hw11]; exact p3
            have y3 : w11.frozen? ⟨x, 3, none⟩ = false := by rw [hw11]; exact z3
            rw [← hw11] at HNX ⊢
            clear hw11
            go_wp2_with fail
            exact ⟨⟨k + 1, by go_num, hkl, HNX⟩, by simp [intOf]; omega⟩
          · have j1 : ¬ (topTo S base k : Int) < (p.n : Int) := by omega
            have hnx : ∀ n, OInv w (w10.drewN n) x S base (k + 1) := fun n => ⟨drewn_below HBEL10.out n, by rw [htop, Nat.max_eq_left (by omega)]; exact HXG10.out.drew n⟩
            have HNX := Lib.hid hnx
            clear hnx htop hgt
            go_wp2_with fail
            go_quiet (fail)
            replace HNX := Lib.hid (HNX.out nq)
            go_wp2_with fail
            exact ⟨⟨k + 1, by go_num, hkl, HNX⟩, by simp [intOf]; omega⟩
    · have i1 : ¬ (k : Int) < (sn : Int) := by omega
      obtain rfl : k = sn := by omega
      obtain ⟨w2, hw2⟩ : ∃ w2 : World, w2 = wz := ⟨_, rfl⟩
      subst hw2
      obtain ⟨hbel, hxg⟩ := hinv.out
      rw [List.take_of_length_le (by rw [← HSN.out]; exact Nat.le_refl _)] at hxg
      obtain ⟨N, hN⟩ : ∃ N : Nat → Prop, N = fun b => w.heap.size ≤ b ∧ b < w2.heap.size := ⟨_, rfl⟩
      have hNl : ∀ b, N b → b < w2.heap.size := fun b h => by rw [hN] at h; exact h.2
      have hNw : ∀ b, N b → w.heap.size ≤ b := fun b h => by rw [hN] at h; exact h.1
      have hxg2 : XG w2 N x S ⟨0, 0, base, base, topTo S base k⟩ := hxg.kept (fun b h hl => by rw [hN]; exact ⟨h, hl⟩) (Nat.le_refl _) (fun _ _ _ => rfl)
      have hp0 : PInv w2 w2 x S N base 0 (.slice none 0 0) (.slice none 0 0) := ⟨rfl, 0, 0, [], by rw [← HSN.out]; exact hxg2, World.ownsRow_nil _ _ _ _, World.ownsRow_nil _ _ _ _, Els.nil _ _, Kept.refl _ _⟩
      have HP0 := Lib.hid hp0
      have HNL := Lib.hid hNl
      have HNW := Lib.hid hNw
      have HBEL := Lib.hid hbel
      have hxl := hNl x hxg2.inx
      clear hp0 hNl hNw hbel hxg hxg2 hinv hN
      go_wp2_with fail
      go_loopw [10, 11, 12, 13, 14, 15] (fun v10 v11 i _ _ _ wr => ∃ j : Nat, i = .int .i64 ((j : Int) + 1) ∧ j ≤ k ∧ Hid (PInv w2 wr x S N base j v10 v11)) (fun _ _ i _ _ _ _ => k + 1 - (intOf i).toNat)
      case atStart => exact ⟨0, rfl, Nat.zero_le _, HP0⟩
      case round =>
        clear HP0
        obtain ⟨j, rfl, hj, hinv⟩ := hrel
        obtain ⟨wy, hwy⟩ : ∃ wy : World, wy = wr := ⟨_, rfl⟩
        subst hwy
        obtain ⟨hlen, n10, n11, xs, hy⟩ := hinv.out
        have hbw : Below w.heap.size w wy := HBEL.out.trans (hy.kept.below HBEL.out.size (fun b hb => by rw [hb]; exact HNW.out x hy.ring.inx))
        by_cases hjl : j < k
        · have i1 : (j : Int) + 1 ≤ (k : Int) := by omega
          have hmod : ((base : Int) + ((j : Int) + 1)).tmod (k : Int) = (((base + 1 + j) % k : Nat) : Int) := by
            rw [show (base : Int) + ((j : Int) + 1) = ((base + 1 + j : Nat) : Int) by omega, Int.tmod_eq_emod_of_nonneg (by omega)]
            exact (Int.natCast_emod _ _).symm
          obtain ⟨at', hat⟩ : ∃ at', at' = (base + 1 + j) % k := ⟨_, rfl⟩
          have hatl : at' < k := by rw [hat]; exact Nat.mod_lt _ (by omega)
          rw [← hat] at hmod
          have a0 : (0 : Int) ≤ (at' : Int) := by omega
          have a1 : (at' : Int) < (k : Int) := by omega
          have hkz : ¬ k = 0 := by omega
          obtain ⟨s, hs⟩ : ∃ s, S[at']? = some s := ⟨_, List.getElem?_eq_getElem (by have := HSN.out; omega)⟩
          have hs5 := H5.out.at hs
          obtain ⟨bs, os, As, ns, cs, rfl, hcs, hrs⟩ := HV.out.at hs
          have hbs : bs < w.heap.size := World.block_lt_of_cell? w _ hcs
          have c0 : wy.cell? ⟨bs, os + at', none⟩ = some (.slice As ns cs) := (hbw.cell (p := ⟨bs, os + at', none⟩) hbs).trans hcs
          have hrsy : Rd wy wy.heap.size (.slice As ns cs) s := hrs.below hbw hbw.size
          have cR := xread_any s hs5 _ wy hrsy at' k (by omega) hS2
          obtain ⟨o, ho⟩ : ∃ o, o = pcOf s at' k := ⟨_, rfl⟩
          rw [← ho] at cR
          have hpa : pcAt S (base + 1 + j) = o.filter fun p => p.n == base + 1 + j := by
            unfold pcAt
            rw [← HSN.out, ← hat, List.getD_eq_getElem?_getD, hs, ho]
            rfl
          have hfi : ∀ p, o = some p → p.data.length ≤ 501 := fun p hp => (pcOf_fine (ho.symm.trans hp)).2.2.2
          have HPA := Lib.hid hpa
          have HFI := Lib.hid hfi
          have HY := Lib.hid hy
          have HBW := Lib.hid hbw
          have HCR := Lib.hid cR
          have HLEN := Lib.hid hlen
          have HATL := Lib.hid hatl
          have jb : (base : Int) ≤ 4611686018427387904 := by omega
          have jj : (j : Int) < 65536 := by omega
          clear hat hs hs5 hcs hrs hrsy cR ho hpa hfi hy hbw hinv hlen hatl
          go_wp2_with fail
          refine HCR.out.mono ?_
          rintro e w9 ⟨Au, nu, cu, rfl, hrd9, hb9⟩
          obtain ⟨w10, hw10⟩ : ∃ w10, w10 = w9.alloc (.cells #[.int .i64 (numO o : Int), .bool (lastO o), .slice Au nu cu] 49) := ⟨_, rfl⟩
          have hb10 : Below w9.heap.size w9 w10 := by rw [hw10]; exact (Below.refl _ _).alloc (Nat.le_refl _) _
          have hp10 : w10.heap[w9.heap.size]? = some (.cells #[.int .i64 (numO o : Int), .bool (lastO o), .slice Au nu cu] 49 (0, 0)) := by rw [hw10]; exact heap_alloc_new _ _
          have hbw10 := hb9.trans (Joins.below_le hb10 hb9.size)
          have hy10 := HY.out.below hbw10
          have hrd10 : Rd w10 w10.heap.size (.slice Au nu cu) (dataO o) := hrd9.rd.below hb10 hb10.size
          obtain ⟨pb, hpb⟩ : ∃ pb, pb = w9.heap.size := ⟨_, rfl⟩
          rw [← hpb] at hp10
          have hpw : w2.heap.size ≤ pb := by rw [hpb]; exact Nat.le_trans HY.out.kept.size hb9.size
          have HPW := Lib.hid hpw
          have HPB := Lib.hid hpb
          have HW10 := Lib.hid hw10
          have HY10 := Lib.hid hy10
          have HP10 := Lib.hid hp10
          have HRD10 := Lib.hid hrd10
          have hb2w : w2.heap.size ≤ w10.heap.size := Nat.le_trans HY.out.kept.size hbw10.size
          clear hrd9 hb9 hb10 hp10 hbw10 hy10 hrd10 hpb hw10 hpw c0
          go_upto_region 16 with fail
          rw [← HW10.out, ← HPB.out]
          have p0 : w10.cell? ⟨pb, 0, none⟩ = some (.int .i64 (numO o : Int)) := (row7 HP10.out).1 0
          have p1 : w10.cell? ⟨pb, 1, none⟩ = some (.bool (lastO o)) := (row7 HP10.out).1 1
          have p2 : w10.cell? ⟨pb, 2, none⟩ = some (.slice Au nu cu) := (row7 HP10.out).1 2
          by_cases hok : ∃ p, o = some p ∧ p.n = base + 1 + j
          · obtain ⟨p, rfl, hpn⟩ := hok
            have hpa : pcAt S (base + 1 + j) = some p := by
              rw [HPA.out]
              exact Option.filter_eq_some_iff.2 ⟨rfl, beq_iff_eq.2 hpn⟩
            have hsn := run_snoc S j (base + 1) HLEN.out
            rw [hpa] at hsn
            have hsn : run S (j + 1) (base + 1) = run S j (base + 1) ++ [p] := hsn
            have hrl : (rest [] (run S j (base + 1))).length ≤ 501 * 65536 := by
              have := rest_length (run S j (base + 1)) (fun y hy => by
                obtain ⟨i, hi, rfl⟩ := List.getElem_of_mem hy
                exact (pcOf_fine (pcAt_of (run_get S j (base + 1) i _ (List.getElem?_eq_getElem hi)))).2.2.2) []
              rw [List.length_nil, HLEN.out] at this
              omega
            have hwl : (whole [] (run S j (base + 1))).length ≤ 65536 := by
              have := whole_length (run S j (base + 1)) []
              rw [HLEN.out] at this
              omega
            obtain ⟨PS, hPS⟩ : ∃ PS, PS = run S j (base + 1) := ⟨_, rfl⟩
            have hy10 := HY10.out
            have hl2 : (run S (j + 1) (base + 1)).length = j + 1 := by rw [hsn, List.length_append, HLEN.out]; rfl
            rw [← hPS] at hsn hrl hwl hy10
            have q0 : w10.cell? ⟨pb, 0, none⟩ = some (.int .i64 (p.n : Int)) := p0
            have q1 : w10.cell? ⟨pb, 1, none⟩ = some (.bool p.last) := p1
            have heq : ((p.n : Int) != (base : Int) + ((j : Int) + 1)) = false := by rw [hpn]; simp; omega
            have hpd := HFI.out p rfl
            have hrow : RowAt w10 (.slice Au nu cu) p.data.length 1 (BS p.data) := Rd.rowAt HRD10.out
            obtain ⟨A11, c11, rfl⟩ := own_slice hy10.row
            obtain ⟨A10, c10, rfl⟩ := own_slice hy10.rows
            have hn11 := own_count hy10.row
            have hn10 : n10 = (whole [] PS).length := by have := hy10.rows.1; have := hy10.els.1; omega
            subst hn11 hn10
            obtain ⟨iu, hiu, u0, u1, u2⟩ := info_parts info_U8
            have HY10' := Lib.hid hy10
            have HROW := Lib.hid hrow
            have HSN1 := Lib.hid hsn
            have HL2 := Lib.hid hl2
            have HPN := Lib.hid hpn
            clear hy10 hrow hsn hl2 hpn hpa hPS p0 p1 HY HRD10 HCR
            go_upto_region 18 with (at_builtin; go_must (refine wpList_appAt rfl (.tmp 101) (.tmp 103) 39 rfl w2.heap.size 5 iu _ 1 1 Try.underlying39 hiu u0 u1 u2 rfl (by decide) _ _ (rest [] PS).length (BS (rest [] PS)) p.data.length (BS p.data) rfl rfl HY10'.out.row HROW.out (BS_one _) (by unfold maxLen; omega) (by omega) hb2w ?_; intro A7 c7 w11 ho7 hg7 hat7))
            rw [← BS_append] at ho7
            have hy11 := HY10'.out.more HNL.out ho7 hg7 hat7
            have hp11 : w11.heap[pb]? = some (.cells #[.int .i64 (p.n : Int), .bool p.last, .slice Au nu cu] 49 (0, 0)) := by
              refine (hg7.block pb (Array.getElem?_eq_some_iff.1 HP10.out).1 (fun e => ?_)).trans HP10.out
              obtain ⟨cur, hcur⟩ := row_type HY10'.out.row e.symm
              have h3 := hcur.symm.trans HP10.out
              injection h3 with h3
              injection h3 with _ h3
              exact absurd h3 (by decide)
            have r0 : w11.cell? ⟨pb, 0, none⟩ = some (.int .i64 (p.n : Int)) := (row7 hp11).1 0
            have r1 : w11.cell? ⟨pb, 1, none⟩ = some (.bool p.last) := (row7 hp11).1 1
            have hs11 := hg7.size
            obtain ⟨m7, hm7⟩ : ∃ m7, m7 = (rest [] PS).length + p.data.length := ⟨_, rfl⟩
            rw [← hm7] at hy11 ⊢
            have HY11 := Lib.hid hy11
            have HP11 := Lib.hid hp11
            clear hy11 hp11 ho7 hg7 hat7 q0 q1 p2 hm7
            cases hbl : p.last with
            | false =>
              have hnx : PInv w2 w11 x S N base (j + 1) (.slice A10 (whole [] PS).length c10) (.slice A7 m7 c7) := by
                refine ⟨HL2.out, (whole [] PS).length, m7, xs, ?_⟩
                rw [HSN1.out, whole_snoc, rest_snoc, lastIn_snoc, hbl]
                exact HY11.out
              have HNX := Lib.hid hnx
              rw [hbl] at r1
              clear hnx hbl
              go_wp2_with fail
              exact ⟨⟨j + 1, by go_num, hjl, HNX⟩, by simp [intOf]; omega⟩
            | true =>
              rw [hbl] at r1
              have HBL := Lib.hid hbl
              clear hbl
              have hb12 : Below w11.heap.size w11 (w11.alloc (.cells #[Value.slice A7 m7 c7] 39)) := (Below.refl _ _).alloc (Nat.le_refl _) _
              have hy12 := HY11.out.below hb12
              have hrow12 : RowAt (w11.alloc (.cells #[Value.slice A7 m7 c7] 39)) (.slice (some ⟨w11.heap.size, 0, none⟩) 1 1) 1 1 [Value.slice A7 m7 c7] := RowAt.of_own (World.ownsRow_lit (base := 0) (e := 39) (size := 1) w11 #[Value.slice A7 m7 c7] 1 (Nat.zero_le _) (by unfold maxLen; omega) rfl)
              have hp12 := (hb12.block pb (Array.getElem?_eq_some_iff.1 HP11.out).1).trans HP11.out
              obtain ⟨ib, hib, z0, z1, z2⟩ := info_parts info_BB
              have HY12 := Lib.hid hy12
              have HROW12 := Lib.hid hrow12
              have HP12 := Lib.hid hp12
              have hbase12 : w2.heap.size ≤ (w11.alloc (.cells #[Value.slice A7 m7 c7] 39)).heap.size := by simp; omega
              clear hy12 hrow12 hp12 hb12 r0
              go_upto_region 20 with (at_builtin; go_must (refine wpList_appAt rfl (.tmp 107) (.tmp 109) 28 rfl w2.heap.size 39 ib _ 1 24 Try.underlying28 hib z0 z1 z2 rfl (by decide) _ _ (whole [] PS).length xs 1 [Value.slice A7 m7 c7] rfl rfl HY12.out.rows HROW12.out (fun u hu => by simp at hu; rw [hu]; rfl) (by unfold maxLen; omega) (by omega) hbase12 ?_; intro A9 c9 w13 ho9 hg9 hat9))
              have hy13 := HY12.out.push HNL.out rfl ho9 hg9
              have hp13 : w13.heap[pb]? = some (.cells #[.int .i64 (p.n : Int), .bool p.last, .slice Au nu cu] 49 (0, 0)) := by
                refine (hg9.block pb (Array.getElem?_eq_some_iff.1 HP12.out).1 (fun e => ?_)).trans HP12.out
                obtain ⟨cur, hcur⟩ := row_type HY12.out.rows e.symm
                have h3 := hcur.symm.trans HP12.out
                injection h3 with h3
                injection h3 with _ h3
                exact absurd h3 (by decide)
              have hy14 := hy13.noted HNL.out p.n
              obtain ⟨vy, ys, hxa⟩ := hy13.ring
              have g0 : w13.cell? ⟨pb, 0, none⟩ = some (.int .i64 (p.n : Int)) := (row7 hp13).1 0
              have g2 : w13.cell? ⟨x, 2, none⟩ = some (.int .i64 (lastIn base PS : Int)) := by
                have h9 := hxa.c2
                obtain ⟨R9, hR9⟩ : ∃ R9 : Nat, R9 = lastIn base (run S j (base + 1)) := ⟨_, rfl⟩
                exact h9
              have gz := hxa.fz 2
              have hnx : PInv w2 (w13.setCell ⟨x, 2, none⟩ (.int .i64 (p.n : Int))) x S N base (j + 1) (.slice A9 ((whole [] PS).length + 1) c9) (.slice none 0 0) := by
                refine ⟨HL2.out, (whole [] PS).length + 1, 0, xs ++ [Value.slice A7 m7 c7], ?_⟩
                rw [HSN1.out, whole_snoc, rest_snoc, lastIn_snoc, HBL.out, if_pos rfl, if_pos rfl, if_pos rfl]
                exact hy14
              have HNX := Lib.hid hnx
              clear hnx hy13 hp13 hy14 hxa ho9 hg9 hat9
              go_wp2_with fail
              exact ⟨⟨j + 1, by go_num, hjl, HNX⟩, by simp [intOf]; omega⟩
          · have hstop : pcAt S (base + 1 + j) = none := by
              rw [HPA.out]
              exact Option.filter_eq_none_iff.2 fun q hq => by
                intro hh
                exact hok ⟨q, hq, eq_of_beq hh⟩
            have hrun := run_stop S j (base + 1) (k - j) HLEN.out hstop
            rw [show j + (k - j) = k by omega] at hrun
            have hpost : ∀ v10 : Value, u10 = v10 → XOpenPost w S base (.returned (.tuple #[.pointer (some ⟨x, 0, none⟩), v10])) w10 := fun v10 hv => by
              subst hv
              have hbw10 : Below w.heap.size w w10 := HBEL.out.trans (HY10.out.kept.below HBEL.out.size (fun b hb => by rw [hb]; exact HNW.out x HY10.out.ring.inx))
              refine ⟨x, _, rfl, hbw10, ?_, ?_⟩
              · have h9 := HY10.out.ring.kept (fun b hb' _ => HNW.out b hb') (Nat.le_refl _) (fun _ _ _ => rfl)
                rw [← HSN.out] at h9 ⊢
                rw [hrun]
                exact h9
              · rw [← HSN.out, hrun]; exact (LLN.own (M := fun _ => True) HY10.out.rows HY10.out.els (fun _ _ => trivial)).ll
            have HPOST := Lib.hid hpost
            cases o with
            | none =>
              clear hpost hstop hrun hok p0 p1 p2
              go_wp2_with fail
              go_ret2
              exact HPOST.out _ rfl
            | some p =>
              have hpn : p.n ≠ base + 1 + j := fun e => hok ⟨p, rfl, e⟩
              have heq : ((p.n : Int) != (base : Int) + ((j : Int) + 1)) = true := by simp; omega
              have q0 : w10.cell? ⟨pb, 0, none⟩ = some (.int .i64 (p.n : Int)) := p0
              clear hpost hstop hrun hok p0 p1 p2 hpn
              go_wp2_with fail
              go_ret2
              exact HPOST.out _ rfl
        · have i1 : ¬ (j : Int) + 1 ≤ (k : Int) := by omega
          obtain rfl : j = k := by omega
          have hpost : ∀ v10 : Value, u10 = v10 → XOpenPost w S base (.returned (.tuple #[.pointer (some ⟨x, 0, none⟩), v10])) wy := fun v10 hv => by
            subst hv
            refine ⟨x, _, rfl, hbw, ?_, ?_⟩
            · have h9 := hy.ring.kept (fun b hb' _ => HNW.out b hb') (Nat.le_refl _) (fun _ _ _ => rfl)
              rw [← HSN.out] at h9 ⊢
              exact h9
            · rw [← HSN.out]; exact (LLN.own (M := fun _ => True) hy.rows hy.els (fun _ _ => trivial)).ll
          have HPOST := Lib.hid hpost
          clear hpost hy hbw hinv hlen
          go_wp2_with fail
          go_ret2
          exact HPOST.out _ rfl
end Go.Proofs.Ytlokehekkllbeaa
