/-
  Cutting changes no entry that is left, nor the last: the law, walked. No statement is proved here. No condition.
-/
import Derived.Test.YtjfcofalhajgfaaLCut
import Derived.Test.YtjfcofalhajgfaaLTell
import Derived.Test.YtjfcofalhajgfaaLSames
namespace Go.Proofs.Ytjfcofalhajgfaa
open Go.RowKit

theorem LogAt.turned {w w' : World} {B C p q : Nat} {v u : Value} {g h : LG} (hh : LogAt w C q u h) (hg : LogAt w B p v g) (ht : Turned p v w w') (hqp : q ≠ p) (huv : u.ownBlock ≠ v.ownBlock) (hus : u.ownBlock.isSome = true) : LogAt w' C q u h := by
  obtain ⟨rs, he⟩ := hh.ent
  obtain ⟨rs2, he2⟩ := hg.ent
  refine ⟨(ht.block q (lt_of_heap hh.blk) hqp fun e => ?_).trans hh.blk, ⟨rs, row_same he.row fun b hb => ht.block b (he.row.lt b hb).2 (fun e => ?_) (fun e => ?_), he.len, fun i r e hr hx => ⟨(he.ent i r e hr hx).1, row_same (he.ent i r e hr hx).2 fun b hb => ht.block b ((he.ent i r e hr hx).2.lt b hb).2 (fun e => ?_) (fun e => ?_)⟩⟩, hh.pB, hh.fit, hh.term0, hh.may⟩
  · obtain ⟨c, hc⟩ := row_type he2.row e
    exact apart_T hc hh.blk (by decide) rfl
  · subst e
    obtain ⟨c, hc⟩ := row_type he.row hb
    exact apart_T hc hg.blk (by decide) rfl
  · exact huv (hb.trans e.symm)
  · subst e
    obtain ⟨c, hc⟩ := row_type (he.ent i r _ hr hx).2 hb
    exact apart_T hc hg.blk (by decide) rfl
  · obtain ⟨c, hc⟩ := row_type (he.ent i r _ hr hx).2 hb
    obtain ⟨c2, hc2⟩ := row_type he2.row e
    exact apart_T hc hc2 (by decide) rfl
theorem mod_of (z : Int) (n : Nat) : ∃ r : Nat, r ≤ n ∧ (IntKind.u64.wrap z).tmod ((n : Int) + 1) = (r : Int) := by
  have hw : 0 ≤ IntKind.u64.wrap z := by rw [show IntKind.u64.wrap z = z % 18446744073709551616 by simp [IntKind.wrap, IntKind.bits, IntKind.signed]]; omega
  refine ⟨((IntKind.u64.wrap z).tmod ((n : Int) + 1)).toNat, ?_, ?_⟩
  · have h1 := Int.tmod_lt_of_pos (IntKind.u64.wrap z) (show (0 : Int) < (n : Int) + 1 by omega)
    have h2 := Int.tmod_nonneg ((n : Int) + 1) hw
    omega
  · exact (Int.toNat_of_nonneg (Int.tmod_nonneg _ hw)).symm
/-- the log cut so far -/
def LG.at' (g : LG) (k : Nat) : LG := ⟨g.base + k, lastTerm g.term (g.l.take k), g.l.drop k⟩
structure CS (W w : World) (B C p q : Nat) (g : LG) (k : Nat) (u uh : Value) : Prop where
  log : LogAt w B p u (g.at' k)
  some : u.ownBlock.isSome = true
  old : LogAt w C q uh g
  olds : uh.ownBlock.isSome = true
  ne : q ≠ p
  nr : uh.ownBlock ≠ u.ownBlock
  k : k ≤ g.l.length
  sz : B ≤ w.heap.size
  bel : Below W.heap.size W w
  bB : W.heap.size ≤ B
theorem CS.below {W w w' : World} {B C p q : Nat} {g : LG} {k : Nat} {u uh : Value} (h : CS W w B C p q g k u uh) (hb : Below w.heap.size w w') : CS W w' B C p q g k u uh :=
  ⟨h.log.below hb, h.some, h.old.below hb, h.olds, h.ne, h.nr, h.k, Nat.le_trans h.sz hb.size, h.bel.trans (Joins.below_le hb h.bel.size), h.bB⟩
theorem at_at (g : LG) (k j : Nat) : (⟨(g.at' k).base + j, lastTerm (g.at' k).term ((g.at' k).l.take j), (g.at' k).l.drop j⟩ : LG) = g.at' (k + j) := by
  unfold LG.at'
  dsimp only
  rw [← lastTerm_append, List.take_add, List.drop_drop, Nat.add_assoc]
theorem upto_at {g : LG} {k : Nat} (hk : k ≤ g.l.length) : g.upto ((g.base : Int) + (k : Int)) = k := by
  unfold LG.upto
  split <;> omega
theorem tail_zero (g : LG) (hb : 0 ≤ (g.base : Int)) : g.tail 0 100 = g.l.take 100 := by
  unfold LG.tail
  rw [if_neg (by omega), show max (0 : Int) 1 - 1 = 0 by omega, show g.upto 0 = 0 by unfold LG.upto; rw [if_pos hb]]
  rfl
theorem tail_at {g : LG} {k : Nat} (hk : k ≤ g.l.length) : g.tail ((g.base : Int) + (k : Int) + 1) 100 = (g.l.drop k).take 100 := by
  unfold LG.tail
  rw [if_neg (by omega), show max ((g.base : Int) + (k : Int) + 1) 1 - 1 = (g.base : Int) + (k : Int) by omega, upto_at hk]
  rfl
theorem at_last (g : LG) {k : Nat} (hk : k ≤ g.l.length) : (g.at' k).last = g.last ∧ (g.at' k).lastT = g.lastT := by
  unfold LG.last LG.lastT LG.at'
  dsimp only
  rw [lastTerm_drop, List.length_drop]
  exact ⟨by omega, rfl⟩
set_option maxHeartbeats 4000000 in
set_option maxRecDepth 100000 in
theorem cuts_walk (base term : Int) (l : List EN) (zs : List Int) (v2 v3 : Value) (w : World) (h : EntN w Any v2 l) (hl : l.length ≤ 2513169434916) (hsz : ∀ e ∈ l, e.data.size ≤ 4503599627370496 ∧ e.list.length ≤ 4503599627370496) (hz : inR.N w Any v3 zs) :
    Calls Try.prog 12 #[.int .i64 base, .int .i64 term, v2, v3] w fun e w' => e = .returned (.bool true) ∧ Below w.heap.size w w' := by
  obtain ⟨A2, c2, rfl, hl2, hm2⟩ := h.slice
  obtain ⟨A3, c3, rfl, hl3, hm3⟩ := hz.slice
  have hzl : zs.length ≤ maxLen := Nat.le_trans hl3 hm3
  unfold maxLen at hzl
  have cL := long_any l _ w h (by omega) hsz
  have H := Lib.hid (And.intro h hz)
  clear h hz hsz hl2 hm2 hl3 hm3
  have cA : ∀ W, Calls Try.prog 23 #[] W fun e w' => e = .returned (.bool true) ∧ Below W.heap.size W w' := awake_any
  go_enter Try.func12, Try.ntmps12
  go_wp2_with fail
  refine cL.mono ?_
  rintro e w1 ⟨rfl, hb1⟩
  clear cL
  have HB1 := Lib.hid hb1
  clear hb1
  cases hlong : longB l
  case true =>
    clear hlong
    go_wp2_with fail
    refine (cA w1).mono ?_
    rintro e w2 ⟨rfl, hb2⟩
    have HF := Lib.hid (HB1.out.trans (Joins.below_le hb2 HB1.out.size))
    clear cA hb2
    go_wp2_with fail
    go_ret
    exact ⟨rfl, HF.out⟩
  clear hlong
  by_cases hlen : (zs.length : Int) > 20
  · go_wp2_with fail
    refine (cA w1).mono ?_
    rintro e w2 ⟨rfl, hb2⟩
    have HF := Lib.hid (HB1.out.trans (Joins.below_le hb2 HB1.out.size))
    clear cA hb2
    go_wp2_with fail
    go_ret
    exact ⟨rfl, HF.out⟩
  go_wp2_with fail
  refine (cA w1).mono ?_
  rintro e w2 ⟨rfl, hb2⟩
  have HB2 := Lib.hid (HB1.out.trans (Joins.below_le hb2 HB1.out.size))
  clear cA hb2
  have cN := new_any base term l (.slice A2 l.length c2) w2 (H.out.1.grow HB2.out)
  go_wp2_with fail
  refine cN.mono ?_
  rintro e w3 ⟨hcase, hb3⟩
  clear cN
  have HB3 := Lib.hid (HB2.out.trans (Joins.below_le hb3 HB2.out.size))
  have hs23 := hb3.size
  clear hb3
  obtain ⟨hr, rfl⟩ | ⟨hr, p, u, rfl, hlog, hus⟩ := hcase
  · have hr' : (refuse base term l == 0) = false := by simpa using hr
    clear hr
    go_wp2_with fail
    go_ret
    exact ⟨rfl, HB3.out⟩
  obtain ⟨⟨b0, b1⟩, t0, -, b2⟩ := refuse_ok hr
  have cC := copy_any ⟨base.toNat, term, l⟩ w2.heap.size p u w3 hlog
  have HL3 := Lib.hid (And.intro hlog hus)
  clear hlog hus hr
  go_wp2_with fail
  refine cC.mono ?_
  rintro e w4 ⟨⟨q, uh, rfl, hold, huhs⟩, hb4⟩
  clear cC
  obtain ⟨g, hg⟩ : ∃ g : LG, g = ⟨base.toNat, term, l⟩ := ⟨_, rfl⟩
  have hlogg : LogAt w3 w2.heap.size p u (g.at' 0) := by
    have := HL3.out.1
    unfold LG.at'
    rw [hg]
    exact this
  rw [← hg] at hold
  have hgb : (g.base : Int) = base := by rw [hg]; exact Int.toNat_of_nonneg b0
  have hgl : g.l = l := by rw [hg]
  have hcs : CS w w4 w2.heap.size w3.heap.size p q g 0 u uh := by
    have hp3 := lt_of_heap hlogg.blk
    have hqB := hold.pB
    refine ⟨hlogg.below hb4, HL3.out.2, hold, huhs, by omega, fun e => ?_, Nat.zero_le _, Nat.le_trans hs23 hb4.size, HB3.out.trans (Joins.below_le hb4 HB3.out.size), HB2.out.size⟩
    obtain ⟨rs, he⟩ := hlogg.ent
    obtain ⟨rs2, he2⟩ := hold.ent
    obtain ⟨b, hb⟩ := Option.isSome_iff_exists.1 huhs
    have h1 := (he2.row.lt b hb).1
    have h2 := (he.row.lt b (e.symm.trans hb)).2
    omega
  have HCS := Lib.hid hcs
  have HG := Lib.hid (And.intro hgb hgl)
  clear hg hgb hgl hlogg hold huhs hb4 hcs HL3 hs23 HB3
  go_wp2_with fail
  go_loopw [12, 13, 14, 15, 16, 17, 18, 19, 20, 21, 22, 23, 24] (fun s12 _ _ _ _ _ _ _ _ _ _ _ _ wr => ∃ (i k : Nat) (uz : Value), s12 = .int .i64 (i : Int) ∧ i ≤ zs.length ∧ Hid (CS w wr w2.heap.size w3.heap.size p q g k uz uh)) (fun s12 _ _ _ _ _ _ _ _ _ _ _ _ _ => zs.length - (intOf s12).toNat)
  case atStart => exact ⟨0, 0, u, rfl, Nat.zero_le _, HCS⟩
  case round =>
    clear HCS
    obtain ⟨i, k, uz, rfl, hi, hC⟩ := hrel
    obtain ⟨wz, hwz⟩ : ∃ wz : World, wz = wr := ⟨_, rfl⟩
    subst hwz
    by_cases hil : i < zs.length
    · have a1 : (i : Int) < (zs.length : Int) := by omega
      have a0 : (0 : Int) ≤ (i : Int) := by omega
      obtain ⟨z, hzi⟩ : ∃ z, zs[i]? = some z := ⟨_, List.getElem?_eq_getElem hil⟩
      obtain ⟨bz, oz, nz, kz, hv, -, -, hcz⟩ := int_cell (H.out.2.grow hC.out.bel) hzi
      injection hv with v1 v2 v3
      subst v1 v3
      clear v2
      obtain ⟨r, hrl, hr⟩ := mod_of z l.length
      have hb2 : (l.length : Int) ≤ 2147483647 - base := b2
      obtain ⟨hrw, hbr⟩ : wrap64 (r : Int) = (r : Int) ∧ wrap64 (base + (r : Int)) = base + (r : Int) := ⟨wrap_fit (by omega), wrap_fit (by omega)⟩
      have HR := Lib.hid hrl
      have hkl := hC.out.k
      have hrg : r ≤ g.l.length := by rw [HG.out.2]; exact HR.out
      have cB := base_any (g.at' k) _ p uz wz hC.out.log
      go_upto_region 11 with fail
      clear hcz hzi hr hrw hbr
      go_wp2_with fail
      refine cB.mono ?_
      rintro e x1 ⟨rfl, hx1⟩
      clear cB
      have HX1 := Lib.hid (hC.out.below hx1)
      clear hx1
      have cT := term_any g _ q uh (base + (r : Int)) x1 HX1.out.old (by omega)
      rw [← HG.out.1, LG.termAt_at hrg] at cT
      rw [HG.out.1] at cT
      dsimp only [Option.getD_some, Option.isSome_some] at cT
      go_wp2_with fail
      refine cT.mono ?_
      rintro e x2 ⟨rfl, hx2⟩
      clear cT
      have HX2 := Lib.hid (HX1.out.below hx2)
      clear hx2
      have cC := cut_any (g.at' k) _ p uz (base + (r : Int)) x2 HX2.out.log HX2.out.some (by omega) HX2.out.sz
      go_wp2_with fail
      refine cC.mono ?_
      rintro e x3 ⟨hcase, ht⟩
      clear cC
      have hold3 := HX2.out.old.turned HX2.out.log ht HX2.out.ne HX2.out.nr HX2.out.olds
      have hbel3 := HX2.out.bel.trans (Joins.below_le (ht.below HX2.out.log HX2.out.sz) HX2.out.bB)
      have hsz3 := Nat.le_trans HX2.out.sz ht.size
      obtain ⟨E, k2, u2, rfl, HX3, hE⟩ : ∃ (E : Int) (k2 : Nat) (u2 : Value), e = .returned (.int .i64 E) ∧ Hid (CS w x3 w2.heap.size w3.heap.size p q g k2 u2 uh) ∧ ((E = 1 ∧ r < k ∧ k2 = k) ∨ (E = 0 ∧ k ≤ r ∧ k2 = r)) := by
        rcases hcase with ⟨hn, rfl, hl3, -⟩ | ⟨j, u2, hj, hjl, rfl, hl3, hub⟩
        · refine ⟨1, k, uz, rfl, Lib.hid ⟨hl3, HX2.out.some, hold3, HX2.out.olds, HX2.out.ne, HX2.out.nr, hkl, hsz3, hbel3, HX2.out.bB⟩, .inl ⟨rfl, ?_, rfl⟩⟩
          rcases Nat.lt_or_ge r k with hh | hh
          · exact hh
          · exfalso
            have := LG.termAt_at (g := g.at' k) (k := r - k) (by show r - k ≤ (g.l.drop k).length; rw [List.length_drop]; omega)
            rw [show ((g.at' k).base : Int) + ((r - k : Nat) : Int) = base + (r : Int) by show ((g.base + k : Nat) : Int) + _ = _; rw [← HG.out.1]; omega] at this
            rw [hn] at this
            cases this
        · have hkr : r = k + j := by
            have : base + (r : Int) = ((g.base + k : Nat) : Int) + (j : Int) := hj
            rw [← HG.out.1] at this
            omega
          rw [at_at] at hl3
          exact ⟨0, r, u2, rfl, Lib.hid ⟨by rw [hkr]; exact hl3, by rw [hub]; exact HX2.out.some, hold3, HX2.out.olds, HX2.out.ne, by rw [hub]; exact HX2.out.nr, hrg, hsz3, hbel3, HX2.out.bB⟩, .inr ⟨rfl, by omega, rfl⟩⟩
      clear hcase ht hold3 hbel3 hsz3
      have hk2 := HX3.out.k
      have cB := base_any (g.at' k2) _ p u2 x3 HX3.out.log
      have hbk : ((g.at' k).base : Int) = base + (k : Int) := by show ((g.base + k : Nat) : Int) = _; rw [← HG.out.1]; omega
      have hbk2 : ((g.at' k2).base : Int) = base + (k2 : Int) := by show ((g.base + k2 : Nat) : Int) = _; rw [← HG.out.1]; omega
      rw [hbk2] at cB
      rw [hbk]
      obtain ⟨T, hT⟩ : ∃ T, T = lastTerm g.term (g.l.take r) := ⟨_, rfl⟩
      rw [← hT]
      obtain ⟨T2, hT2⟩ : ∃ T2, T2 = (g.at' k2).term := ⟨_, rfl⟩
      rw [← hT2] at cB
      have h100 := tail_zero (g.at' k2) (by rw [hbk2]; omega)
      have h101 := tail_at hk2
      rw [HG.out.1] at h101
      have htl : (g.at' k2).tail 0 100 = g.tail (base + (k2 : Int) + 1) 100 := h100.trans h101.symm
      have hlast := at_last g hk2
      have HTL := Lib.hid htl
      have HLA := Lib.hid hlast
      clear hbk hbk2 h100 h101 htl hlast
      -- the tail, told from both
      have hrest : ∀ x5, CS w x5 w2.heap.size w3.heap.size p q g k2 u2 uh → Calls Try.prog 33 #[.pointer (some ⟨p, 0, none⟩)] x5 (fun e w' => e = .returned (.tuple #[.int .i64 (g.last : Int), .int .i64 g.lastT]) ∧ Below x5.heap.size x5 w') ∧ Calls Try.prog 33 #[.pointer (some ⟨q, 0, none⟩)] x5 (fun e w' => e = .returned (.tuple #[.int .i64 (g.last : Int), .int .i64 g.lastT]) ∧ Below x5.heap.size x5 w') := fun x5 hx => by
        have h1 := last_any (g.at' k2) _ p u2 x5 hx.log
        rw [HLA.out.1, HLA.out.2] at h1
        exact ⟨h1, last_any g _ q uh x5 hx.old⟩
      have HREST := Lib.hid hrest
      have hfrom : ∀ x5, CS w x5 w2.heap.size w3.heap.size p q g k2 u2 uh → Calls Try.prog 43 #[.pointer (some ⟨p, 0, none⟩), .int .i64 0, .int .i64 100] x5 (fun e w' => (∃ A c, e = .returned (.slice A (g.tail (base + (k2 : Int) + 1) 100).length c) ∧ EntN w' Any (.slice A (g.tail (base + (k2 : Int) + 1) 100).length c) (g.tail (base + (k2 : Int) + 1) 100)) ∧ Below x5.heap.size x5 w') ∧ Calls Try.prog 43 #[.pointer (some ⟨q, 0, none⟩), .int .i64 (base + (k2 : Int) + 1), .int .i64 100] x5 (fun e w' => (∃ A c, e = .returned (.slice A (g.tail (base + (k2 : Int) + 1) 100).length c) ∧ EntN w' Any (.slice A (g.tail (base + (k2 : Int) + 1) 100).length c) (g.tail (base + (k2 : Int) + 1) 100)) ∧ Below x5.heap.size x5 w') := fun x5 hx => by
        have h1 := from_any (g.at' k2) _ p u2 0 x5 hx.log (by omega) (by omega)
        rw [HTL.out] at h1
        have hgl2 : g.l.length = l.length := by rw [HG.out.2]
        exact ⟨h1, from_any g _ q uh (base + (k2 : Int) + 1) x5 hx.old (by omega) (by omega)⟩
      have HFROM := Lib.hid hfrom
      clear hrest hfrom
      obtain ⟨F, hF⟩ : ∃ F, F = g.tail (base + (k2 : Int) + 1) 100 := ⟨_, rfl⟩
      rw [← hF] at HFROM
      have hgl2 : g.l.length = l.length := by rw [HG.out.2]
      have hw9 : wrap64 (base + (k2 : Int) + 1) = base + (k2 : Int) + 1 := wrap_fit (by omega)
      have HE := Lib.hid (And.intro hE (And.intro hT hT2))
      clear hF hT hT2
      rcases hE with ⟨rfl, h1, h2⟩ | ⟨rfl, h1, h2⟩
      · have hge : ¬ base + (r : Int) ≥ base + (k : Int) := by omega
        clear h1 h2
        go_wp2_with fail
        refine cB.mono ?_
        rintro e x4 ⟨rfl, hx4⟩
        clear cB hge
        have HX4 := Lib.hid (HX3.out.below hx4)
        clear hx4
        go_upto_region 19 with fail
        go_wp2_with fail
        refine (HREST.out x4 HX4.out).1.mono ?_
        rintro e x5 ⟨rfl, hx5⟩
        have HX5 := Lib.hid (HX4.out.below hx5)
        clear hx5
        go_wp2_with fail
        refine (HREST.out x5 HX5.out).2.mono ?_
        rintro e x6 ⟨rfl, hx6⟩
        have HX6 := Lib.hid (HX5.out.below hx6)
        clear hx6
        go_wp2_with fail
        refine (HFROM.out x6 HX6.out).1.mono ?_
        rintro e x7 ⟨⟨A7, c7, rfl, hn7⟩, hx7⟩
        have HX7 := Lib.hid (HX6.out.below hx7)
        have HN7 := Lib.hid hn7
        clear hx7 hn7
        go_wp2_with fail
        refine (HFROM.out x7 HX7.out).2.mono ?_
        rintro e x8 ⟨⟨A8, c8, rfl, hn8⟩, hx8⟩
        have cS := sames_any F F _ _ x8 (HN7.out.grow hx8) hn8 rfl
        have HX8 := Lib.hid (HX7.out.below hx8)
        clear hx8 hn8
        go_wp2_with fail
        refine cS.mono ?_
        rintro e x9 ⟨rfl, hx9⟩
        have HX9 := Lib.hid (HX8.out.below hx9)
        clear hx9 cS
        go_wp2_with fail
        exact ⟨⟨i + 1, _, _, by go_num, hil, HX9⟩, by simp [intOf]; omega⟩
      · have hge : base + (r : Int) ≥ base + (k : Int) := by omega
        have hTT : T2 = T := by
          obtain ⟨-, e1, e2⟩ := HE.out
          rw [e1, e2, h2]
          rfl
        subst hTT
        subst h2
        clear h1
        go_wp2_with fail
        refine cB.mono ?_
        rintro e x4 ⟨rfl, hx4⟩
        clear cB hge
        have HX4 := Lib.hid (HX3.out.below hx4)
        clear hx4
        go_upto_region 19 with fail
        go_wp2_with fail
        refine (HREST.out x4 HX4.out).1.mono ?_
        rintro e x5 ⟨rfl, hx5⟩
        have HX5 := Lib.hid (HX4.out.below hx5)
        clear hx5
        go_wp2_with fail
        refine (HREST.out x5 HX5.out).2.mono ?_
        rintro e x6 ⟨rfl, hx6⟩
        have HX6 := Lib.hid (HX5.out.below hx6)
        clear hx6
        go_wp2_with fail
        refine (HFROM.out x6 HX6.out).1.mono ?_
        rintro e x7 ⟨⟨A7, c7, rfl, hn7⟩, hx7⟩
        have HX7 := Lib.hid (HX6.out.below hx7)
        have HN7 := Lib.hid hn7
        clear hx7 hn7
        go_wp2_with fail
        refine (HFROM.out x7 HX7.out).2.mono ?_
        rintro e x8 ⟨⟨A8, c8, rfl, hn8⟩, hx8⟩
        have cS := sames_any F F _ _ x8 (HN7.out.grow hx8) hn8 rfl
        have HX8 := Lib.hid (HX7.out.below hx8)
        clear hx8 hn8
        go_wp2_with fail
        refine cS.mono ?_
        rintro e x9 ⟨rfl, hx9⟩
        have HX9 := Lib.hid (HX8.out.below hx9)
        clear hx9 cS
        go_wp2_with fail
        exact ⟨⟨i + 1, _, _, by go_num, hil, HX9⟩, by simp [intOf]; omega⟩
    · have a1 : ¬ (i : Int) < (zs.length : Int) := by omega
      go_wp2_with fail
      go_ret
      exact ⟨rfl, hC.out.bel⟩
end Go.Proofs.Ytjfcofalhajgfaa
