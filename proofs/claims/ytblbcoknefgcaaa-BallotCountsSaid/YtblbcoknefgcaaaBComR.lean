/-
  What a majority has: the document's. No statement is proved here. No condition.
-/
import Derived.Test.YtblbcoknefgcaaaBWonR
namespace Go.Proofs.Ytblbcoknefgcaaa
open Go.RowKit

theorem cntR_snoc {l m : List Int} {c x : Int} {k : Nat} (h : l[k]? = some x) : cntR (l.take (k + 1)) m c = cntR (l.take k) m c + (if hasAt m c x = true then 1 else 0) := by
  unfold cntR
  rw [take_snoc h, List.countP_append, List.countP_singleton]
theorem best_take {P : Int → Bool} {m : List Int} {i : Nat} {c : Int} (h : m[i]? = some c) : best P (m.take (i + 1)) = if (P c && decide (c > best P (m.take i))) = true then c else best P (m.take i) := by rw [take_snoc h, best_snoc]
theorem cntR_le (r m : List Int) (c : Int) : cntR r m c ≤ r.length := List.countP_le_length
set_option maxHeartbeats 8000000 in
set_option maxRecDepth 100000 in
theorem commonR_any (l m : List Int) (a b : Value) (w : World) (ha : inR.N w Any a l) (hb : inR.N w Any b m) (hl : l.length ≤ 1000) (hm : m.length ≤ 1000) :
    Calls Try.prog 34 #[a, b] w fun e w' => e = .returned (.int .i64 (commonR l m)) ∧ Below w.heap.size w w' := by
  have c1 := onceR_any l a w ha hl
  obtain ⟨Ab, cb, rfl, -, -⟩ := hb.slice
  have H := Lib.hid hb
  clear ha hb
  go_enter Try.func34, Try.ntmps34
  go_wp2_with fail
  refine c1.mono ?_
  rintro e w1 ⟨v1, rfl, ho1, hb1⟩
  clear c1
  obtain ⟨A1, k1, rfl⟩ := ho1.slice
  have hl1 : (wo [] l).length ≤ 1000 := Nat.le_trans (wo_len _ _) hl
  obtain ⟨r, hr⟩ : ∃ r, r = wo [] l := ⟨_, rfl⟩
  obtain ⟨P, hP⟩ : ∃ P : Int → Bool, P = fun c => decide ((cntR r m c : Int) > (r.length : Int) - (cntR r m c : Int)) := ⟨_, rfl⟩
  have HF : Hid (commonR l m = best P m) := Lib.hid (by unfold commonR; rw [hP, hr])
  rw [← hr] at hl1 ho1 ⊢
  have HP : Hid (∀ c, P c = decide ((cntR r m c : Int) > (r.length : Int) - (cntR r m c : Int))) := Lib.hid fun c => by rw [hP]
  have HX : Hid (∀ W, Below w1.heap.size w1 W → inR.N W Any (.slice A1 r.length k1) r ∧ inR.N W Any (.slice Ab m.length cb) m ∧ Below w.heap.size w W) := Lib.hid fun W hW =>
    ⟨ho1.n.any.grow hW, (H.out.grow hb1).grow hW, hb1.trans (Joins.below_le hW hb1.size)⟩
  have HB0 : Hid (Below w1.heap.size w1 w1) := Lib.hid (Below.refl _ _)
  clear hb1 ho1 hr hP H hl
  go_wp2_with fail
  go_loopw [6, 7, 8, 9] (fun s6 s7 _ _ wr => ∃ i : Nat, s7 = .int .i64 (i : Int) ∧ s6 = .int .i64 (best P (m.take i)) ∧ i ≤ m.length ∧ Hid (Below w1.heap.size w1 wr)) (fun _ s7 _ _ _ => m.length - (RowKit.intOf s7).toNat)
  case atStart => exact ⟨0, rfl, rfl, Nat.zero_le _, HB0⟩
  case round =>
    clear HB0
    obtain ⟨i, rfl, rfl, hi, hs⟩ := hrel
    obtain ⟨wz, hwz⟩ : ∃ wz : World, wz = wr := ⟨_, rfl⟩
    subst hwz
    obtain ⟨bs, hbs⟩ : ∃ bs, bs = best P (m.take i) := ⟨_, rfl⟩
    rw [← hbs]
    have HBS := Lib.hid hbs
    clear hbs
    by_cases him : i < m.length
    · have d1 : (i : Int) < (m.length : Int) := by omega
      have d0 : (0 : Int) ≤ (i : Int) := by omega
      obtain ⟨c, hc⟩ : ∃ c, m[i]? = some c := ⟨_, List.getElem?_eq_getElem him⟩
      have HC := Lib.hid hc
      clear hc
      go_wp2_with fail
      go_loopw [8, 9] (fun s8 s9 wr => ∃ k : Nat, s9 = .int .i64 (k : Int) ∧ s8 = .int .i64 (cntR (r.take k) m c : Int) ∧ k ≤ r.length ∧ Hid (Below w1.heap.size w1 wr)) (fun _ s9 _ => r.length - (RowKit.intOf s9).toNat)
      case atStart => exact ⟨0, rfl, rfl, Nat.zero_le _, hs⟩
      case round =>
        clear hs
        obtain ⟨k, rfl, rfl, hk, hs⟩ := hrel
        obtain ⟨wy, hwy⟩ : ∃ wy : World, wy = wr := ⟨_, rfl⟩
        subst hwy
        obtain ⟨cn, hcn⟩ : ∃ cn, cn = cntR (r.take k) m c := ⟨_, rfl⟩
        have hcl : cn ≤ 1000 := by rw [hcn]; exact Nat.le_trans (cntR_le _ _ _) (by rw [List.length_take]; omega)
        rw [← hcn]
        have HCN := Lib.hid hcn
        clear hcn
        by_cases hkl : k < r.length
        · have a1 : (k : Int) < (r.length : Int) := by omega
          have a0 : (0 : Int) ≤ (k : Int) := by omega
          obtain ⟨x, hx⟩ : ∃ x, r[k]? = some x := ⟨_, List.getElem?_eq_getElem hkl⟩
          obtain ⟨g, o, rfl, y0⟩ := in_cell (HX.out wy hs.out).1 hx
          have hst := cntR_snoc (m := m) (c := c) hx
          rw [← HCN.out] at hst
          have HST := Lib.hid hst
          clear hx hst
          by_cases hx1 : x < 1
          · have q1 : ¬ x ≥ 1 := by omega
            have HL : Hid (cntR (r.take (k + 1)) m c = cn) := Lib.hid (by rw [HST.out, show hasAt m c x = false by unfold hasAt; rw [show decide (1 ≤ x) = false by simp; omega]; rfl]; rfl)
            have HD := hs
            clear hs hx1 HST
            go_upto_region 10 with fail
            go_quiet (fail)
            have HN2 : Hid (Below w1.heap.size w1 (wy.drewN nq)) := Lib.hid (drewB _ HD.out)
            go_wp2_with fail
            exact ⟨⟨k + 1, by go_num, by rw [HL.out], by omega, HN2⟩, by simp [RowKit.intOf]; omega⟩
          by_cases hx2 : x > (m.length : Int)
          · have q1 : x ≥ 1 := by omega
            have q2 : ¬ x ≤ (m.length : Int) := by omega
            have HL : Hid (cntR (r.take (k + 1)) m c = cn) := Lib.hid (by rw [HST.out, show hasAt m c x = false by unfold hasAt; rw [show decide (x ≤ (m.length : Int)) = false by simp; omega, Bool.and_false]; rfl]; rfl)
            have HD := hs
            clear hs hx1 hx2 HST
            go_upto_region 10 with fail
            go_quiet (fail)
            have HN2 : Hid (Below w1.heap.size w1 (wy.drewN nq)) := Lib.hid (drewB _ HD.out)
            go_wp2_with fail
            exact ⟨⟨k + 1, by go_num, by rw [HL.out], by omega, HN2⟩, by simp [RowKit.intOf]; omega⟩
          have q1 : x ≥ 1 := by omega
          have q2 : x ≤ (m.length : Int) := by omega
          obtain ⟨j, hj⟩ : ∃ j : Nat, x = (j : Int) + 1 := ⟨(x - 1).toNat, by omega⟩
          obtain ⟨u, hu⟩ : ∃ u, m[j]? = some u := ⟨_, List.getElem?_eq_getElem (by omega)⟩
          obtain ⟨g2, o2, rfl, z0⟩ := in_cell (HX.out wy hs.out).2.1 hu
          obtain ⟨g3, o3, e3, z1⟩ := in_cell (HX.out wy hs.out).2.1 HC.out
          injection e3 with e3
          injection e3 with e3 e4
          subst e3 e4
          have hxs : IntKind.i64.wrap (x - 1) = (j : Int) := by rw [IntKind.wrap_i64]; omega
          have b0 : (0 : Int) ≤ (j : Int) := by omega
          have b1 : (j : Int) < (m.length : Int) := by omega
          have hha : hasAt m c x = decide (c ≤ u) := by
            unfold hasAt
            rw [show decide (1 ≤ x) = true by simpa using q1, show decide (x ≤ (m.length : Int)) = true by simpa using q2, show (x - 1).toNat = j by omega, hu]
            rfl
          rw [hha] at HST
          clear hha hu hx1 hx2 hj
          by_cases huc : u ≥ c
          · have HL : Hid (cntR (r.take (k + 1)) m c = cn + 1) := Lib.hid (by rw [HST.out, show decide (c ≤ u) = true by simpa using huc]; rfl)
            have HD := hs
            clear hs HST
            go_upto_region 10 with fail
            go_quiet (fail)
            have HN2 : Hid (Below w1.heap.size w1 (wy.drewN nq)) := Lib.hid (drewB _ HD.out)
            go_wp2_with fail
            exact ⟨⟨k + 1, by go_num, by rw [HL.out]; go_num, by omega, HN2⟩, by simp [RowKit.intOf]; omega⟩
          · have HL : Hid (cntR (r.take (k + 1)) m c = cn) := Lib.hid (by rw [HST.out, show decide (c ≤ u) = false by simp; omega]; rfl)
            have HD := hs
            clear hs HST
            go_upto_region 10 with fail
            go_quiet (fail)
            have HN2 : Hid (Below w1.heap.size w1 (wy.drewN nq)) := Lib.hid (drewB _ HD.out)
            go_wp2_with fail
            exact ⟨⟨k + 1, by go_num, by rw [HL.out], by omega, HN2⟩, by simp [RowKit.intOf]; omega⟩
        · have a1 : ¬ (k : Int) < (r.length : Int) := by omega
          have hcr : cn = cntR r m c := by rw [HCN.out, List.take_of_length_le (by omega)]
          obtain ⟨g3, o3, rfl, z1⟩ := in_cell (HX.out wy hs.out).2.1 HC.out
          have hPc := HP.out c
          rw [← hcr] at hPc
          have hbt := best_take (P := P) HC.out
          rw [← HBS.out, hPc] at hbt
          have HBT := Lib.hid hbt
          clear hcr hPc hbt hk hkl
          by_cases hcn : (cn : Int) > (r.length : Int) - (cn : Int)
          · by_cases hcb : c > bs
            · have HL : Hid (best P (m.take (i + 1)) = c) := Lib.hid (by rw [HBT.out, if_pos (by simp only [Bool.and_eq_true, decide_eq_true_eq]; exact ⟨hcn, hcb⟩)])
              clear HBT
              go_wp2_with fail
              exact ⟨⟨i + 1, by go_num, by rw [HL.out], by omega, hs⟩, by simp [RowKit.intOf]; omega⟩
            · have HL : Hid (best P (m.take (i + 1)) = bs) := Lib.hid (by rw [HBT.out, if_neg (by simp only [Bool.and_eq_true, decide_eq_true_eq]; exact fun h => hcb h.2)])
              clear HBT
              go_wp2_with fail
              exact ⟨⟨i + 1, by go_num, by rw [HL.out], by omega, hs⟩, by simp [RowKit.intOf]; omega⟩
          · have HL : Hid (best P (m.take (i + 1)) = bs) := Lib.hid (by rw [HBT.out, if_neg (by simp only [Bool.and_eq_true, decide_eq_true_eq]; exact fun h => hcn h.1)])
            clear HBT
            go_wp2_with fail
            exact ⟨⟨i + 1, by go_num, by rw [HL.out], by omega, hs⟩, by simp [RowKit.intOf]; omega⟩
    · have d1 : ¬ (i : Int) < (m.length : Int) := by omega
      have HL : Hid (bs = commonR l m) := Lib.hid (by rw [HF.out, HBS.out, List.take_of_length_le (by omega)])
      have HB := Lib.hid (HX.out wz hs.out).2.2
      clear hs
      go_wp2_with fail
      go_ret
      exact ⟨by rw [HL.out] <;> rfl, HB.out⟩
end Go.Proofs.Ytblbcoknefgcaaa
