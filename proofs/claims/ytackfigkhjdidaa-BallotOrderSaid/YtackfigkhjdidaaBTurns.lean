/-
  The law of turns, walked. No statement is proved here. No condition.
-/
import Derived.Test.YtackfigkhjdidaaBMem
import Derived.Test.YtackfigkhjdidaaBTurnR
import Derived.Test.YtackfigkhjdidaaBNearR
namespace Go.Proofs.Ytackfigkhjdidaa
open Go.RowKit

def longB (l m : List Int) : Bool := decide ((l.length : Int) > 200 ∨ (m.length : Int) > 200)
theorem turnO_len (l : List Int) (s : Int) : (turnO l s).length ≤ 5 := by
  unfold turnO
  split
  · exact Nat.le_trans (List.length_filter_le _ _) (by decide)
  · simp
theorem long_any (l m : List Int) (A A2 : Option Addr) (c c2 : Nat) (w : World) (hl : l.length ≤ 17592186044416) (hm : m.length ≤ 17592186044416) :
    Calls Try.prog 39 #[.slice A l.length c, .slice A2 m.length c2] w fun e w' => e = .returned (.bool (longB l m)) ∧ w = w' := by
  by_cases h1 : (l.length : Int) > 200
  · have HF := Lib.hid (show longB l m = true from decide_eq_true (.inl h1))
    go_enter Try.func39, Try.ntmps39
    go_wp2_with fail
    go_ret
    exact ⟨by rw [HF.out] <;> rfl, rfl⟩
  · by_cases h2 : (m.length : Int) > 200
    · have HF := Lib.hid (show longB l m = true from decide_eq_true (.inr h2))
      go_enter Try.func39, Try.ntmps39
      go_wp2_with fail
      go_ret
      exact ⟨by rw [HF.out] <;> rfl, rfl⟩
    · have HF := Lib.hid (show longB l m = false from decide_eq_false (by omega))
      go_enter Try.func39, Try.ntmps39
      go_wp2_with fail
      go_ret
      exact ⟨by rw [HF.out] <;> rfl, rfl⟩
set_option maxHeartbeats 8000000 in
set_option maxRecDepth 100000 in
theorem turns_walk (l m : List Int) (a b : Value) (s : Int) (w : World) (ha : inR.N w Any a l) (hb : inR.N w Any b m) (hl : l.length ≤ 17592186044416) (hm : m.length ≤ 17592186044416) (wl : ∀ x ∈ l, I6 x) (wm : ∀ x ∈ m, I6 x) :
    Calls Try.prog 10 #[a, b, .int .i64 s] w fun e w' => e = .returned (.bool true) ∧ Below w.heap.size w w' := by
  obtain ⟨A, c, rfl, hlc, hcm⟩ := ha.slice
  obtain ⟨A2, c2, rfl, hlc2, hcm2⟩ := hb.slice
  have cL := long_any l m A A2 c c2 w hl hm
  have H := Lib.hid (And.intro ha (And.intro hb (And.intro wl wm)))
  clear ha hb wl wm hlc hlc2 hcm hcm2
  by_cases hlong : (l.length : Int) > 200 ∨ (m.length : Int) > 200
  · rw [show longB l m = true from decide_eq_true hlong] at cL
    have HB : Hid (Below w.heap.size w w) := Lib.hid (Below.refl _ _)
    clear hlong
    go_enter Try.func10, Try.ntmps10
    go_wp2_with fail
    refine cL.mono ?_
    rintro e w' ⟨rfl, rfl⟩
    clear cL
    go_wp2_with fail
    go_ret
    exact ⟨rfl, HB.out⟩
  rw [show longB l m = false from decide_eq_false hlong] at cL
  have hl2 : l.length ≤ 1000 := by omega
  have hm2 : m.length ≤ 1000 := by omega
  clear hlong hl hm
  obtain ⟨ie, hie', z0, z1, z2⟩ := info_parts info_cint
  obtain ⟨A7, c7, w1, hap, ho1, hb1⟩ := lit_app (R := inR) (w := w) (B := w.heap.size) (t := 32) Try.underlying32 hie' z0 z1 z2 rfl (by decide) H.out.1 (by unfold maxLen; omega) (by omega) (Nat.le_refl _)
  have HAP := Lib.hid hap
  have HW0 : Hid (inR.Own w1 w.heap.size 3 (.slice A7 l.length c7) l ∧ Below w.heap.size w w1) := Lib.hid ⟨ho1, hb1⟩
  clear hap ho1 hb1 hie' z0 z1 z2
  go_enter Try.func10, Try.ntmps10
  go_wp2_with fail
  refine cL.mono ?_
  rintro e w' ⟨rfl, rfl⟩
  clear cL
  go_wp2_with (at_builtin; go_must (refine Lib.wpList_append_run _ rfl (.tmp 17) (.tmp 18) 32 32 rfl _ _ rfl rfl _ _ HAP.out ?_))
  go_loopw [8, 9, 10, 11, 12, 13] (fun s8 _ _ _ _ _ wr => ∃ k : Nat, s8 = .int .i64 (k : Int) ∧ k ≤ 2 ∧ Hid (inR.Own wr w.heap.size 3 (.slice A7 l.length c7) l ∧ Below w.heap.size w wr)) (fun s8 _ _ _ _ _ _ => 2 - (RowKit.intOf s8).toNat)
  case atStart => exact ⟨0, rfl, by omega, HW0⟩
  case round =>
    clear HW0 HAP
    obtain ⟨k, rfl, hk, hs⟩ := hrel
    obtain ⟨wz, hwz⟩ : ∃ wz : World, wz = wr := ⟨_, rfl⟩
    subst hwz
    by_cases hk2 : k < 2
    · have a1 : (k : Int) < 2 := by omega
      have cT := turn_any l s _ wz hs.out.1.n.any hl2
      have HS := Lib.hid hs.out
      clear hs
      go_wp2_with fail
      refine cT.mono ?_
      rintro e w2 hT
      clear cT
      obtain ⟨⟨A3, c3, rfl, ho3⟩, hb3⟩ := hT
      have cR := turnR_any l s (.slice A l.length c) w2 ((H.out.1.grow HS.out.2).grow hb3)
      have HO3 := Lib.hid (And.intro ho3 hb3)
      clear ho3 hb3
      go_wp2_with fail
      refine cR.mono ?_
      rintro e w3 hT
      clear cR
      obtain ⟨⟨A4, c4, rfl, ho4⟩, hb4⟩ := hT
      have ho3' := HO3.out.1.below hb4
      have hB3 := HO3.out.2.trans (Joins.below_le hb4 HO3.out.2.size)
      have cI := intsR_any (turnO l s) (turnO l s) _ _ w3 ho3'.n.any ho4.n.any
      rw [show sameI (turnO l s) (turnO l s) = true from decide_eq_true rfl] at cI
      have HO4 := Lib.hid (And.intro ho3' hB3)
      obtain ⟨n, hn⟩ : ∃ n, n = (turnO l s).length := ⟨_, rfl⟩
      obtain ⟨en, hen⟩ : ∃ en, en = turnE l s := ⟨_, rfl⟩
      rw [← hn] at cI ⊢
      rw [← hen]
      have HN := Lib.hid hn
      clear ho4 hb4 ho3' hB3 HO3 hn hen
      go_wp2_with fail
      refine cI.mono ?_
      rintro e w4 ⟨rfl, hb4⟩
      clear cI
      have ho4 := HO4.out.1.below hb4
      have hB4 := HO4.out.2.trans (Joins.below_le hb4 HO4.out.2.size)
      have cI := intsR_any l l _ _ w4 ((HS.out.1.n.any.grow HO4.out.2).grow hb4) ((H.out.1.grow HS.out.2).grow hB4)
      rw [show sameI l l = true from decide_eq_true rfl] at cI
      have HO5 := Lib.hid (And.intro ho4 hB4)
      clear ho4 hb4 hB4 HO4
      go_wp2_with fail
      refine cI.mono ?_
      rintro e w5 ⟨rfl, hb5⟩
      clear cI
      have HX : Hid (∃ L : List Int, L.length = n ∧ inR.Own w5 wz.heap.size 3 (.slice A3 n c3) L ∧ Below wz.heap.size wz w5) := Lib.hid ⟨turnO l s, HN.out.symm, by rw [HN.out]; exact HO5.out.1.below hb5, HO5.out.2.trans (Joins.below_le hb5 HO5.out.2.size)⟩
      clear hb5 HO5
      go_wp2_with fail
      have hn5 : n ≤ 5 := by rw [HN.out]; exact turnO_len _ _
      go_loopw [13] (fun s13 wr => ∃ i : Nat, s13 = .int .i64 (i : Int) ∧ i ≤ n ∧ Hid (∃ L : List Int, L.length = n ∧ inR.Own wr wz.heap.size 3 (.slice A3 n c3) L ∧ Below wz.heap.size wz wr)) (fun s13 _ => n - (RowKit.intOf s13).toNat)
      case atStart => exact ⟨0, rfl, Nat.zero_le _, HX⟩
      case round =>
        clear HX
        obtain ⟨i, rfl, hi, hX⟩ := hrel
        obtain ⟨wy, hwy⟩ : ∃ wy : World, wy = wr := ⟨_, rfl⟩
        subst hwy
        by_cases hin : i < n
        · have b1 : (i : Int) < (n : Int) := by omega
          have b0 : (0 : Int) ≤ (i : Int) := by omega
          obtain ⟨L, hL, hO, hB⟩ := hX.out
          obtain ⟨x, hx⟩ : ∃ x, L[i]? = some x := ⟨_, List.getElem?_eq_getElem (by omega)⟩
          obtain ⟨g, cg, hv, hgB, hgl, hcell, hfz, hO2⟩ := rec_poke (R := inR) (y := (-7 : Int)) (j := 0) (u := .int .i64 (-7)) hO hx rfl (by decide)
          injection hv with e1 e2 e3
          subst e1 e3
          have hii : i * inR.size + 0 = i := by show i * 1 + 0 = i; omega
          have hc0 : wy.cell? ⟨g, i, none⟩ = some (.int .i64 x) := by rw [← hii]; exact hcell 0 _ rfl
          have hf0 : wy.frozen? ⟨g, i, none⟩ = false := hfz i
          rw [hii] at hO2
          have HN2 : Hid (∃ L : List Int, L.length = n ∧ inR.Own (wy.setCell ⟨g, i, none⟩ (.int .i64 (-7))) wz.heap.size 3 (.slice (some ⟨g, 0, none⟩) n c3) L ∧ Below wz.heap.size wz (wy.setCell ⟨g, i, none⟩ (.int .i64 (-7)))) := Lib.hid ⟨L.set i (-7), by simpa using hL, hO2, hB.trans ((Below.refl _ _).setCell hgB _)⟩
          clear hX hL hO hB hx hcell hfz hO2 hii e2 hgB hgl
          go_wp2_with fail
          exact ⟨⟨i + 1, by go_num, by omega, HN2⟩, by simp [RowKit.intOf]; omega⟩
        · have b1 : ¬ (i : Int) < (n : Int) := by omega
          have HZ : Hid (inR.Own wy w.heap.size 3 (.slice A7 l.length c7) l ∧ Below w.heap.size w wy) := Lib.hid (by
            obtain ⟨L, -, -, hB⟩ := hX.out
            exact ⟨HS.out.1.below hB, HS.out.2.trans (Joins.below_le hB HS.out.2.size)⟩)
          clear hX
          go_wp2_with fail
          exact ⟨⟨k + 1, by go_num, by omega, HZ⟩, by simp [RowKit.intOf]; omega⟩
    · have a1 : ¬ (k : Int) < 2 := by omega
      have cN := near_any l m _ (.slice A2 m.length c2) wz hs.out.1.n.any (H.out.2.1.grow hs.out.2) hl2 hm2 H.out.2.2.1 H.out.2.2.2
      have HS := Lib.hid hs.out
      clear hs
      go_wp2_with fail
      refine cN.mono ?_
      rintro e w2 ⟨rfl, hb2⟩
      clear cN
      have cR := nearR_any l m (.slice A l.length c) (.slice A2 m.length c2) w2 ((H.out.1.grow HS.out.2).grow hb2) ((H.out.2.1.grow HS.out.2).grow hb2) hl2 hm2
      have HB2 := Lib.hid hb2
      clear hb2
      go_wp2_with fail
      refine cR.mono ?_
      rintro e w3 ⟨rfl, hb3⟩
      clear cR
      have hB3 := HB2.out.trans (Joins.below_le hb3 HB2.out.size)
      have cI := intsR_any l l _ _ w3 (HS.out.1.n.any.grow hB3) ((H.out.1.grow HS.out.2).grow hB3)
      rw [show sameI l l = true from decide_eq_true rfl] at cI
      have HB3 := Lib.hid (HS.out.2.trans (Joins.below_le hB3 HS.out.2.size))
      clear hb3 hB3
      have hnn : (near l m == near l m) = true := by simp
      go_wp2_with fail
      refine cI.mono ?_
      rintro e w4 ⟨rfl, hb4⟩
      clear cI
      have HF := Lib.hid (HB3.out.trans (Joins.below_le hb4 HB3.out.size))
      clear hb4
      go_wp2_with fail
      go_ret
      exact ⟨rfl, HF.out⟩
end Go.Proofs.Ytackfigkhjdidaa
