/-
  The law of counts, walked. No statement is proved here. No condition.
-/
import Derived.Test.YtblbcoknefgcaaaBComR
namespace Go.Proofs.Ytblbcoknefgcaaa
open Go.RowKit

theorem common_R (l m : List Int) : common l m = commonR l m := by
  rw [common_F]
  exact com_eq l m
set_option maxHeartbeats 8000000 in
set_option maxRecDepth 100000 in
theorem counts_walk (x y z : List Int) (a b c : Value) (w : World) (ha : inR.N w Any a x) (hb : inR.N w Any b y) (hc : inR.N w Any c z) (lx : x.length ≤ 17592186044416) (ly : y.length ≤ 17592186044416) (lz : z.length ≤ 17592186044416) (wx : ∀ v ∈ x, I6 v) (wy : ∀ v ∈ y, I6 v) :
    Calls Try.prog 9 #[a, b, c] w fun e w' => e = .returned (.bool true) ∧ Below w.heap.size w w' := by
  obtain ⟨A, ca, rfl, -, -⟩ := ha.slice
  obtain ⟨B, cb, rfl, -, -⟩ := hb.slice
  obtain ⟨C, cc, rfl, -, -⟩ := hc.slice
  have cL := long_any x y A B ca cb w lx ly
  have cM : Calls Try.prog 31 #[.slice C z.length cc, .slice none 0 0] w fun e w' => e = .returned (.bool (longB z [])) ∧ w = w' := long_any z [] C none cc 0 w lz (by simp)
  have HB0 : Hid (Below w.heap.size w w) := Lib.hid (Below.refl _ _)
  by_cases h1 : (x.length : Int) > 200 ∨ (y.length : Int) > 200
  · rw [show longB x y = true from decide_eq_true h1] at cL
    clear h1 ha hb hc wx wy cM
    go_enter Try.func9, Try.ntmps9
    go_wp2_with fail
    refine cL.mono ?_
    rintro e w' ⟨rfl, rfl⟩
    clear cL
    go_wp2_with fail
    go_ret
    exact ⟨rfl, HB0.out⟩
  rw [show longB x y = false from decide_eq_false h1] at cL
  by_cases h2 : (z.length : Int) > 200
  · rw [show longB z [] = true from decide_eq_true (.inl h2)] at cM
    clear h1 h2 ha hb hc wx wy
    go_enter Try.func9, Try.ntmps9
    go_wp2_with fail
    refine cL.mono ?_
    rintro e w' ⟨rfl, rfl⟩
    clear cL
    go_wp2_with fail
    refine cM.mono ?_
    rintro e w' ⟨rfl, rfl⟩
    clear cM
    go_wp2_with fail
    go_ret
    exact ⟨rfl, HB0.out⟩
  rw [show longB z [] = false from decide_eq_false (by simp; omega)] at cM
  have kx : x.length ≤ 1000 := by omega
  have ky : y.length ≤ 1000 := by omega
  have kz : z.length ≤ 1000 := by omega
  obtain ⟨ie, hie', z0, z1, z2⟩ := info_parts info_cint
  obtain ⟨A7, c7, w1, hap1, ho1, hb1⟩ := lit_app (R := inR) (w := w) (B := w.heap.size) (t := 32) Try.underlying32 hie' z0 z1 z2 rfl (by decide) ha (by unfold maxLen; omega) (by omega) (Nat.le_refl _)
  obtain ⟨A8, c8, w2, hap2, ho2, hb2⟩ := lit_app (R := inR) (w := w1) (B := w.heap.size) (t := 32) Try.underlying32 hie' z0 z1 z2 rfl (by decide) (hb.grow hb1) (by unfold maxLen; omega) (by omega) hb1.size
  have hb12 := hb1.trans (Joins.below_le hb2 hb1.size)
  obtain ⟨A9, c9, w3, hap3, ho3, hb3⟩ := lit_app (R := inR) (w := w2) (B := w.heap.size) (t := 32) Try.underlying32 hie' z0 z1 z2 rfl (by decide) (hc.grow hb12) (by unfold maxLen; omega) (by omega) hb12.size
  have hb13 := hb12.trans (Joins.below_le hb3 hb12.size)
  have HAP := Lib.hid (And.intro hap1 (And.intro hap2 hap3))
  have HX : Hid (∀ W, Below w3.heap.size w3 W → (inR.N W Any (.slice A7 x.length c7) x ∧ inR.N W Any (.slice A8 y.length c8) y ∧ inR.N W Any (.slice A9 z.length c9) z) ∧ (inR.N W Any (.slice A x.length ca) x ∧ inR.N W Any (.slice B y.length cb) y ∧ inR.N W Any (.slice C z.length cc) z) ∧ Below w.heap.size w W) := Lib.hid fun W hW =>
    ⟨⟨((ho1.n.any.grow hb2).grow hb3).grow hW, (ho2.n.any.grow hb3).grow hW, ho3.n.any.grow hW⟩, ⟨(ha.grow hb13).grow hW, (hb.grow hb13).grow hW, (hc.grow hb13).grow hW⟩, hb13.trans (Joins.below_le hW hb13.size)⟩
  have HW := Lib.hid (And.intro wx wy)
  have HR : Hid (Below w3.heap.size w3 w3) := Lib.hid (Below.refl _ _)
  clear h1 h2 ha hb hc wx wy hap1 hap2 hap3 ho1 ho2 ho3 hb1 hb2 hb3 hb12 hb13 hie' z0 z1 z2 HB0 lx ly lz
  go_enter Try.func9, Try.ntmps9
  go_wp2_with fail
  refine cL.mono ?_
  rintro e w' ⟨rfl, rfl⟩
  clear cL
  go_wp2_with fail
  refine cM.mono ?_
  rintro e w' ⟨rfl, rfl⟩
  clear cM
  go_upto_region 4 with (at_builtin; go_must (refine Lib.wpList_append_run _ rfl (.tmp 17) (.tmp 18) 32 32 rfl _ _ rfl rfl _ _ HAP.out.1 ?_))
  go_upto_region 5 with (at_builtin; go_must (refine Lib.wpList_append_run _ rfl (.tmp 20) (.tmp 21) 32 32 rfl _ _ rfl rfl _ _ HAP.out.2.1 ?_))
  go_wp2_with (at_builtin; go_must (refine Lib.wpList_append_run _ rfl (.tmp 23) (.tmp 24) 32 32 rfl _ _ rfl rfl _ _ HAP.out.2.2 ?_))
  clear HAP
  have c1 := check_any x _ w3 (HX.out w3 HR.out).1.1
  refine c1.mono ?_
  rintro e w' ⟨rfl, rfl⟩
  clear c1
  have c1 := checkR_any x _ w3 (HX.out w3 HR.out).2.1.1
  go_wp2_with fail
  refine c1.mono ?_
  rintro e w' ⟨rfl, nd, rfl⟩
  clear c1
  obtain ⟨w4, h4⟩ : ∃ w4, w4 = w3.drewN nd := ⟨_, rfl⟩
  have HR4 : Hid (Below w3.heap.size w3 w4) := Lib.hid (by rw [h4]; exact drewB _ HR.out)
  rw [← h4]
  clear h4 HR
  have e1 : (chk x == chk x) = true := by simp
  have c1 := won_any x y _ _ w4 (HX.out w4 HR4.out).1.1 (HX.out w4 HR4.out).1.2.1 kx ky HW.out.1 HW.out.2
  go_wp2_with fail
  refine c1.mono ?_
  rintro e w5 ⟨rfl, hb⟩
  clear c1 e1
  have HR5 : Hid (Below w3.heap.size w3 w5) := Lib.hid (HR4.out.trans (Joins.below_le hb HR4.out.size))
  clear hb HR4
  have c1 := wonR_any x y _ _ w5 (HX.out w5 HR5.out).2.1.1 (HX.out w5 HR5.out).2.1.2.1 kx
  go_wp2_with fail
  refine c1.mono ?_
  rintro e w6 ⟨rfl, hb⟩
  clear c1
  have HR6 : Hid (Below w3.heap.size w3 w6) := Lib.hid (HR5.out.trans (Joins.below_le hb HR5.out.size))
  clear hb HR5
  have e1 : (won x y == won x y) = true := by simp
  have c1 := common_any x z _ _ w6 (HX.out w6 HR6.out).1.1 (HX.out w6 HR6.out).1.2.2 kx HW.out.1
  go_wp2_with fail
  refine c1.mono ?_
  rintro e w7 ⟨rfl, hb⟩
  clear c1 e1
  have HR7 : Hid (Below w3.heap.size w3 w7) := Lib.hid (HR6.out.trans (Joins.below_le hb HR6.out.size))
  clear hb HR6
  have c1 := commonR_any x z _ _ w7 (HX.out w7 HR7.out).2.1.1 (HX.out w7 HR7.out).2.1.2.2 kx kz
  rw [← common_R] at c1
  obtain ⟨k, hk⟩ : ∃ k, k = common x z := ⟨_, rfl⟩
  rw [← hk] at c1 ⊢
  clear hk
  go_wp2_with fail
  refine c1.mono ?_
  rintro e w8 ⟨rfl, hb⟩
  clear c1
  have HR8 : Hid (Below w3.heap.size w3 w8) := Lib.hid (HR7.out.trans (Joins.below_le hb HR7.out.size))
  clear hb HR7
  have e1 : (k == k) = true := by simp
  have c1 := intsR_any x x _ _ w8 (HX.out w8 HR8.out).1.1 (HX.out w8 HR8.out).2.1.1
  rw [show sameI x x = true from decide_eq_true rfl] at c1
  go_wp2_with fail
  refine c1.mono ?_
  rintro e w9 ⟨rfl, hb⟩
  clear c1 e1
  have HR9 : Hid (Below w3.heap.size w3 w9) := Lib.hid (HR8.out.trans (Joins.below_le hb HR8.out.size))
  clear hb HR8
  have c1 := intsR_any y y _ _ w9 (HX.out w9 HR9.out).1.2.1 (HX.out w9 HR9.out).2.1.2.1
  rw [show sameI y y = true from decide_eq_true rfl] at c1
  go_wp2_with fail
  refine c1.mono ?_
  rintro e w10 ⟨rfl, hb⟩
  clear c1
  have HR10 : Hid (Below w3.heap.size w3 w10) := Lib.hid (HR9.out.trans (Joins.below_le hb HR9.out.size))
  clear hb HR9
  have c1 := intsR_any z z _ _ w10 (HX.out w10 HR10.out).1.2.2 (HX.out w10 HR10.out).2.1.2.2
  rw [show sameI z z = true from decide_eq_true rfl] at c1
  go_wp2_with fail
  refine c1.mono ?_
  rintro e w11 ⟨rfl, hb⟩
  clear c1
  have HF := Lib.hid (HX.out w11 (HR10.out.trans (Joins.below_le hb HR10.out.size))).2.2
  clear hb
  go_wp2_with fail
  go_ret
  exact ⟨rfl, HF.out⟩
end Go.Proofs.Ytblbcoknefgcaaa
