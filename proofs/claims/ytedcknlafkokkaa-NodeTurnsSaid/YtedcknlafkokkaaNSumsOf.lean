/-
  Sums of sizes: the program's sumsOf. No statement is proved here. No condition.
-/
import Derived.Test.YtedcknlafkokkaaNSums
namespace Go.Proofs.Ytedcknlafkokkaa
open Go.RowKit

set_option maxHeartbeats 2000000 in
set_option maxRecDepth 100000 in
theorem sumsC_any (l : List PC) (leaf : Bool) (v : Value) (p : Nat) (w : World) (h : CsN w Any v l) (hs : ∀ c ∈ l, c.small) (hl : l.length ≤ 1000) (hp : w.cell? ⟨p, 0, none⟩ = some (.bool leaf)) (hpl : p < w.heap.size) :
    Calls Try.prog 76 #[v, .func (.func 77) #[] #[.pointer (some ⟨p, 0, none⟩)]] w fun e w' => ∃ A c, e = .returned (.slice A (l.length + 1) c) ∧ w'.ownsRow w.heap.size 3 1 (.slice A (l.length + 1) c) (l.length + 1) (KsV (pre (szC leaf) l)) ∧ Below w.heap.size w w' := by
  obtain ⟨iu, hiu, z0, z1, z2⟩ := info_parts info_I
  obtain ⟨Al, cl, rfl, -, -⟩ := h.slice
  obtain ⟨w1, hw1⟩ : ∃ w1, w1 = w.alloc (.cells #[.int .i64 0] 3) := ⟨_, rfl⟩
  have hb1 : Below w.heap.size w w1 := by rw [hw1]; exact (Below.refl _ _).alloc (Nat.le_refl _) _
  have ho1 : w1.ownsRow w.heap.size 3 1 (.slice (some ⟨w.heap.size, 0, none⟩) 1 1) 1 (KsV (pre (szC leaf) (l.take 0))) := by
    rw [hw1]
    exact World.ownsRow_lit w #[.int .i64 0] 1 (Nat.le_refl _) (by unfold maxLen; omega) (by simp)
  have HO1 := Lib.hid ho1
  have HB1 := Lib.hid hb1
  have HC := Lib.hid h
  have HS' := Lib.hid hs
  rw [hw1] at HO1 HB1
  clear ho1 hb1 hw1 h
  go_enter Try.func76, Try.ntmps76
  go_wp2_with fail
  go_loopw [5, 6, 7, 11] (fun s5 _ _ s11 wr => ∃ i : Nat, s11 = .int .i64 (i : Int) ∧ i ≤ l.length ∧ Hid (wr.ownsRow w.heap.size 3 1 s5 (i + 1) (KsV (pre (szC leaf) (l.take i)))) ∧ Hid (Below w.heap.size w wr)) (fun _ _ _ s11 _ => l.length - (intOf s11).toNat)
  case atStart => exact ⟨0, rfl, Nat.zero_le _, HO1, HB1⟩
  case round =>
    clear HO1 HB1
    obtain ⟨i, rfl, hi, ho, hbw⟩ := hrel
    obtain ⟨wz, hwz⟩ : ∃ wz : World, wz = wr := ⟨_, rfl⟩
    subst hwz
    obtain ⟨g, cap, hform, hg1, hg2⟩ := ho.out.form (by omega)
    subst hform
    have hsz := hbw.out.size
    by_cases hil : i < l.length
    · have a1 : (i : Int) < (l.length : Int) := by omega
      have a0 : (0 : Int) ≤ (i : Int) := by omega
      obtain ⟨c, hci⟩ : ∃ c, l[i]? = some c := ⟨_, List.getElem?_eq_getElem hil⟩
      have hcm := List.mem_of_getElem? hci
      obtain ⟨b, o, n', k', hv, -, hbs, c0, c1, c2, c3⟩ := (HC.out.grow hbw.out).cell hci
      injection hv with e1 e2 e3
      subst e1 e2 e3
      obtain ⟨s, hs⟩ : ∃ s, s = tot (szC leaf) (l.take i) := ⟨_, rfl⟩
      have hsb : s ≤ 1000 * 21000 := by
        rw [hs]
        refine Nat.le_trans (tot_le (m := 21000) (fun x hx => ?_)) (Nat.mul_le_mul_right _ (by rw [List.length_take]; omega))
        exact PC.by_length leaf (HS'.out x (List.mem_of_mem_take hx))
      obtain ⟨z, hz⟩ : ∃ z, z = (szC leaf) c := ⟨_, rfl⟩
      have hzb : z ≤ 21000 := by rw [hz]; exact PC.by_length leaf (HS'.out c hcm)
      have hti : (l.take i).length = i := by rw [List.length_take]; omega
      have hgi : (pre (szC leaf) (l.take i))[i]? = some ((s : Nat) : Int) := by
        rw [hs]
        have := pre_get (szC leaf) (l.take i) (i := i) (by omega)
        rw [List.take_take, Nat.min_self] at this
        exact this
      have hnew : KsV (pre (szC leaf) (l.take i)) ++ [.int .i64 ((s : Int) + (z : Int))] = KsV (pre (szC leaf) (l.take (i + 1))) := by
        rw [take_succ_snoc hci, pre_snoc, KsV_append, hs, hz]
        simp [KsV]
      obtain ⟨wa, hwa⟩ : ∃ wa, wa = wz.alloc (.cells #[.string c.key, .string c.val, .int .i64 c.long, .int .i64 c.size] 59) := ⟨_, rfl⟩
      have hba : Below wz.heap.size wz wa := by rw [hwa]; exact (Below.refl _ _).alloc (Nat.le_refl _) _
      have hxa : wa.heap[wz.heap.size]? = some (.cells #[.string c.key, .string c.val, .int .i64 c.long, .int .i64 c.size] 59 (0, 0)) := by rw [hwa]; exact heap_alloc_new wz _
      have v0 : wa.drew.cell? ⟨wz.heap.size, 0, none⟩ = some (.string c.key) := (row_cells hxa).1 0
      have v1 : wa.drew.cell? ⟨wz.heap.size, 1, none⟩ = some (.string c.val) := (row_cells hxa).1 1
      have v2 : wa.drew.cell? ⟨wz.heap.size, 2, none⟩ = some (.int .i64 c.long) := (row_cells hxa).1 2
      have v3 : wa.drew.cell? ⟨wz.heap.size, 3, none⟩ = some (.int .i64 c.size) := (row_cells hxa).1 3
      have HWE := Lib.hid hwa
      have hoa := row_same ho.out (w' := wa) fun p' hp' => hba.block p' (ho.out.lt p' hp').2
      have q0 : wa.cell? ⟨g, i, none⟩ = some (.int .i64 (s : Int)) := by
        have := hoa.cells (g := g) rfl i _ (KsV_get hgi)
        rw [plus_zero, Nat.zero_add] at this
        exact this
      have b1 : (i : Int) < (i : Int) + 1 := by omega
      have hsum : IntKind.i64.wrap ((s : Int) + (z : Int)) = (s : Int) + (z : Int) := wrapS _ (by omega) (by omega)
      have hcall : ∀ W, Below w.heap.size w W → Calls Try.prog 77 #[c.agg, .pointer (some ⟨p, 0, none⟩)] W fun e w' => e = .returned (.int .i64 (z : Int)) ∧ Below W.heap.size W w' := fun W hW => by
        rw [hz]
        exact closeC_any c leaf p W (HS'.out c hcm) ((hW.cell (p := ⟨p, 0, none⟩) hpl).trans hp) (by have := hW.size; omega)
      have hap : ∀ wy, Below wa.heap.size wa wy → ∃ A7 c7 w7, (Builtin.append_ #[105, 105] 105 #[.slice (some ⟨g, 0, none⟩) (i + 1) cap, .slice (some ⟨wy.heap.size, 0, none⟩) 1 1]).run Try.prog (wy.alloc (.cells #[.int .i64 ((s : Int) + (z : Int))] 3)) = .ok (.slice A7 (i + 1 + 1) c7) w7 ∧ w7.ownsRow w.heap.size 3 1 (.slice A7 (i + 1 + 1) c7) (i + 1 + 1) (KsV (pre (szC leaf) (l.take (i + 1)))) ∧ Below w.heap.size w w7 := by
        intro wy hy
        have hyb : Below wy.heap.size wy (wy.alloc (.cells #[.int .i64 ((s : Int) + (z : Int))] 3)) := (Below.refl _ _).alloc (Nat.le_refl _) _
        have hoy := row_same hoa (w' := wy) fun p' hp' => hy.block p' (hoa.lt p' hp').2
        have hob := row_same hoy (w' := wy.alloc (.cells #[.int .i64 ((s : Int) + (z : Int))] 3)) fun p' hp' => hyb.block p' (hoy.lt p' hp').2
        have hrow : RowAt (wy.alloc (.cells #[.int .i64 ((s : Int) + (z : Int))] 3)) (.slice (some ⟨wy.heap.size, 0, none⟩) 1 1) 1 1 [.int .i64 ((s : Int) + (z : Int))] := RowAt.of_own (World.ownsRow_lit wy #[.int .i64 ((s : Int) + (z : Int))] 1 (Nat.le_refl _) (by unfold maxLen; omega) (by simp))
        have hs1 := hyb.size
        have hs2 := hy.size
        have hs3 := hba.size
        have hwb : Below w.heap.size w (wy.alloc (.cells #[.int .i64 ((s : Int) + (z : Int))] 3)) := ((hbw.out.trans (Joins.below_le hba hsz)).trans (Joins.below_le hy (by omega))).trans (Joins.below_le hyb (by omega))
        obtain ⟨A7, c7, w7, hr, h2, h3, -⟩ := run_appAt (P := Try.prog) w.heap.size 105 105 3 iu _ 1 8 under_S hiu z0 z1 z2 rfl (by decide) _ _ (i + 1) _ hob 1 _ hrow (by intro u hu; simp at hu; subst hu; rfl) (by unfold maxLen; omega) (by omega) hwb.size
        rw [hnew] at h2
        exact ⟨A7, c7, w7, hr, h2, hwb.grown h3 hwb.size (fun p' hp' => (hob.lt p' hp').1)⟩
      have HAPS := Lib.hid hap
      unfold PC.agg at hcall
      have HCALL := Lib.hid hcall
      have HBA := Lib.hid hba
      have hgl : g < wa.heap.size := (hoa.lt g rfl).2
      have hwa' : Below w.heap.size w wa := hbw.out.trans (Joins.below_le hba hsz)
      have HWA := Lib.hid hwa'
      have q0' : wa.drew.cell? ⟨g, i, none⟩ = some (.int .i64 (s : Int)) := q0
      have hbe : Below wa.heap.size wa wa.drew := (Below.refl _ _).drew
      clear hap hcall hba hoa hnew hgi hs hz hcm ho hwa'
      go_upto_region 5 with fail
      rw [← HWE.out]
      clear c0 c1 c2 c3 hwa hxa
      go_region_law (first | (refine stepApp rfl (.tmp 16) (.tmp 25) 105 rfl _ _ rfl rfl HAP.out ?_) | (go_simp; go_at_call 77; refine (HCALL.out _ (HWA.out.trans (Joins.below_le hbe HWA.out.size))).mono ?_; rintro e wy ⟨rfl, hby⟩; replace hbe := hbe.trans (Joins.below_le hby hbe.size); obtain ⟨A7, c7, w7, hr7, ho7, hb7⟩ := HAPS.out _ hbe; have HAP := Lib.hid hr7; have HO7 := Lib.hid ho7; have HB7 := Lib.hid hb7; have q1 : wy.cell? ⟨g, i, none⟩ = some (.int .i64 (s : Int)) := (hbe.cell (p := ⟨g, i, none⟩) hgl).trans q0; clear hr7 ho7 hb7 q0'))
      all_goals
        clear HAP
        go_wp2_with fail
        exact ⟨⟨i + 1, by go_num, hil, HO7, HB7⟩, by simp [intOf]; omega⟩
    · have a1 : ¬ (i : Int) < (l.length : Int) := by omega
      have hie : i = l.length := by omega
      have ho' := ho.out
      rw [hie, List.take_length] at ho'
      have HO' := Lib.hid ho'
      have HIE := Lib.hid hie
      clear ho' ho hie
      go_wp2_with fail
      go_ret
      rw [HIE.out] at *
      exact ⟨_, _, rfl, HO'.out, hbw.out⟩
set_option maxHeartbeats 2000000 in
set_option maxRecDepth 100000 in
theorem sumsK_any (l : List Int) (v : Value) (w : World) (h : KsN w Any v l) (hl : l.length ≤ 1000) :
    Calls Try.prog 78 #[v, .func (.func 40) #[] #[]] w fun e w' => ∃ A c, e = .returned (.slice A (l.length + 1) c) ∧ w'.ownsRow w.heap.size 3 1 (.slice A (l.length + 1) c) (l.length + 1) (KsV (pre szK l)) ∧ Below w.heap.size w w' := by
  obtain ⟨iu, hiu, z0, z1, z2⟩ := info_parts info_I
  obtain ⟨Al, cl, rfl, -, -⟩ := h.slice
  obtain ⟨w1, hw1⟩ : ∃ w1, w1 = w.alloc (.cells #[.int .i64 0] 3) := ⟨_, rfl⟩
  have hb1 : Below w.heap.size w w1 := by rw [hw1]; exact (Below.refl _ _).alloc (Nat.le_refl _) _
  have ho1 : w1.ownsRow w.heap.size 3 1 (.slice (some ⟨w.heap.size, 0, none⟩) 1 1) 1 (KsV (pre szK (l.take 0))) := by
    rw [hw1]
    exact World.ownsRow_lit w #[.int .i64 0] 1 (Nat.le_refl _) (by unfold maxLen; omega) (by simp)
  have HO1 := Lib.hid ho1
  have HB1 := Lib.hid hb1
  have HC := Lib.hid h
  rw [hw1] at HO1 HB1
  clear ho1 hb1 hw1 h
  go_enter Try.func78, Try.ntmps78
  go_wp2_with fail
  go_loopw [5, 6, 7, 11] (fun s5 _ _ s11 wr => ∃ i : Nat, s11 = .int .i64 (i : Int) ∧ i ≤ l.length ∧ Hid (wr.ownsRow w.heap.size 3 1 s5 (i + 1) (KsV (pre szK (l.take i)))) ∧ Hid (Below w.heap.size w wr)) (fun _ _ _ s11 _ => l.length - (intOf s11).toNat)
  case atStart => exact ⟨0, rfl, Nat.zero_le _, HO1, HB1⟩
  case round =>
    clear HO1 HB1
    obtain ⟨i, rfl, hi, ho, hbw⟩ := hrel
    obtain ⟨wz, hwz⟩ : ∃ wz : World, wz = wr := ⟨_, rfl⟩
    subst hwz
    obtain ⟨g, cap, hform, hg1, hg2⟩ := ho.out.form (by omega)
    subst hform
    have hsz := hbw.out.size
    by_cases hil : i < l.length
    · have a1 : (i : Int) < (l.length : Int) := by omega
      have a0 : (0 : Int) ≤ (i : Int) := by omega
      obtain ⟨c, hci⟩ : ∃ c, l[i]? = some c := ⟨_, List.getElem?_eq_getElem hil⟩
      have hcm := List.mem_of_getElem? hci
      obtain ⟨b, o, n', k', hv, -, hbs, c0⟩ := (HC.out.grow hbw.out).cell hci
      injection hv with e1 e2 e3
      subst e1 e2 e3
      obtain ⟨s, hs⟩ : ∃ s, s = tot szK (l.take i) := ⟨_, rfl⟩
      have hsb : s ≤ 1000 * 21000 := by
        rw [hs]
        refine Nat.le_trans (tot_le (m := 21000) (fun x hx => ?_)) (Nat.mul_le_mul_right _ (by rw [List.length_take]; omega))
        exact Nat.le_trans (cnt_length x) (by omega)
      obtain ⟨z, hz⟩ : ∃ z, z = szK c := ⟨_, rfl⟩
      have hzb : z ≤ 21000 := by rw [hz]; exact Nat.le_trans (cnt_length c) (by omega)
      have hti : (l.take i).length = i := by rw [List.length_take]; omega
      have hgi : (pre szK (l.take i))[i]? = some ((s : Nat) : Int) := by
        rw [hs]
        have := pre_get szK (l.take i) (i := i) (by omega)
        rw [List.take_take, Nat.min_self] at this
        exact this
      have hnew : KsV (pre szK (l.take i)) ++ [.int .i64 ((s : Int) + (z : Int))] = KsV (pre szK (l.take (i + 1))) := by
        rw [take_succ_snoc hci, pre_snoc, KsV_append, hs, hz]
        simp [KsV]
      obtain ⟨wa, hwa⟩ : ∃ wa, wa = wz := ⟨_, rfl⟩
      have hba : Below wz.heap.size wz wa := by rw [hwa]; exact Below.refl _ _
      have HWE := Lib.hid hwa
      have hoa := row_same ho.out (w' := wa) fun p' hp' => hba.block p' (ho.out.lt p' hp').2
      have q0 : wa.cell? ⟨g, i, none⟩ = some (.int .i64 (s : Int)) := by
        have := hoa.cells (g := g) rfl i _ (KsV_get hgi)
        rw [plus_zero, Nat.zero_add] at this
        exact this
      have b1 : (i : Int) < (i : Int) + 1 := by omega
      have hsum : IntKind.i64.wrap ((s : Int) + (z : Int)) = (s : Int) + (z : Int) := wrapS _ (by omega) (by omega)
      have hcall : ∀ W, Below w.heap.size w W → Calls Try.prog 40 #[.int .i64 c] W fun e w' => e = .returned (.int .i64 (z : Int)) ∧ Below W.heap.size W w' := fun W hW => by
        rw [hz]
        exact countsize_any c W
      have hap : ∀ wy, Below wa.heap.size wa wy → ∃ A7 c7 w7, (Builtin.append_ #[105, 105] 105 #[.slice (some ⟨g, 0, none⟩) (i + 1) cap, .slice (some ⟨wy.heap.size, 0, none⟩) 1 1]).run Try.prog (wy.alloc (.cells #[.int .i64 ((s : Int) + (z : Int))] 3)) = .ok (.slice A7 (i + 1 + 1) c7) w7 ∧ w7.ownsRow w.heap.size 3 1 (.slice A7 (i + 1 + 1) c7) (i + 1 + 1) (KsV (pre szK (l.take (i + 1)))) ∧ Below w.heap.size w w7 := by
        intro wy hy
        have hyb : Below wy.heap.size wy (wy.alloc (.cells #[.int .i64 ((s : Int) + (z : Int))] 3)) := (Below.refl _ _).alloc (Nat.le_refl _) _
        have hoy := row_same hoa (w' := wy) fun p' hp' => hy.block p' (hoa.lt p' hp').2
        have hob := row_same hoy (w' := wy.alloc (.cells #[.int .i64 ((s : Int) + (z : Int))] 3)) fun p' hp' => hyb.block p' (hoy.lt p' hp').2
        have hrow : RowAt (wy.alloc (.cells #[.int .i64 ((s : Int) + (z : Int))] 3)) (.slice (some ⟨wy.heap.size, 0, none⟩) 1 1) 1 1 [.int .i64 ((s : Int) + (z : Int))] := RowAt.of_own (World.ownsRow_lit wy #[.int .i64 ((s : Int) + (z : Int))] 1 (Nat.le_refl _) (by unfold maxLen; omega) (by simp))
        have hs1 := hyb.size
        have hs2 := hy.size
        have hs3 := hba.size
        have hwb : Below w.heap.size w (wy.alloc (.cells #[.int .i64 ((s : Int) + (z : Int))] 3)) := ((hbw.out.trans (Joins.below_le hba hsz)).trans (Joins.below_le hy (by omega))).trans (Joins.below_le hyb (by omega))
        obtain ⟨A7, c7, w7, hr, h2, h3, -⟩ := run_appAt (P := Try.prog) w.heap.size 105 105 3 iu _ 1 8 under_S hiu z0 z1 z2 rfl (by decide) _ _ (i + 1) _ hob 1 _ hrow (by intro u hu; simp at hu; subst hu; rfl) (by unfold maxLen; omega) (by omega) hwb.size
        rw [hnew] at h2
        exact ⟨A7, c7, w7, hr, h2, hwb.grown h3 hwb.size (fun p' hp' => (hob.lt p' hp').1)⟩
      have HAPS := Lib.hid hap
      have HCALL := Lib.hid hcall
      have HBA := Lib.hid hba
      have hgl : g < wa.heap.size := (hoa.lt g rfl).2
      have hwa' : Below w.heap.size w wa := hbw.out.trans (Joins.below_le hba hsz)
      have HWA := Lib.hid hwa'
      have q0' : wa.drew.cell? ⟨g, i, none⟩ = some (.int .i64 (s : Int)) := q0
      have hbe : Below wa.heap.size wa wa.drew := (Below.refl _ _).drew
      clear hap hcall hba hoa hnew hgi hs hz hcm ho hwa'
      go_upto_region 5 with fail
      rw [← HWE.out]
      clear c0 hwa
      go_region_law (first | (refine stepApp rfl (.tmp 16) (.tmp 25) 105 rfl _ _ rfl rfl HAP.out ?_) | (go_simp; go_at_call 40; refine (HCALL.out _ (HWA.out.trans (Joins.below_le hbe HWA.out.size))).mono ?_; rintro e wy ⟨rfl, hby⟩; replace hbe := hbe.trans (Joins.below_le hby hbe.size); obtain ⟨A7, c7, w7, hr7, ho7, hb7⟩ := HAPS.out _ hbe; have HAP := Lib.hid hr7; have HO7 := Lib.hid ho7; have HB7 := Lib.hid hb7; have q1 : wy.cell? ⟨g, i, none⟩ = some (.int .i64 (s : Int)) := (hbe.cell (p := ⟨g, i, none⟩) hgl).trans q0; clear hr7 ho7 hb7 q0'))
      all_goals
        clear HAP
        go_wp2_with fail
        exact ⟨⟨i + 1, by go_num, hil, HO7, HB7⟩, by simp [intOf]; omega⟩
    · have a1 : ¬ (i : Int) < (l.length : Int) := by omega
      have hie : i = l.length := by omega
      have ho' := ho.out
      rw [hie, List.take_length] at ho'
      have HO' := Lib.hid ho'
      have HIE := Lib.hid hie
      clear ho' ho hie
      go_wp2_with fail
      go_ret
      rw [HIE.out] at *
      exact ⟨_, _, rfl, HO'.out, hbw.out⟩
end Go.Proofs.Ytedcknlafkokkaa
