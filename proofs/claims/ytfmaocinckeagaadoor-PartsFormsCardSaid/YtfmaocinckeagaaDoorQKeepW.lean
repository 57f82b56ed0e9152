/-
  The program's keep walked. No statement is proved here. No condition.
-/
import Derived.Test.YtfmaocinckeagaaDoorQKeep
namespace Go.Proofs.YtfmaocinckeagaaDoor
open Go.RowKit

/-- room for one more -/
def roomL : List KE → List KE
  | [] => []
  | a :: l => if 16 ≤ (a :: l).length then dropL (a :: l) a.key else a :: l
theorem roomL_full {L : List KE} {a : KE} {l : List KE} (h : L = a :: l) (h16 : 16 ≤ L.length) : roomL L = dropL L a.key := by
  subst h
  exact if_pos h16
theorem roomL_free {L : List KE} (h16 : ¬ 16 ≤ L.length) : roomL L = L := by
  cases L with
  | nil => rfl
  | cons a l => exact if_neg h16
theorem findA_in {L : List KE} (h : (L.map KE.key).Nodup) {x : KE} (hx : x ∈ L) : findA (pairs L) x.key = some x.p := by
  cases hf : findA (pairs L) x.key with
  | none => exact absurd rfl (findA_none hf x hx)
  | some p =>
    obtain ⟨e, he, hk, hp⟩ := findA_some hf
    rw [← hp, key_one h he hx hk]
set_option maxHeartbeats 4000000 in
set_option maxRecDepth 100000 in
theorem pkeep_old {w : World} {G : Nat → Prop} {j mb n : Nat} {rv : Value} {L : List KE} (h : JAt w G j mb rv n L) {x : KE} (hx : x ∈ L) (u : Value) :
    Calls Tryd.prog 24 #[.pointer (some ⟨j, 0, none⟩), x.key.v, u] w fun r w' => r = .returned (.tuple #[]) ∧ Below w.heap.size w w' := by
  obtain ⟨w1, hw1⟩ : ∃ w1, w1 = w.alloc (.cells #[.int .i64 x.key.1, .int .i64 x.key.2] 67) := ⟨_, rfl⟩
  have hb1 : Below w.heap.size w w1 := by rw [hw1]; exact (Below.refl _ _).alloc (Nat.le_refl _) _
  obtain ⟨q, hq⟩ : ∃ q, q = w.heap.size := ⟨_, rfl⟩
  have hx1 : w1.heap[q]? = some (.cells #[.int .i64 x.key.1, .int .i64 x.key.2] 67 (0, 0)) := by rw [hw1, hq]; exact heap_alloc_new w _
  obtain ⟨x0, x1⟩ : w1.cell? ⟨q, 0, none⟩ = some (.int .i64 x.key.1) ∧ w1.cell? ⟨q, 1, none⟩ = some (.int .i64 x.key.2) := ⟨(blk_cells hx1).1 0, (blk_cells hx1).1 1⟩
  have h1 := h.grow hb1
  have c0 : w1.cell? ⟨j, 0, none⟩ = some (.map (some mb)) := (blk_cells h1.obj).1 0
  have hlook := MapJ.look (w := w1.drew) (h1.map.same rfl) (h.good x hx)
  rw [findA_in h.keys hx] at hlook
  unfold ptrO at hlook
  have HW1 := Lib.hid hw1
  have HQ := Lib.hid hq
  have HB1 := Lib.hid hb1
  unfold Key.v at hlook ⊢
  clear hw1 hq hb1 hx1 h1 h
  go_enter Tryd.func24, Tryd.ntmps24
  go_upto_region 1 with fail
  rw [← HW1.out, ← HQ.out]
  go_region
  go_wp2_with fail
  refine bodyPost_ret (v := .tuple #[]) (results_none rfl _ _ _) rfl ?_
  exact ⟨rfl, HB1.out.drew⟩
set_option maxHeartbeats 8000000 in
set_option maxRecDepth 100000 in
theorem pkeep_new {w : World} {G : Nat → Prop} {j mb n : Nat} {rv : Value} {L : List KE} (h : JAt w G j mb rv n L) {x : KE} (hm : MsgAt w x) (hxk : x.key.good) (hno : ∀ y ∈ L, y.key ≠ x.key) (hp : ∀ y ∈ L, y.p ≠ x.p) (hs : ∀ y ∈ L, y.s ≠ x.s) (hgp : G x.p) (hgs : G x.s) (hfr : ∀ b, w.heap.size ≤ b → G b) (hn : n < maxLen) (hL : L.length ≤ 1000) :
    Calls Tryd.prog 24 #[.pointer (some ⟨j, 0, none⟩), x.key.v, .pointer (some ⟨x.p, 0, none⟩)] w fun r w' => r = .returned (.tuple #[]) ∧ ∃ rv', JAt w' G j mb rv' (n + 1) (roomL L ++ [x]) ∧ Kept w w' G := by
  obtain ⟨w1, hw1⟩ : ∃ w1, w1 = w.alloc (.cells #[.int .i64 x.key.1, .int .i64 x.key.2] 67) := ⟨_, rfl⟩
  have hb1 : Below w.heap.size w w1 := by rw [hw1]; exact (Below.refl _ _).alloc (Nat.le_refl _) _
  obtain ⟨q, hq⟩ : ∃ q, q = w.heap.size := ⟨_, rfl⟩
  have hx1 : w1.heap[q]? = some (.cells #[.int .i64 x.key.1, .int .i64 x.key.2] 67 (0, 0)) := by rw [hw1, hq]; exact heap_alloc_new w _
  obtain ⟨x0, x1⟩ : w1.cell? ⟨q, 0, none⟩ = some (.int .i64 x.key.1) ∧ w1.cell? ⟨q, 1, none⟩ = some (.int .i64 x.key.2) := ⟨(blk_cells hx1).1 0, (blk_cells hx1).1 1⟩
  have h1 := h.grow hb1
  have c0 : w1.cell? ⟨j, 0, none⟩ = some (.map (some mb)) := (blk_cells h1.obj).1 0
  have hlook := MapJ.look (w := w1.drew) (h1.map.same rfl) hxk
  rw [findA_not hno] at hlook
  unfold ptrO at hlook
  obtain ⟨w2, hw2⟩ : ∃ w2, w2 = w1.drew := ⟨_, rfl⟩
  have hb2 : Below w.heap.size w w2 := by rw [hw2]; exact hb1.drew
  have h2 := h.grow hb2
  have hx2 : w2.heap[q]? = some (.cells #[.int .i64 x.key.1, .int .i64 x.key.2] 67 (0, 0)) := by rw [hw2]; exact hx1
  have hm2 := hm.grow hb2
  have hK2 : Kept w w2 G := ⟨hb2.os, hb2.tape, hb2.output, hb2.size, fun b hb _ => hb2.block b hb⟩
  obtain ⟨A, c, hrv⟩ := h.row.slice
  rw [List.length_map] at hrv
  have hqf : ∀ b, foot j mb rv L b → b ≠ q := fun b hb => by have := (foot_sub h hb).2; omega
  obtain ⟨R, hR⟩ : ∃ R, R = roomL L := ⟨_, rfl⟩
  rw [← hR]
  have HW1 := Lib.hid hw1
  have HQ := Lib.hid hq
  have HW2 := Lib.hid hw2
  have H2 := Lib.hid h2
  have HX2 := Lib.hid hx2
  have HM2 := Lib.hid hm2
  have HK2 := Lib.hid hK2
  have HQF := Lib.hid hqf
  have HR := Lib.hid hR
  have HFR := Lib.hid (show ∀ b, w2.heap.size ≤ b → G b from fun b hb => hfr b (Nat.le_trans hb2.size hb))
  have z2 : w2.cell? ⟨j, 1, none⟩ = some rv := (blk_cells h2.obj).1 1
  subst hrv
  by_cases h16 : 16 ≤ L.length
  · have b1 : (16 : Int) ≤ (L.length : Int) := by omega
    obtain ⟨a, l', hl'⟩ : ∃ a l', L = a :: l' := by
      cases L with
      | nil => simp at h16
      | cons a l' => exact ⟨a, l', rfl⟩
    have haL : a ∈ L := by rw [hl']; exact List.mem_cons_self
    have hag := h2.good a haL
    obtain ⟨b, o, n', c', hv, -, hbl, k0, k1⟩ := keyc_cell h2.row.n (i := 0) (a := a.key) (by rw [hl']; rfl)
    injection hv with e1 e2 e3
    subst e1 e3
    clear e2
    rw [Nat.zero_mul, Nat.add_zero] at k0 k1
    have cD := pdrop_any h2.tight a.key hag (by omega)
    unfold Key.v at cD hlook ⊢
    have hRd : R = dropL L a.key := hR.trans (roomL_full hl' h16)
    have HRD := Lib.hid hRd
    have HSUB := Lib.hid (dropL_sub L a.key)
    have d0 : (0 : Int) < (L.length : Int) := by omega
    clear hR hRd hw1 hq hb1 hx1 h1 h hw2 hb2 h2 hx2 hm2 hK2 hqf hm hl' haL hag hfr
    go_enter Tryd.func24, Tryd.ntmps24
    go_upto_region 1 with fail
    rw [← HW1.out, ← HQ.out]
    go_region
    rw [← HW2.out]
    clear hlook x0 x1 c0
    go_wp2_with fail
    refine cD.mono ?_
    rintro r w3 ⟨rfl, rv3, hJ3, hK3⟩
    clear cD z2 k0 k1
    have hJ3G : JAt w3 G j mb rv3 n R := by rw [HRD.out]; exact hJ3.mono fun y _ hy => (foot_sub H2.out hy).1
    have hx3 := (hK3.block q (Array.getElem?_eq_some_iff.1 HX2.out).1 (fun e => HQF.out q e rfl)).trans HX2.out
    have hout := MsgAt.out H2.out HM2.out hp hs
    have hm3 : MsgAt w3 x := HM2.out.same (hK3.block _ HM2.out.ltp hout.1) (hK3.block _ HM2.out.lts hout.2)
    have hK3G : Kept w w3 G := HK2.out.trans hK3 fun y hy => .inl (foot_sub H2.out hy).1
    have hsub : ∀ y ∈ R, y ∈ L := by rw [HRD.out]; exact fun y hy => HSUB.out.subset hy
    have hfr3 : ∀ y, w3.heap.size ≤ y → G y := fun y hy => HFR.out y (Nat.le_trans hK3.size hy)
    have hRl : R.length ≤ 1000 := by rw [HRD.out]; exact Nat.le_trans HSUB.out.length_le hL
    clear hJ3 hK3 hout
    have heqm : ∀ W, (binOp .eql 60 (.map (some mb)) (.map none)).run Tryd.prog W = .ok (.bool false) W := fun W => by kernel_rfl
    have d3 : w3.cell? ⟨j, 0, none⟩ = some (.map (some mb)) := (blk_cells hJ3G.obj).1 0
    have hHJ3 := Lib.hid hJ3G
    have hHX3 := Lib.hid hx3
    have hHM3 := Lib.hid hm3
    have hHK3 := Lib.hid hK3G
    have hHF3 := Lib.hid hfr3
    have hSUB := Lib.hid hsub
    clear hJ3G hx3 hm3 hK3G hfr3 hsub
    go_upto_region 6 with fail
    obtain ⟨y0, y1⟩ : w3.cell? ⟨q, 0, none⟩ = some (.int .i64 x.key.1) ∧ w3.cell? ⟨q, 1, none⟩ = some (.int .i64 x.key.2) := ⟨(blk_cells hHX3.out).1 0, (blk_cells hHX3.out).1 1⟩
    have hnoR : ∀ y ∈ R, y.key ≠ x.key := fun y hy => hno y (hSUB.out y hy)
    obtain ⟨w4, hput, hm4, ht4⟩ := MapJ.put (w := w3.drew) (hHJ3.out.map.same rfl) hxk hn (findA_not hnoR) x.p
    have hg4 := ht4.grown
    have hsame : ∀ b, b < w3.heap.size → b ≠ mb → w4.heap[b]? = w3.heap[b]? := fun b hb hne => hg4.block b hb (fun e => hne (by injection e))
    have hjm := hHJ3.out.jm
    have hmr := hHJ3.out.mr
    have hjr := hHJ3.out.jr
    have ho4 := (hsame j hHJ3.out.lt hjm).trans hHJ3.out.obj
    have hr4 : keyR.Own w4 0 67 rv3 (R.map KE.key) := row_same hHJ3.out.row fun p hp => hsame p (hHJ3.out.row.lt p hp).2 (fun e => hmr (by rw [← e]; exact hp))
    have hqm : q ≠ mb := by
      obtain ⟨es, cc, hmm⟩ := hHJ3.out.map.is_map
      exact apart_M hHX3.out hmm
    have hx4 := (hsame q (Array.getElem?_eq_some_iff.1 hHX3.out).1 hqm).trans hHX3.out
    have hK4 : Kept w w4 G := (hHK3.out.trans (Kept.drew _ G) fun y hy => .inl hy).trans (Kept.grown hg4 (fun b hb => by injection hb with hb; rw [← hb]; exact hHJ3.out.gm)) fun y hy => .inl hy
    have hz4 : w3.heap.size ≤ w4.heap.size := hg4.size
    unfold Key.v at hput
    have hHO4 := Lib.hid ho4
    have hHR4 := Lib.hid hr4
    have hHX4 := Lib.hid hx4
    have hHK4 := Lib.hid hK4
    have hHM4 := Lib.hid hm4
    have hHS4 := Lib.hid hsame
    have hHZ4 := Lib.hid hz4
    have hHJM := Lib.hid hjm
    have hHJR := Lib.hid hjr
    have hHMR := Lib.hid hmr
    have hNR := Lib.hid hnoR
    clear ho4 hr4 hx4 hK4 hm4 hsame hz4 hjm hjr hmr hg4 ht4 hqm hnoR
    go_region
    clear hput y0 y1 d3
    go_upto_region 7 with fail
    obtain ⟨A4, c4, hrv4⟩ := hHR4.out.slice
    rw [List.length_map] at hrv4
    subst hrv4
    obtain ⟨w5, hw5⟩ : ∃ w5, w5 = (w4.alloc (.cells #[.int .i64 x.key.1, .int .i64 x.key.2] 67)).drew := ⟨_, rfl⟩
    have hb5 : Below w4.heap.size w4 w5 := by rw [hw5]; exact ((Below.refl _ _).alloc (Nat.le_refl _) _).drew
    have hx5 : w5.heap[w4.heap.size]? = some (.cells (keyR.vals x.key).toArray 67 (0, 0)) := by rw [hw5]; exact heap_alloc_new w4 _
    have hr5 := Rec.Own.below hHR4.out hb5
    obtain ⟨iu, hiu, y0, y1, y2⟩ := info_parts info_Key
    obtain ⟨v6, w6, hr, ho6, hg6, hat⟩ := Rec.app (P := Tryd.prog) (t := 61) Tryd.underlying61 hiu y0 y1 y2 rfl (by decide) hr5 (Rec.one_row (R := keyR) (N := Any) hx5 trivial) (by unfold maxLen; simp; omega) (by simp; omega) (Nat.zero_le _)
    obtain ⟨A6, c6, hv6⟩ := ho6.slice
    rw [show (R.map KE.key ++ [x.key]).length = R.length + 1 by simp] at hv6
    subst hv6
    have hr' : (Builtin.append_ #[61, 61] 61 #[.slice A4 R.length c4, .slice (some ⟨w4.heap.size, 0, none⟩) 1 1]).run Tryd.prog ((w4.alloc (.cells #[.int .i64 x.key.1, .int .i64 x.key.2] 67)).drew) = .ok (.slice A6 (R.length + 1) c6) w6 := by rw [← hw5]; exact hr
    have hjl4 : j < w4.heap.size := (Array.getElem?_eq_some_iff.1 hHO4.out).1
    have hs6 : ∀ b, b < w4.heap.size → (Value.slice A4 R.length c4).ownBlock ≠ some b → w6.heap[b]? = w4.heap[b]? := fun b hb hne => (hg6.block b (Nat.lt_of_lt_of_le hb hb5.size) (fun e => hne e.symm)).trans (hb5.block b hb)
    have ho6j := (hs6 j hjl4 hHJR.out).trans hHO4.out
    obtain ⟨q2, q3⟩ : w6.cell? ⟨j, 1, none⟩ = some (.slice A4 R.length c4) ∧ w6.frozen? ⟨j, 1, none⟩ = false := ⟨(blk_cells ho6j).1 1, (blk_cells ho6j).2 1⟩
    have hv6g : ∀ b, (Value.slice A6 (R.length + 1) c6).ownBlock = some b → (Value.slice A4 R.length c4).ownBlock = some b ∨ w4.heap.size ≤ b := fun b hb => by
      rcases hat with hat | hat
      · exact .inl (by rw [← hat]; exact hb)
      · rw [hat] at hb
        exact .inr (by rw [← Option.some.inj hb]; exact hb5.size)
    have hmb4 : mb < w4.heap.size := Nat.lt_of_lt_of_le hHJ3.out.map.lt hHZ4.out
    have hfin : JAt (w6.setCell ⟨j, 1, none⟩ (.slice A6 (R.length + 1) c6)) G j mb (.slice A6 (R.length + 1) c6) (n + 1) (R ++ [x]) := by
      refine hHJ3.out.added (fun b hb hbj hbm hbr => ?_) (set2_at ho6j) (row_same ho6 fun g hg => set_far (fun e => ?_)) (hHM4.out.same ((set_far (Ne.symm hHJM.out)).trans (hs6 mb hmb4 hHMR.out))) (fun b hb => ?_) hHM3.out hxk hNR.out (fun y hy => hp y (hSUB.out y hy)) (fun y hy => hs y (hSUB.out y hy)) hgp hgs
      · exact (set_far hbj).trans ((hs6 b (Nat.lt_of_lt_of_le hb hHZ4.out) hbr).trans (hHS4.out b hb hbm))
      · rcases hv6g g hg with h | h
        · exact hHJR.out (by rw [← e]; exact h)
        · omega
      · rcases hv6g b hb with h | h
        · exact hHJ3.out.gr b h
        · exact hHF3.out b (Nat.le_trans hHZ4.out h)
    have hK7 : Kept w (w6.setCell ⟨j, 1, none⟩ (.slice A6 (R.length + 1) c6)) G := ((hHK4.out.trans (show Kept w4 w5 G from ⟨hb5.os, hb5.tape, hb5.output, hb5.size, fun b hb _ => hb5.block b hb⟩) fun y hy => .inl hy).trans (Kept.grown hg6 (fun b hb => hHJ3.out.gr b hb)) fun y hy => .inl hy).trans (Kept.setCell _ ⟨j, 1, none⟩ _ _ hHJ3.out.gj) fun y hy => .inl hy
    have hb5' : Below w4.heap.size w4 (w4.alloc (.cells #[.int .i64 x.key.1, .int .i64 x.key.2] 67)) := (Below.refl _ _).alloc (Nat.le_refl _) _
    have hql4 := (Array.getElem?_eq_some_iff.1 hHX4.out).1
    obtain ⟨e1, g0, g1⟩ : w4.cell? ⟨j, 1, none⟩ = some (.slice A4 R.length c4) ∧ w4.cell? ⟨q, 0, none⟩ = some (.int .i64 x.key.1) ∧ w4.cell? ⟨q, 1, none⟩ = some (.int .i64 x.key.2) := ⟨(blk_cells hHO4.out).1 1, (blk_cells hHX4.out).1 0, (blk_cells hHX4.out).1 1⟩
    have j0 : (w4.alloc (.cells #[.int .i64 x.key.1, .int .i64 x.key.2] 67)).cell? ⟨j, 1, none⟩ = some (.slice A4 R.length c4) := (hb5'.cell (p := ⟨j, 1, none⟩) hjl4).trans e1
    obtain ⟨j1, j2⟩ : (w4.alloc (.cells #[.int .i64 x.key.1, .int .i64 x.key.2] 67)).cell? ⟨q, 0, none⟩ = some (.int .i64 x.key.1) ∧ (w4.alloc (.cells #[.int .i64 x.key.1, .int .i64 x.key.2] 67)).cell? ⟨q, 1, none⟩ = some (.int .i64 x.key.2) := ⟨(hb5'.cell (p := ⟨q, 0, none⟩) hql4).trans g0, (hb5'.cell (p := ⟨q, 1, none⟩) hql4).trans g1⟩
    have HAP := Lib.hid hr'
    have HFN := Lib.hid hfin
    have HK7 := Lib.hid hK7
    clear hr hr' hfin hK7 hb5' hb5 hx5 hr5 hiu y0 y1 y2 ho6 hg6 hat hs6 ho6j hv6g hw5 hmb4
    go_region_law (refine step_app rfl (.tmp 46) (.tmp 48) 61 rfl (.slice A4 R.length c4) (.slice (some ⟨w4.heap.size, 0, none⟩) 1 1) rfl rfl (by with_reducible exact HAP.out) ?_)
    all_goals go_wp2_with fail
    all_goals go_end0
    all_goals first | exact ⟨rfl, _, HFN.out, HK7.out⟩ | exact ⟨rfl, ⟨_, HFN.out⟩, HK7.out⟩
  · have b1 : ¬ (16 : Int) ≤ (L.length : Int) := by omega
    have hRd : R = L := hR.trans (roomL_free h16)
    subst hRd
    unfold Key.v at hlook ⊢
    clear hR hw1 hq hb1 hx1 h1 h hw2 hb2 h2 hx2 hm2 hK2 hqf hm hfr
    go_enter Tryd.func24, Tryd.ntmps24
    go_upto_region 1 with fail
    rw [← HW1.out, ← HQ.out]
    go_region
    rw [← HW2.out]
    clear hlook x0 x1 c0
    have hJ3G := H2.out
    have hx3 := HX2.out
    have hm3 := HM2.out
    have hK3G := HK2.out
    have hsub : ∀ y ∈ R, y ∈ R := fun y hy => hy
    have hfr3 := HFR.out
    have hRl := hL
    obtain ⟨w3, hw3⟩ : ∃ w3, w3 = w2 := ⟨_, rfl⟩
    rw [← hw3] at hJ3G hx3 hm3 hK3G z2 hfr3 ⊢
    obtain ⟨rv3, hrv3⟩ : ∃ rv3, rv3 = Value.slice A R.length c := ⟨_, rfl⟩
    rw [← hrv3] at hJ3G
    clear hw3 hrv3
    have heqm : ∀ W, (binOp .eql 60 (.map (some mb)) (.map none)).run Tryd.prog W = .ok (.bool false) W := fun W => by kernel_rfl
    have d3 : w3.cell? ⟨j, 0, none⟩ = some (.map (some mb)) := (blk_cells hJ3G.obj).1 0
    have hHJ3 := Lib.hid hJ3G
    have hHX3 := Lib.hid hx3
    have hHM3 := Lib.hid hm3
    have hHK3 := Lib.hid hK3G
    have hHF3 := Lib.hid hfr3
    have hSUB := Lib.hid hsub
    clear hJ3G hx3 hm3 hK3G hfr3 hsub
    go_upto_region 6 with fail
    obtain ⟨y0, y1⟩ : w3.cell? ⟨q, 0, none⟩ = some (.int .i64 x.key.1) ∧ w3.cell? ⟨q, 1, none⟩ = some (.int .i64 x.key.2) := ⟨(blk_cells hHX3.out).1 0, (blk_cells hHX3.out).1 1⟩
    have hnoR : ∀ y ∈ R, y.key ≠ x.key := fun y hy => hno y (hSUB.out y hy)
    obtain ⟨w4, hput, hm4, ht4⟩ := MapJ.put (w := w3.drew) (hHJ3.out.map.same rfl) hxk hn (findA_not hnoR) x.p
    have hg4 := ht4.grown
    have hsame : ∀ b, b < w3.heap.size → b ≠ mb → w4.heap[b]? = w3.heap[b]? := fun b hb hne => hg4.block b hb (fun e => hne (by injection e))
    have hjm := hHJ3.out.jm
    have hmr := hHJ3.out.mr
    have hjr := hHJ3.out.jr
    have ho4 := (hsame j hHJ3.out.lt hjm).trans hHJ3.out.obj
    have hr4 : keyR.Own w4 0 67 rv3 (R.map KE.key) := row_same hHJ3.out.row fun p hp => hsame p (hHJ3.out.row.lt p hp).2 (fun e => hmr (by rw [← e]; exact hp))
    have hqm : q ≠ mb := by
      obtain ⟨es, cc, hmm⟩ := hHJ3.out.map.is_map
      exact apart_M hHX3.out hmm
    have hx4 := (hsame q (Array.getElem?_eq_some_iff.1 hHX3.out).1 hqm).trans hHX3.out
    have hK4 : Kept w w4 G := (hHK3.out.trans (Kept.drew _ G) fun y hy => .inl hy).trans (Kept.grown hg4 (fun b hb => by injection hb with hb; rw [← hb]; exact hHJ3.out.gm)) fun y hy => .inl hy
    have hz4 : w3.heap.size ≤ w4.heap.size := hg4.size
    unfold Key.v at hput
    have hHO4 := Lib.hid ho4
    have hHR4 := Lib.hid hr4
    have hHX4 := Lib.hid hx4
    have hHK4 := Lib.hid hK4
    have hHM4 := Lib.hid hm4
    have hHS4 := Lib.hid hsame
    have hHZ4 := Lib.hid hz4
    have hHJM := Lib.hid hjm
    have hHJR := Lib.hid hjr
    have hHMR := Lib.hid hmr
    have hNR := Lib.hid hnoR
    clear ho4 hr4 hx4 hK4 hm4 hsame hz4 hjm hjr hmr hg4 ht4 hqm hnoR
    go_region
    clear hput y0 y1 d3
    go_upto_region 7 with fail
    obtain ⟨A4, c4, hrv4⟩ := hHR4.out.slice
    rw [List.length_map] at hrv4
    subst hrv4
    obtain ⟨w5, hw5⟩ : ∃ w5, w5 = (w4.alloc (.cells #[.int .i64 x.key.1, .int .i64 x.key.2] 67)).drew := ⟨_, rfl⟩
    have hb5 : Below w4.heap.size w4 w5 := by rw [hw5]; exact ((Below.refl _ _).alloc (Nat.le_refl _) _).drew
    have hx5 : w5.heap[w4.heap.size]? = some (.cells (keyR.vals x.key).toArray 67 (0, 0)) := by rw [hw5]; exact heap_alloc_new w4 _
    have hr5 := Rec.Own.below hHR4.out hb5
    obtain ⟨iu, hiu, y0, y1, y2⟩ := info_parts info_Key
    obtain ⟨v6, w6, hr, ho6, hg6, hat⟩ := Rec.app (P := Tryd.prog) (t := 61) Tryd.underlying61 hiu y0 y1 y2 rfl (by decide) hr5 (Rec.one_row (R := keyR) (N := Any) hx5 trivial) (by unfold maxLen; simp; omega) (by simp; omega) (Nat.zero_le _)
    obtain ⟨A6, c6, hv6⟩ := ho6.slice
    rw [show (R.map KE.key ++ [x.key]).length = R.length + 1 by simp] at hv6
    subst hv6
    have hr' : (Builtin.append_ #[61, 61] 61 #[.slice A4 R.length c4, .slice (some ⟨w4.heap.size, 0, none⟩) 1 1]).run Tryd.prog ((w4.alloc (.cells #[.int .i64 x.key.1, .int .i64 x.key.2] 67)).drew) = .ok (.slice A6 (R.length + 1) c6) w6 := by rw [← hw5]; exact hr
    have hjl4 : j < w4.heap.size := (Array.getElem?_eq_some_iff.1 hHO4.out).1
    have hs6 : ∀ b, b < w4.heap.size → (Value.slice A4 R.length c4).ownBlock ≠ some b → w6.heap[b]? = w4.heap[b]? := fun b hb hne => (hg6.block b (Nat.lt_of_lt_of_le hb hb5.size) (fun e => hne e.symm)).trans (hb5.block b hb)
    have ho6j := (hs6 j hjl4 hHJR.out).trans hHO4.out
    obtain ⟨q2, q3⟩ : w6.cell? ⟨j, 1, none⟩ = some (.slice A4 R.length c4) ∧ w6.frozen? ⟨j, 1, none⟩ = false := ⟨(blk_cells ho6j).1 1, (blk_cells ho6j).2 1⟩
    have hv6g : ∀ b, (Value.slice A6 (R.length + 1) c6).ownBlock = some b → (Value.slice A4 R.length c4).ownBlock = some b ∨ w4.heap.size ≤ b := fun b hb => by
      rcases hat with hat | hat
      · exact .inl (by rw [← hat]; exact hb)
      · rw [hat] at hb
        exact .inr (by rw [← Option.some.inj hb]; exact hb5.size)
    have hmb4 : mb < w4.heap.size := Nat.lt_of_lt_of_le hHJ3.out.map.lt hHZ4.out
    have hfin : JAt (w6.setCell ⟨j, 1, none⟩ (.slice A6 (R.length + 1) c6)) G j mb (.slice A6 (R.length + 1) c6) (n + 1) (R ++ [x]) := by
      refine hHJ3.out.added (fun b hb hbj hbm hbr => ?_) (set2_at ho6j) (row_same ho6 fun g hg => set_far (fun e => ?_)) (hHM4.out.same ((set_far (Ne.symm hHJM.out)).trans (hs6 mb hmb4 hHMR.out))) (fun b hb => ?_) hHM3.out hxk hNR.out (fun y hy => hp y (hSUB.out y hy)) (fun y hy => hs y (hSUB.out y hy)) hgp hgs
      · exact (set_far hbj).trans ((hs6 b (Nat.lt_of_lt_of_le hb hHZ4.out) hbr).trans (hHS4.out b hb hbm))
      · rcases hv6g g hg with h | h
        · exact hHJR.out (by rw [← e]; exact h)
        · omega
      · rcases hv6g b hb with h | h
        · exact hHJ3.out.gr b h
        · exact hHF3.out b (Nat.le_trans hHZ4.out h)
    have hK7 : Kept w (w6.setCell ⟨j, 1, none⟩ (.slice A6 (R.length + 1) c6)) G := ((hHK4.out.trans (show Kept w4 w5 G from ⟨hb5.os, hb5.tape, hb5.output, hb5.size, fun b hb _ => hb5.block b hb⟩) fun y hy => .inl hy).trans (Kept.grown hg6 (fun b hb => hHJ3.out.gr b hb)) fun y hy => .inl hy).trans (Kept.setCell _ ⟨j, 1, none⟩ _ _ hHJ3.out.gj) fun y hy => .inl hy
    have hb5' : Below w4.heap.size w4 (w4.alloc (.cells #[.int .i64 x.key.1, .int .i64 x.key.2] 67)) := (Below.refl _ _).alloc (Nat.le_refl _) _
    have hql4 := (Array.getElem?_eq_some_iff.1 hHX4.out).1
    obtain ⟨e1, g0, g1⟩ : w4.cell? ⟨j, 1, none⟩ = some (.slice A4 R.length c4) ∧ w4.cell? ⟨q, 0, none⟩ = some (.int .i64 x.key.1) ∧ w4.cell? ⟨q, 1, none⟩ = some (.int .i64 x.key.2) := ⟨(blk_cells hHO4.out).1 1, (blk_cells hHX4.out).1 0, (blk_cells hHX4.out).1 1⟩
    have j0 : (w4.alloc (.cells #[.int .i64 x.key.1, .int .i64 x.key.2] 67)).cell? ⟨j, 1, none⟩ = some (.slice A4 R.length c4) := (hb5'.cell (p := ⟨j, 1, none⟩) hjl4).trans e1
    obtain ⟨j1, j2⟩ : (w4.alloc (.cells #[.int .i64 x.key.1, .int .i64 x.key.2] 67)).cell? ⟨q, 0, none⟩ = some (.int .i64 x.key.1) ∧ (w4.alloc (.cells #[.int .i64 x.key.1, .int .i64 x.key.2] 67)).cell? ⟨q, 1, none⟩ = some (.int .i64 x.key.2) := ⟨(hb5'.cell (p := ⟨q, 0, none⟩) hql4).trans g0, (hb5'.cell (p := ⟨q, 1, none⟩) hql4).trans g1⟩
    have HAP := Lib.hid hr'
    have HFN := Lib.hid hfin
    have HK7 := Lib.hid hK7
    clear hr hr' hfin hK7 hb5' hb5 hx5 hr5 hiu y0 y1 y2 ho6 hg6 hat hs6 ho6j hv6g hw5 hmb4
    go_region_law (refine step_app rfl (.tmp 46) (.tmp 48) 61 rfl (.slice A4 R.length c4) (.slice (some ⟨w4.heap.size, 0, none⟩) 1 1) rfl rfl (by with_reducible exact HAP.out) ?_)
    all_goals go_wp2_with fail
    all_goals go_end0
    all_goals first | exact ⟨rfl, _, HFN.out, HK7.out⟩ | exact ⟨rfl, ⟨_, HFN.out⟩, HK7.out⟩
end Go.Proofs.YtfmaocinckeagaaDoor
