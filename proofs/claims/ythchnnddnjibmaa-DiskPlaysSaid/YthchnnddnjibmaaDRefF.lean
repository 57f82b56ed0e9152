/-
  The document's own disk: Copy. Conditions: none but that it lies in memory and its lists are not too long.
-/
import Derived.Test.YthchnnddnjibmaaDRefE
namespace Go.Proofs.Ythchnnddnjibmaa
open Go.RowKit

theorem WS_one (l : List (Nat × List UInt8)) : ∀ u ∈ WS l, u.oneCell' = true := by
  intro u hu
  unfold WS at hu
  obtain ⟨x, _, hx⟩ := List.mem_flatMap.1 hu
  simp at hx
  rcases hx with rfl | rfl <;> rfl

set_option maxHeartbeats 2000000 in
theorem xCopy_any (F : Nat → Prop) (p : Nat) (D : DS) (w : World) (h : XD w F p D) (hlen : D.waits.length ≤ 1000000) (hll : D.lasts.length ≤ 1000000) (hkl : D.keep.length ≤ 140737488355328) :
    Calls Try.prog 31 #[.pointer (some ⟨p, 0, none⟩)] w fun e w' => Below w.heap.size w w' ∧ ∃ q, e = .returned (.pointer (some ⟨q, 0, none⟩)) ∧ XD w' (Made w w') q D := by
  obtain ⟨vl, vw, vk, left, h⟩ := h
  have hc := (row7 h.cells).1
  have c0 : w.cell? ⟨p, 0, none⟩ = some vl := hc 0
  have c1 : w.cell? ⟨p, 1, none⟩ = some vw := hc 1
  have c2 : w.cell? ⟨p, 2, none⟩ = some (.int .i64 (D.done : Int)) := hc 2
  have c3 : w.cell? ⟨p, 3, none⟩ = some (.bool D.dead) := hc 3
  have c4 : w.cell? ⟨p, 4, none⟩ = some (.bool D.fuse.isSome) := hc 4
  have c5 : w.cell? ⟨p, 5, none⟩ = some (.int .i64 left) := hc 5
  have c6 : w.cell? ⟨p, 6, none⟩ = some vk := hc 6
  obtain ⟨Al, cl, hvl, -⟩ := RowAt.of_own h.lasts
  obtain ⟨Aw, cw, hvw, -⟩ := RowAt.of_own h.waits
  obtain ⟨Ak, ck, hvk, -⟩ := RowAt.of_own h.keep
  subst hvl
  subst hvw
  subst hvk
  have hall : ∀ W, Below w.heap.size w W → W.cell? ⟨p, 0, none⟩ = some (.slice Al D.lasts.length cl) ∧ W.cell? ⟨p, 1, none⟩ = some (.slice Aw D.waits.length cw) ∧ W.cell? ⟨p, 6, none⟩ = some (.slice Ak D.keep.length ck) ∧
      RowAt W (.slice Al D.lasts.length cl) D.lasts.length 1 (SS D.lasts) ∧ RowAt W (.slice Aw D.waits.length cw) D.waits.length 2 (WS D.waits) ∧ RowAt W (.slice Ak D.keep.length ck) D.keep.length 1 (KS D.keep) := by
    intro W hW
    exact ⟨(hW.cell (p := ⟨p, 0, none⟩) h.lt).trans c0, (hW.cell (p := ⟨p, 1, none⟩) h.lt).trans c1, (hW.cell (p := ⟨p, 6, none⟩) h.lt).trans c6,
      (RowAt.of_own h.lasts).kept fun b hb => hW.block b (h.lasts.lt b hb).2, (RowAt.of_own h.waits).kept fun b hb => hW.block b (h.waits.lt b hb).2, (RowAt.of_own h.keep).kept fun b hb => hW.block b (h.keep.lt b hb).2⟩
  obtain ⟨is, hsi, hs0, hs1, hs2⟩ := info_parts info_S
  obtain ⟨iw, hwi, hw0, hw1, hw2⟩ := info_parts info_W
  obtain ⟨ib, hbi, hbz0, hbz1, hbz2⟩ := info_parts info_B
  have HALL := Lib.hid hall
  have HF := Lib.hid h.fuse
  have HSM := Lib.hid h.small
  clear hc h hall
  go_enter Try.func31, Try.ntmps31
  go_upto_region 2 with fail
  have hq1 := heap_alloc_new w (.cells #[.slice Al D.lasts.length cl, .slice Aw D.waits.length cw, .int .i64 (D.done : Int), .bool D.dead, .bool D.fuse.isSome, .int .i64 left, .slice Ak D.keep.length ck] 86 (0, 0))
  have hb1 : Below w.heap.size w (w.alloc (.cells #[.slice Al D.lasts.length cl, .slice Aw D.waits.length cw, .int .i64 (D.done : Int), .bool D.dead, .bool D.fuse.isSome, .int .i64 left, .slice Ak D.keep.length ck] 86 (0, 0))) := (Below.refl _ _).alloc (Nat.le_refl _) _
  obtain ⟨q, hq⟩ : ∃ q, q = w.heap.size := ⟨_, rfl⟩
  have hqw : w.heap.size ≤ q := by omega
  rw [← hq] at hq1 ⊢
  obtain ⟨w1, hw1e⟩ : ∃ w1, w1 = w.alloc (.cells #[.slice Al D.lasts.length cl, .slice Aw D.waits.length cw, .int .i64 (D.done : Int), .bool D.dead, .bool D.fuse.isSome, .int .i64 left, .slice Ak D.keep.length ck] 86 (0, 0)) := ⟨_, rfl⟩
  rw [← hw1e] at hq1 hb1 ⊢
  have hq1s : q < w1.heap.size := (Array.getElem?_eq_some_iff.1 hq1).1
  clear hq hw1e c0 c1 c2 c3 c4 c5 c6
  have A1 := HALL.out _ (hb1.alloc hb1.size (.cells #[] 9))
  have e0 := A1.1
  have R1 := Lib.hid A1.2.2.2.1
  have HQ1 := Lib.hid hq1
  clear A1 hq1
  go_upto_region 3 with (at_builtin; go_must (refine wpList_appG rfl (.tmp 7) (.tmp 11) 60 rfl w1.heap.size 9 is _ 1 16 Try.underlying60 hsi hs0 hs1 hs2 rfl (by decide) _ _ 0 [] D.lasts.length (SS D.lasts) rfl rfl (empty_row w1 9 1 w1.heap.size (Nat.le_refl _)) R1.out (SS_one _) (by unfold maxLen; omega) (by omega) (by simp) ?_; intro v2 w2 ho2 hg2; have hk2 : Kept w1 w2 (fun n => w1.heap.size ≤ n) := (Kept.alloc w1 _ _).trans (Kept.grown (F := fun n => w1.heap.size ≤ n) hg2 (fun b hb => by injection hb with hb; subst hb; exact Nat.le_refl _)) (fun _ h => .inl h); have hc2 := (hk2.block q hq1s (by show ¬ w1.heap.size ≤ q; omega)).trans HQ1.out; have d0 := (row7 hc2).1 0; have f0 := (row7 hc2).2 0; obtain ⟨Av, cv, hv2, -⟩ := RowAt.of_own ho2; subst hv2; have HO2 := Lib.hid ho2; have HK2 := Lib.hid hk2; have HC2 := Lib.hid hc2; clear ho2 hg2 hk2 hc2))
  have hk2 := HK2.out
  have hk2s := hk2.size
  have ho2 : w2.ownsRow w1.heap.size 9 1 (.slice Av D.lasts.length cv) D.lasts.length (SS D.lasts) := by
    have h0 := HO2.out
    rw [Nat.zero_add, List.nil_append] at h0
    exact h0
  have hb1s := hb1.size
  have hb3 : Below w.heap.size w (w2.setCell ⟨q, 0, none⟩ (.slice Av D.lasts.length cv)) := (hb1.trans (hk2.below hb1s (fun b hb => Nat.le_trans hb1s hb))).setCell (p := ⟨q, 0, none⟩) hqw _
  have hq3 := Joins.block_setCell (i := 0) HC2.out (.slice Av D.lasts.length cv)
  have ho3 : (w2.setCell ⟨q, 0, none⟩ (.slice Av D.lasts.length cv)).ownsRow w1.heap.size 9 1 (.slice Av D.lasts.length cv) D.lasts.length (SS D.lasts) := row_same ho2 fun b hb => set_other (by have := (ho2.lt b hb).1; omega)
  have hq3' : (w2.setCell ⟨q, 0, none⟩ (.slice Av D.lasts.length cv)).heap[q]? = some (.cells #[.slice Av D.lasts.length cv, .slice Aw D.waits.length cw, .int .i64 (D.done : Int), .bool D.dead, .bool D.fuse.isSome, .int .i64 left, .slice Ak D.keep.length ck] 86 (0, 0)) := by rw [hq3]; simp
  have hz3 : w2.heap.size ≤ (w2.setCell ⟨q, 0, none⟩ (.slice Av D.lasts.length cv)).heap.size := by simp
  obtain ⟨w3, hw3⟩ : ∃ w3, w3 = w2.setCell ⟨q, 0, none⟩ (.slice Av D.lasts.length cv) := ⟨_, rfl⟩
  rw [← hw3] at hb3 hq3' ho3 hz3 ⊢
  have HQ3 := Lib.hid hq3'
  have HO3 := Lib.hid ho3
  have hq3s : q < w3.heap.size := by omega
  have h13 : w1.heap.size ≤ w3.heap.size := by omega
  have A3 := HALL.out _ (hb3.alloc hb3.size (.cells #[] 88))
  have e1 := A3.2.1
  have R3 := Lib.hid A3.2.2.2.2.1
  clear A3 hq3 hq3' ho2 ho3 hk2 hw3 HQ1 HO2 HK2 HC2 R1 e0 d0 f0 hb1
  go_upto_region 4 with (at_builtin; go_must (refine wpList_appG rfl (.tmp 14) (.tmp 18) 84 rfl w3.heap.size 88 iw _ 2 24 Try.underlying84 hwi hw0 hw1 hw2 rfl (by decide) _ _ 0 [] D.waits.length (WS D.waits) rfl rfl (empty_row w3 88 2 w3.heap.size (Nat.le_refl _)) R3.out (WS_one _) (by unfold maxLen; omega) (by omega) (by simp) ?_; intro v4 w4 ho4 hg4; have hk4 : Kept w3 w4 (fun n => w3.heap.size ≤ n) := (Kept.alloc w3 _ _).trans (Kept.grown (F := fun n => w3.heap.size ≤ n) hg4 (fun b hb => by injection hb with hb; subst hb; exact Nat.le_refl _)) (fun _ h => .inl h); have hc4 := (hk4.block q hq3s (by show ¬ w3.heap.size ≤ q; omega)).trans HQ3.out; have d1 := (row7 hc4).1 1; have f1 := (row7 hc4).2 1; obtain ⟨Ax, cx, hv4, -⟩ := RowAt.of_own ho4; subst hv4; have HO4 := Lib.hid ho4; have HK4 := Lib.hid hk4; have HC4 := Lib.hid hc4; clear ho4 hg4 hk4 hc4))
  have hk4 := HK4.out
  have hk4s := hk4.size
  have ho4 : w4.ownsRow w3.heap.size 88 2 (.slice Ax D.waits.length cx) D.waits.length (WS D.waits) := by
    have h0 := HO4.out
    rw [Nat.zero_add, List.nil_append] at h0
    exact h0
  have hb3s := hb3.size
  have hb5 : Below w.heap.size w (w4.setCell ⟨q, 1, none⟩ (.slice Ax D.waits.length cx)) := (hb3.trans (hk4.below hb3s (fun b hb => Nat.le_trans hb3s hb))).setCell (p := ⟨q, 1, none⟩) hqw _
  have hq5' : (w4.setCell ⟨q, 1, none⟩ (.slice Ax D.waits.length cx)).heap[q]? = some (.cells #[.slice Av D.lasts.length cv, .slice Ax D.waits.length cx, .int .i64 (D.done : Int), .bool D.dead, .bool D.fuse.isSome, .int .i64 left, .slice Ak D.keep.length ck] 86 (0, 0)) := by
    rw [Joins.block_setCell (i := 1) HC4.out (.slice Ax D.waits.length cx)]; simp
  have ho5 : (w4.setCell ⟨q, 1, none⟩ (.slice Ax D.waits.length cx)).ownsRow w3.heap.size 88 2 (.slice Ax D.waits.length cx) D.waits.length (WS D.waits) := row_same ho4 fun b hb => set_other (by have := (ho4.lt b hb).1; omega)
  have ho5l : (w4.setCell ⟨q, 1, none⟩ (.slice Ax D.waits.length cx)).ownsRow w1.heap.size 9 1 (.slice Av D.lasts.length cv) D.lasts.length (SS D.lasts) := row_same HO3.out fun b hb => (set_other (by have := (HO3.out.lt b hb).1; omega)).trans (hk4.block b (HO3.out.lt b hb).2 (by have := (HO3.out.lt b hb).2; show ¬ w3.heap.size ≤ b; omega))
  have hz5 : w4.heap.size ≤ (w4.setCell ⟨q, 1, none⟩ (.slice Ax D.waits.length cx)).heap.size := by simp
  obtain ⟨w5, hw5⟩ : ∃ w5, w5 = w4.setCell ⟨q, 1, none⟩ (.slice Ax D.waits.length cx) := ⟨_, rfl⟩
  rw [← hw5] at hb5 hq5' ho5 ho5l hz5 ⊢
  have HQ5 := Lib.hid hq5'
  have HO5 := Lib.hid ho5
  have HO5L := Lib.hid ho5l
  have hq5s : q < w5.heap.size := by omega
  have A5 := HALL.out _ (hb5.alloc hb5.size (.cells #[] 4))
  have e6 := A5.2.2.1
  have R5 := Lib.hid A5.2.2.2.2.2
  clear A5 hq5' ho4 ho5 ho5l hk4 hw5 HQ3 HO3 HO4 HK4 HC4 R3 e1 d1 f1 hb3
  go_wp2_with (at_builtin; go_must (refine wpList_appG rfl (.tmp 21) (.tmp 25) 31 rfl w5.heap.size 4 ib _ 1 1 Try.underlying31 hbi hbz0 hbz1 hbz2 rfl (by decide) _ _ 0 [] D.keep.length (KS D.keep) rfl rfl (empty_row w5 4 1 w5.heap.size (Nat.le_refl _)) R5.out (KS_one _) (by unfold maxLen; omega) (by omega) (by simp) ?_; intro v6 w6 ho6 hg6; have hk6 : Kept w5 w6 (fun n => w5.heap.size ≤ n) := (Kept.alloc w5 _ _).trans (Kept.grown (F := fun n => w5.heap.size ≤ n) hg6 (fun b hb => by injection hb with hb; subst hb; exact Nat.le_refl _)) (fun _ h => .inl h); have hc6 := (hk6.block q hq5s (by show ¬ w5.heap.size ≤ q; omega)).trans HQ5.out; have d6 := (row7 hc6).1 6; have f6 := (row7 hc6).2 6; obtain ⟨Ay, cy, hv6, -⟩ := RowAt.of_own ho6; subst hv6; have HO6 := Lib.hid ho6; have HK6 := Lib.hid hk6; have HC6 := Lib.hid hc6; clear ho6 hg6 hk6 hc6))
  go_ret
  have hk6 := HK6.out
  have hk6s := hk6.size
  have ho6 : w6.ownsRow w5.heap.size 4 1 (.slice Ay D.keep.length cy) D.keep.length (KS D.keep) := by
    have h0 := HO6.out
    rw [Nat.zero_add, List.nil_append] at h0
    exact h0
  have hb5s := hb5.size
  have hb7 : Below w.heap.size w (w6.setCell ⟨q, 6, none⟩ (.slice Ay D.keep.length cy)) := (hb5.trans (hk6.below hb5s (fun b hb => Nat.le_trans hb5s hb))).setCell (p := ⟨q, 6, none⟩) hqw _
  have hzz : ∀ u : Value, (w6.setCell ⟨q, 6, none⟩ u).heap.size = w6.heap.size := fun u => by simp
  refine ⟨hb7, q, rfl, .slice Av D.lasts.length cv, .slice Ax D.waits.length cx, .slice Ay D.keep.length cy, left, ?_⟩
  refine ⟨⟨hqw, by rw [hzz]; omega⟩, ?_, HF.out, HSM.out, own_eq (row_same HO5L.out fun b hb => (set_other (by have := (HO5L.out.lt b hb).1; omega)).trans (hk6.block b (HO5L.out.lt b hb).2 (by have := (HO5L.out.lt b hb).2; show ¬ w5.heap.size ≤ b; omega))) rfl rfl (Nat.zero_le _), fun b hb => ⟨by have := (HO5L.out.lt b hb).1; omega, by rw [hzz]; have := (HO5L.out.lt b hb).2; omega⟩,
    own_eq (row_same HO5.out fun b hb => (set_other (by have := (HO5.out.lt b hb).1; omega)).trans (hk6.block b (HO5.out.lt b hb).2 (by have := (HO5.out.lt b hb).2; show ¬ w5.heap.size ≤ b; omega))) rfl rfl (Nat.zero_le _), fun b hb => ⟨by have := (HO5.out.lt b hb).1; omega, by rw [hzz]; have := (HO5.out.lt b hb).2; omega⟩,
    own_eq (row_same ho6 fun b hb => set_other (by have := (ho6.lt b hb).1; omega)) rfl rfl (Nat.zero_le _), fun b hb => ⟨by have := (ho6.lt b hb).1; omega, by rw [hzz]; have := (ho6.lt b hb).2; omega⟩⟩
  rw [Joins.block_setCell (i := 6) HC6.out (.slice Ay D.keep.length cy)]
  simp
end Go.Proofs.Ythchnnddnjibmaa
