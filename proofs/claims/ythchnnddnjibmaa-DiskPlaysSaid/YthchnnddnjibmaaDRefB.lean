/-
  The document's own disk: Write, Flush, Crash, Fuse. Conditions: none but that it lies in memory and its lists are not too long.
-/
import Derived.Test.YthchnnddnjibmaaDRef
namespace Go.Proofs.Ythchnnddnjibmaa
open Go.RowKit

/-- blocks that were there, and those that have been made since -/
def More (F : Nat → Prop) (w w' : World) : Nat → Prop := fun n => F n ∨ (w.heap.size ≤ n ∧ n < w'.heap.size)
theorem More.here {F : Nat → Prop} {w w' : World} : ∀ b, F b → More F w w' b := fun _ h => .inl h
theorem XR.mono {w : World} {F G : Nat → Prop} {p : Nat} {D : DS} {vl vw vk : Value} {left : Int} (h : XR w F p D vl vw vk left) (hG : ∀ b, F b → G b) : XR w G p D vl vw vk left :=
  ⟨hG _ h.inF, h.cells, h.fuse, h.small, h.lasts, fun b hb => hG b (h.lastsF b hb), h.waits, fun b hb => hG b (h.waitsF b hb), h.keep, fun b hb => hG b (h.keepF b hb)⟩
theorem XD.mono {w : World} {F G : Nat → Prop} {p : Nat} {D : DS} (h : XD w F p D) (hG : ∀ b, F b → G b) : XD w G p D := by
  obtain ⟨vl, vw, vk, left, h⟩ := h
  exact ⟨vl, vw, vk, left, h.mono hG⟩

theorem info_W : (Try.prog.info? 88).map (fun i => (i.zero, i.size, i.bytes)) = some (some (.agg #[.int .i64 0, .string ByteArray.empty]), 2, 24) := by kernel_rfl
theorem info_S : (Try.prog.info? 9).map (fun i => (i.zero, i.size, i.bytes)) = some (some (.string ByteArray.empty), 1, 16) := by kernel_rfl
theorem info_B : (Try.prog.info? 4).map (fun i => (i.zero, i.size, i.bytes)) = some (some (.bool false), 1, 1) := by kernel_rfl

/-- What waits is another row now. -/
theorem XR.waiting {w w2 : World} {F G : Nat → Prop} {p : Nat} {D : DS} {vl vw vk v' : Value} {left : Int} {ws : List (Nat × List UInt8)} (h : XR w F p D vl vw vk left) (hFG : ∀ b, F b → G b) (hk : ∀ b, b < w.heap.size → vw.ownBlock ≠ some b → w2.heap[b]? = w.heap[b]?)
    (ho : w2.ownsRow 0 88 2 v' ws.length (WS ws)) (hG : ∀ b, v'.ownBlock = some b → G b) : XR (w2.setCell ⟨p, 1, none⟩ v') G p { D with waits := ws } vl v' vk left := by
  have hpw : vw.ownBlock ≠ some p := fun e => row_not h.cells h.waits (by decide) p e rfl
  have hc2 := (hk p h.lt hpw).trans h.cells
  have hl2 : w2.ownsRow 0 9 1 vl D.lasts.length (SS D.lasts) := row_same h.lasts fun b hb => hk b (h.lasts.lt b hb).2 fun e => rows_apart h.waits h.lasts (by decide) e hb rfl
  have hk2 : w2.ownsRow 0 4 1 vk D.keep.length (KS D.keep) := row_same h.keep fun b hb => hk b (h.keep.lt b hb).2 fun e => rows_apart h.waits h.keep (by decide) e hb rfl
  refine ⟨hFG p h.inF, ?_, h.fuse, h.small, row_same hl2 fun b hb => set_other (row_not hc2 hl2 (by decide) b hb), fun b hb => hFG b (h.lastsF b hb), row_same ho fun b hb => set_other (row_not hc2 ho (by decide) b hb), hG, row_same hk2 fun b hb => set_other (row_not hc2 hk2 (by decide) b hb), fun b hb => hFG b (h.keepF b hb)⟩
  rw [Joins.block_setCell hc2 _]
  simp

set_option maxHeartbeats 2000000 in
theorem xwrite_any (F : Nat → Prop) (p : Nat) (D : DS) (i : Int) (b : ByteArray) (w : World) (h : XD w F p D) (hok : D.ok) (hd : D.done < 4611686018427387904) (hlen : D.waits.length < 1000000) (hll : D.lasts.length ≤ 1000000) :
    Calls Try.prog 26 #[.pointer (some ⟨p, 0, none⟩), .int .i64 i, .string b] w fun e w' => e = .returned (.int .i64 (D.write i b.data.toList).1) ∧ Kept w w' F ∧ XD w' (More F w w') p (D.write i b.data.toList).2 := by
  obtain ⟨vl, vw, vk, left, h⟩ := h
  obtain ⟨hc, hz⟩ := row7 h.cells
  have c3 : w.cell? ⟨p, 3, none⟩ = some (.bool D.dead) := hc 3
  cases hdead : D.dead with
  | true =>
    rw [hdead] at c3
    have hw : D.write i b.data.toList = (20, D) := by unfold DS.write; rw [hdead]; rfl
    rw [hw]
    have H := Lib.hid h
    clear hc hz h hw hdead
    go_enter Try.func26, Try.ntmps26
    go_wp2_with fail
    go_ret
    exact ⟨rfl, Kept.refl _ _, _, _, _, _, H.out.mono More.here⟩
  | false =>
    rw [hdead] at c3
    have c0 : w.cell? ⟨p, 0, none⟩ = some vl := hc 0
    obtain ⟨_, _, hvl, -⟩ := RowAt.of_own h.lasts
    have hvl' : ∃ Al cl, vl = .slice Al D.lasts.length cl := ⟨_, _, hvl⟩
    clear hvl
    obtain ⟨Al, cl, rfl⟩ := hvl'
    by_cases hin : inside D i = true ∧ b.data.toList.length = 512
    · obtain ⟨hi, hb⟩ := hin
      have hi' := hi
      unfold inside at hi'
      simp only [Bool.and_eq_true, decide_eq_true_eq] at hi'
      obtain ⟨a, rfl⟩ := Int.eq_ofNat_of_zero_le hi'.1
      have hsz : b.data.toList.length = b.size := by simp
      have hw : D.write (a : Int) b.data.toList = (if D.fuse = some 0 then (20, (D.wrote a b.data.toList).crash D.keep) else (0, (D.wrote a b.data.toList).tick)) := by
        unfold DS.write
        rw [hdead, hi, decide_eq_true hb]
        rfl
      have hok1 := DS.ok_wrote hok (i := a) (b := b.data.toList) (by omega) hb
      obtain ⟨R, hR⟩ : ∃ R, R = D.write (a : Int) b.data.toList := ⟨_, rfl⟩
      rw [← hR]
      have HRW := Lib.hid (hR.trans hw)
      clear hR
      have a0 : ¬ (a : Int) < 0 := by omega
      have a1 : ¬ (D.lasts.length : Int) ≤ (a : Int) := by omega
      have a2 : ((b.size : Int) != 512) = false := by rw [← hsz, hb]; rfl
      have c1 : w.cell? ⟨p, 1, none⟩ = some vw := hc 1
      obtain ⟨i0, hi0, hz0, hz1, hz2⟩ := info_parts info_W
      have hps := h.lt
      have hwlt := h.waits.lt
      have hrow : RowAt (w.alloc (.cells #[.int .i64 (a : Int), .string b] 88)) (.slice (some ⟨w.heap.size, 0, none⟩) 1 1) 1 2 (WS [(a, b.data.toList)]) := by
        have ho := World.ownsRow_lit (base := 0) (e := 88) (size := 2) w #[.int .i64 (a : Int), .string b] 1 (Nat.zero_le _) (by unfold maxLen; omega) rfl
        exact RowAt.of_own ho
      have hone : ∀ u ∈ WS [(a, b.data.toList)], u.oneCell' = true := by
        intro u hu
        unfold WS at hu
        simp at hu
        rcases hu with rfl | rfl <;> rfl
      have hpc1 : ∀ W : World, Kept w W (fun n => vw.ownBlock = some n) → W.frozen? ⟨p, 1, none⟩ = false ∧ W.cell? ⟨p, 1, none⟩ = some vw := by
        intro W hW
        have hcell := (hW.block p hps (fun e => row_not h.cells h.waits (by decide) p e rfl)).trans h.cells
        exact ⟨(row7 hcell).2 1, (row7 hcell).1 1⟩
      have H := Lib.hid h
      have HW := Lib.hid hwlt
      have HPC := Lib.hid hpc1
      have HOK := Lib.hid hok1
      have HONE := Lib.hid hone
      clear hc hz h hw hdead hok hwlt hpc1 hi hi' hok1 hone
      go_enter Try.func26, Try.ntmps26
      go_wp2_with (at_builtin; go_must (refine wpList_appL rfl (.tmp 31) (.tmp 35) 84 rfl 0 88 i0 _ 2 24 Try.underlying84 hi0 hz0 hz1 hz2 rfl (by decide) vw _ D.waits.length (WS D.waits) 1 (WS [(a, b.data.toList)]) rfl rfl (H.out.waits.alloc _) hrow HONE.out (by decide) (by unfold maxLen; omega) (by omega) (Nat.zero_le _) ?_; intro g2 cp2 w2 ho2 hg2 hgl hg22; have hk2 : Kept w w2 (fun n => vw.ownBlock = some n) := (Kept.alloc w _ _).trans (Kept.grown (F := fun n => vw.ownBlock = some n) hg2 (fun _ h => h)) (fun _ h => .inl h); obtain ⟨z1, d1⟩ := HPC.out w2 hk2; have HO2 := Lib.hid ho2; have HG2 := Lib.hid hg2; have HGL := Lib.hid hgl; clear ho2 hg2 hgl))
      have hx3 : XR (w2.setCell ⟨p, 1, none⟩ (.slice (some ⟨g2, 0, none⟩) (D.waits.length + 1) cp2)) (More F w w2) p (D.wrote a b.data.toList) (.slice Al D.lasts.length cl) (.slice (some ⟨g2, 0, none⟩) (D.waits.length + 1) cp2) vk left := by
        have ho : w2.ownsRow 0 88 2 (.slice (some ⟨g2, 0, none⟩) (D.waits.length + 1) cp2) (D.waits ++ [(a, b.data.toList)]).length (WS (D.waits ++ [(a, b.data.toList)])) := own_eq HO2.out (by simp) (WS_append _ _).symm (Nat.le_refl _)
        refine H.out.waiting More.here (fun n hn hne => hk2.block n hn hne) ho (fun n hn => ?_)
        injection hn with hn
        subst hn
        rcases HGL.out with h1 | h1
        · exact .inl (H.out.waitsF _ h1)
        · right
          refine ⟨?_, hg22⟩
          rw [h1]
          simp
      have hkF : Kept w (w2.setCell ⟨p, 1, none⟩ (.slice (some ⟨g2, 0, none⟩) (D.waits.length + 1) cp2)) F := (hk2.mono fun n _ hn => H.out.waitsF n hn).trans (Kept.setCell w2 ⟨p, 1, none⟩ _ F H.out.inF) (fun _ h => .inl h)
      have hz3 : w2.heap.size ≤ (w2.setCell ⟨p, 1, none⟩ (.slice (some ⟨g2, 0, none⟩) (D.waits.length + 1) cp2)).heap.size := by simp
      obtain ⟨w3, hw3⟩ : ∃ w3, w3 = w2.setCell ⟨p, 1, none⟩ (.slice (some ⟨g2, 0, none⟩) (D.waits.length + 1) cp2) := ⟨_, rfl⟩
      rw [← hw3] at hx3 hkF hz3 ⊢
      have HX3 := Lib.hid hx3
      clear hw3 hx3 HO2 HG2 HGL HPC HW hrow z1 d1 c0 c1 c3
      have c4 := xdue_any (More F w w2) p (D.wrote a b.data.toList) w3 ⟨_, _, _, _, HX3.out⟩ hd
      refine c4.mono ?_
      rintro e w4 ⟨rfl, hk4, hx4⟩
      have hm : ∀ n, More F w w2 n → F n ∨ w.heap.size ≤ n := fun n h => h.elim .inl fun h => .inr h.1
      have hkF4 := hkF.trans hk4 hm
      have hz4 := hk4.size
      by_cases hf : D.fuse = some 0
      · have hf' : (D.wrote a b.data.toList).fuse = some 0 := hf
        rw [if_pos hf'] at hx4
        rw [decide_eq_true hf']
        have HFU := Lib.hid hf
        obtain ⟨vl4, vw4, vk4, l4, hx4⟩ := hx4
        have c6 : w4.cell? ⟨p, 6, none⟩ = some vk4 := (row7 hx4.cells).1 6
        have c5 := xcrash_at (More F w w2) p (D.wrote a b.data.toList) vl4 vw4 vk4 vk4 l4 (D.wrote a b.data.toList).keep w4 hx4 HOK.out (RowAt.of_own hx4.keep) (fun _ q h1 h2 => rows_apart hx4.keep hx4.lasts (by decide) h1 h2 rfl) (by show (D.waits ++ [(a, b.data.toList)]).length ≤ _; rw [List.length_append]; simp; omega) hll
        clear hx4 hf hf' c4
        go_wp2_with fail
        refine c5.mono ?_
        rintro e w5 ⟨rfl, hk5, hx5⟩
        have hz5 := hk5.size
        go_wp2_with fail
        go_ret
        have hRW := HRW.out
        rw [if_pos HFU.out] at hRW
        rw [hRW]
        exact ⟨rfl, hkF4.trans hk5 hm, hx5.mono fun n h => h.elim .inl fun h => .inr ⟨h.1, by omega⟩⟩
      · have hf' : ¬ (D.wrote a b.data.toList).fuse = some 0 := hf
        rw [if_neg hf'] at hx4
        rw [decide_eq_false hf']
        have HFU := Lib.hid hf
        clear hf hf' c4
        go_wp2_with fail
        go_ret
        have hRW := HRW.out
        rw [if_neg HFU.out] at hRW
        rw [hRW]
        exact ⟨rfl, hkF4, hx4.mono fun n h => h.elim .inl fun h => .inr ⟨h.1, by omega⟩⟩
    · have hw : D.write i b.data.toList = (1, D) := by
        unfold DS.write
        rw [hdead]
        have : (inside D i && decide (b.data.toList.length = 512)) = false := by
          by_cases h1 : inside D i = true
          · rw [h1, decide_eq_false (fun h2 => hin ⟨h1, h2⟩)]; rfl
          · rw [Bool.not_eq_true] at h1; rw [h1]; rfl
        rw [this]
        rfl
      rw [hw]
      have hsz : b.data.toList.length = b.size := by simp
      have H := Lib.hid h
      have key : i < 0 ∨ (0 ≤ i ∧ (D.lasts.length : Int) ≤ i) ∨ (0 ≤ i ∧ i < (D.lasts.length : Int) ∧ b.size ≠ 512) := by
        unfold inside at hin
        simp only [Bool.and_eq_true, decide_eq_true_eq] at hin
        rw [hsz] at hin
        omega
      clear hc hz h hw hdead hin hok
      rcases key with k1 | ⟨k1, k2⟩ | ⟨k1, k2, k3⟩
      · go_enter Try.func26, Try.ntmps26
        go_wp2_with fail
        go_ret
        exact ⟨rfl, Kept.refl _ _, _, _, _, _, H.out.mono More.here⟩
      · have k1' : ¬ i < 0 := by omega
        clear k1
        go_enter Try.func26, Try.ntmps26
        go_wp2_with fail
        go_ret
        exact ⟨rfl, Kept.refl _ _, _, _, _, _, H.out.mono More.here⟩
      · have k1' : ¬ i < 0 := by omega
        have k2' : ¬ (D.lasts.length : Int) ≤ i := by omega
        have k3' : ((b.size : Int) != 512) = true := by simp; omega
        clear k1 k2 k3
        go_enter Try.func26, Try.ntmps26
        go_wp2_with fail
        go_ret
        exact ⟨rfl, Kept.refl _ _, _, _, _, _, H.out.mono More.here⟩
end Go.Proofs.Ythchnnddnjibmaa
