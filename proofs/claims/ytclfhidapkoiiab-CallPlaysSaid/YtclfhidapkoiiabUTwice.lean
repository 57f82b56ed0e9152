/-
  An answer held against what it must be, written over, and grown. No statement is proved here. No condition.
-/
import Derived.Test.YtclfhidapkoiiabUSame
namespace Go.Proofs.Ytclfhidapkoiiab
open Go.RowKit Go.Maps

def spW : WT := ⟨-1, ⟨#[115, 112, 111, 105, 108, 116]⟩, 0, 0, 0, 0, false⟩
/-- two waits put behind -/
theorem wt_app2 {w : World} {B : Nat} {v : Value} {L : List WT} (h : wtR.Own w B 37 v L) (hB : B ≤ w.heap.size) (hn : L.length ≤ 100000) :
    ∃ A c w3, (Builtin.append_ #[44, 44] 44 #[v, .slice (some ⟨w.heap.size, 0, none⟩) 2 2]).run Try.prog (w.alloc (.cells #[.int .i64 0, .string ⟨#[]⟩, .int .i64 0, .int .i64 0, .int .i64 0, .int .i64 0, .bool false, .int .i64 0, .string ⟨#[]⟩, .int .i64 0, .int .i64 0, .int .i64 0, .int .i64 0, .bool false] 37)) = .ok (.slice A (L.length + 2) c) w3 ∧ Below B w w3 ∧ (∀ n, n < w.heap.size → v.ownBlock ≠ some n → w3.heap[n]? = w.heap[n]?) := by
  obtain ⟨w2, hw2⟩ : ∃ w2, w2 = w.alloc (.cells #[.int .i64 0, .string ⟨#[]⟩, .int .i64 0, .int .i64 0, .int .i64 0, .int .i64 0, .bool false, .int .i64 0, .string ⟨#[]⟩, .int .i64 0, .int .i64 0, .int .i64 0, .int .i64 0, .bool false] 37) := ⟨_, rfl⟩
  have hb2 : Below w.heap.size w w2 := by rw [hw2]; exact (Below.refl _ _).alloc (Nat.le_refl _) _
  have hx2 : w2.heap[w.heap.size]? = some (.cells (wtR.row [zW, zW] ++ []).toArray 37 (0, 0)) := by rw [hw2]; exact heap_alloc_new w _
  have hrow : wtR.N w2 Any (.slice (some ⟨w.heap.size, 0, none⟩) 2 2) [zW, zW] := (Rec.own_closed (R := wtR) (B := w.heap.size) (l := [zW, zW]) (rest := []) (cap := 2) (Nat.le_refl _) hx2 (by simp) (by decide) (by simp [wtR])).n.any
  have h2 := h.below hb2
  rw [← hw2]
  obtain ⟨i0, hi, hz0, hz1, hz2⟩ := info_parts info_wt
  obtain ⟨v', w3, hr, hown, hg, hat⟩ := Rec.app (P := Try.prog) (R := wtR) (t := 44) Try.underlying44 hi hz0 hz1 hz2 rfl (by decide) h2 hrow (by unfold maxLen; simp; omega) (by simp; omega) (Nat.le_trans hB hb2.size)
  obtain ⟨A, c, rfl⟩ := hown.slice
  rw [show (L ++ [zW, zW]).length = L.length + 2 by simp] at hr hown
  refine ⟨A, c, w3, hr, (Joins.below_le hb2 hB).grown hg (Nat.le_trans hB hb2.size) (fun q hq => (h2.lt q hq).1), fun n hn' hv => ?_⟩
  exact (hg.block n (Nat.lt_of_lt_of_le hn' hb2.size) fun e => hv e.symm).trans (hb2.block n hn')
set_option maxHeartbeats 4000000 in
set_option maxRecDepth 100000 in
theorem twice_yes (l : List WT) (a b : Value) (C : Nat) (w : World) (ha : wtR.Own w C 37 a l) (hb : wtR.N w Any b l) (hC : C ≤ w.heap.size) (hl : l.length ≤ 64) :
    Calls Try.prog 15 #[a, b] w fun e w' => e = .returned (.bool true) ∧ Below C w w' ∧ Kept w w' (fun n => a.ownBlock = some n) := by
  have cS := same_yes l a b w ha.n.any hb
  obtain ⟨A, c, rfl⟩ := ha.slice
  obtain ⟨A2, c2, rfl, -, -⟩ := hb.slice
  have hz := zero_wt
  have HA := Lib.hid ha
  clear ha hb
  go_enter Try.func15, Try.ntmps15
  go_wp2_with fail
  refine cS.mono ?_
  rintro e w1 ⟨rfl, hb1⟩
  clear cS
  have HO0 : Hid (∃ m : List WT, m.length = l.length ∧ wtR.Own w1 C 37 (.slice A l.length c) m) := Lib.hid ⟨l, rfl, HA.out.below hb1⟩
  have HB0 : Hid (Below C w w1) := Lib.hid (Joins.below_le hb1 hC)
  have HK0 : Hid (Kept w w1 (fun n => (Value.slice A l.length c).ownBlock = some n)) := Lib.hid ⟨hb1.os, hb1.tape, hb1.output, hb1.size, fun n hn _ => hb1.block n hn⟩
  clear hb1 HA
  go_wp2_with fail
  go_loopw [6] (fun s6 wr => ∃ i : Nat, s6 = .int .i64 (i : Int) ∧ i ≤ l.length ∧ Hid (∃ m : List WT, m.length = l.length ∧ wtR.Own wr C 37 (.slice A l.length c) m) ∧ Hid (Below C w wr) ∧ Hid (Kept w wr (fun n => (Value.slice A l.length c).ownBlock = some n))) (fun s6 _ => l.length - (intOf s6).toNat)
  case atStart => exact ⟨0, rfl, Nat.zero_le _, HO0, HB0, HK0⟩
  case round =>
    clear HO0 HB0 HK0
    obtain ⟨i, rfl, hi, hO, hB, hK⟩ := hrel
    obtain ⟨wz, hwz⟩ : ∃ wz : World, wz = wr := ⟨_, rfl⟩
    subst hwz
    obtain ⟨m, hm, ho⟩ := hO.out
    by_cases hil : i < l.length
    · have a1 : (i : Int) < (l.length : Int) := by omega
      have a0 : (0 : Int) ≤ (i : Int) := by omega
      obtain ⟨g, cap, hv, hgB, hgl, -, -, hcell, hfz, hupd⟩ := own_upd ho (i := i) (by omega)
      rw [hm] at hv
      injection hv with v1 _ v3
      subst v1 v3
      have h7 : wtR.size = 7 := rfl
      rw [h7] at hcell hupd
      obtain ⟨z0, z1, z2, z3, z4, z5, z6⟩ : (∃ u, wz.cell? ⟨g, i * 7, none⟩ = some u) ∧ (∃ u, wz.cell? ⟨g, i * 7 + 1, none⟩ = some u) ∧ (∃ u, wz.cell? ⟨g, i * 7 + 2, none⟩ = some u) ∧ (∃ u, wz.cell? ⟨g, i * 7 + 3, none⟩ = some u) ∧ (∃ u, wz.cell? ⟨g, i * 7 + 4, none⟩ = some u) ∧ (∃ u, wz.cell? ⟨g, i * 7 + 5, none⟩ = some u) ∧ (∃ u, wz.cell? ⟨g, i * 7 + 6, none⟩ = some u) := ⟨⟨_, hcell 0 _ rfl⟩, ⟨_, hcell 1 _ rfl⟩, ⟨_, hcell 2 _ rfl⟩, ⟨_, hcell 3 _ rfl⟩, ⟨_, hcell 4 _ rfl⟩, ⟨_, hcell 5 _ rfl⟩, ⟨_, hcell 6 _ rfl⟩⟩
      obtain ⟨u0, z0⟩ := z0
      obtain ⟨u1, z1⟩ := z1
      obtain ⟨u2, z2⟩ := z2
      obtain ⟨u3, z3⟩ := z3
      obtain ⟨u4, z4⟩ := z4
      obtain ⟨u5, z5⟩ := z5
      obtain ⟨u6, z6⟩ := z6
      obtain ⟨f0, f1, f2, f3, f4, f5, f6⟩ : wz.frozen? ⟨g, i * 7, none⟩ = false ∧ wz.frozen? ⟨g, i * 7 + 1, none⟩ = false ∧ wz.frozen? ⟨g, i * 7 + 2, none⟩ = false ∧ wz.frozen? ⟨g, i * 7 + 3, none⟩ = false ∧ wz.frozen? ⟨g, i * 7 + 4, none⟩ = false ∧ wz.frozen? ⟨g, i * 7 + 5, none⟩ = false ∧ wz.frozen? ⟨g, i * 7 + 6, none⟩ = false := ⟨hfz _, hfz _, hfz _, hfz _, hfz _, hfz _, hfz _⟩
      obtain ⟨hup1, hup2⟩ := hupd spW
      have HO : Hid (∃ m : List WT, m.length = l.length ∧ wtR.Own (wz.setCells g (i * 7) (wtR.vals spW)) C 37 (.slice (some ⟨g, 0, none⟩) l.length c) m) := Lib.hid ⟨m.set i spW, by simpa using hm, hup1⟩
      have HB := Lib.hid (hB.out.trans hup2)
      have HK : Hid (Kept w (wz.setCells g (i * 7) (wtR.vals spW)) (fun n => (Value.slice (some ⟨g, 0, none⟩) l.length c).ownBlock = some n)) := Lib.hid (hK.out.trans (⟨hup2.os, hup2.tape, hup2.output, hup2.size, fun n hn hne => Near.setCells (n := l.length) (c := c) _ _ n hn (fun e => hne e)⟩ : Kept wz _ (fun n => (Value.slice (some ⟨g, 0, none⟩) l.length c).ownBlock = some n)) fun n hn => .inl hn)
      clear hK
      clear hup1 hup2 hupd hcell hfz ho hO hB h7
      go_wp2_with fail
      exact ⟨⟨i + 1, by go_num, by omega, HO, HB, HK⟩, by simp [intOf]; omega⟩
    · have hie : i = l.length := by omega
      subst hie
      have a1 : ¬ (l.length : Int) < (l.length : Int) := by omega
      obtain ⟨A3, c3, w3, hap, hb3, hn3⟩ := wt_app2 ho (Nat.le_trans hC hB.out.size) (by omega)
      rw [hm] at hap
      have e1 : wrap64 ((l.length : Int) + 2) = (l.length : Int) + 2 := by unfold wrap64; omega
      have e2 : ((l.length + 2 : Nat) : Int) = (l.length : Int) + 2 := by push_cast; rfl
      have HF := Lib.hid (And.intro (hB.out.trans hb3) (hK.out.trans (⟨hb3.os, hb3.tape, hb3.output, hb3.size, fun n hn hne => hn3 n hn hne⟩ : Kept wz w3 (fun n => (Value.slice A l.length c).ownBlock = some n)) fun n hn => .inl hn))
      have HAP := Lib.hid hap
      clear hap hb3 hn3 ho hO hB hK
      go_upto_region 7 with (at_builtin; go_must (refine Lib.wpList_append_run _ rfl (.tmp 20) (.tmp 23) 44 44 rfl _ _ rfl rfl _ _ HAP.out ?_))
      clear HAP
      go_wp2_with fail
      go_ret
      exact ⟨by first | rfl | simp, HF.out⟩
end Go.Proofs.Ytclfhidapkoiiab
