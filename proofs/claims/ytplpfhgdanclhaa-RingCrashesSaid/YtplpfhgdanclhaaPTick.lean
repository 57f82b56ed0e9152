/-
  The program's own disk: step. No statement is proved here. No condition.
-/
import Derived.Test.YtplpfhgdanclhaaPCrash
namespace Go.Proofs.Ytplpfhgdanclhaa
open Go.RowKit Go.Maps

/-- A disk in memory that lives, and is not too long. -/
structure Fine (D : DS) : Prop where
  ok : D.ok
  done : D.done < 4611686018427387904
  waits : D.waits.length < 1000000
  lasts : D.lasts.length ≤ 1000000
  keep : D.keep.length ≤ 140737488355328

set_option maxHeartbeats 2000000 in
theorem p_step (G S : Nat → Prop) (q : Nat) (D : DS) (w : World) (h : PD w G S q D) (hdead : D.dead = false) (hin : ∀ x ∈ D.waits, x.1 < D.lasts.length) (hd : D.done < 4611686018427387904) (hlen : D.waits.length ≤ 1000000) (hll : D.lasts.length ≤ 1000000) :
    Calls Try.prog 47 #[.pointer (some ⟨q, 0, none⟩)] w fun e w' => e = .returned (.int .i64 (if D.fuse = some 0 then 20 else 0)) ∧ Kept w w' (Mut G w) ∧ PD w' (More G w w') S q (if D.fuse = some 0 then D.crash D.keep else D.tick) := by
  obtain ⟨vl, vw, m, st, left, ks, pl, pw, h, hm, hM⟩ := h
  obtain ⟨hf1, hf2⟩ := h.fz hdead
  have hq := h.lt
  obtain ⟨hcell, hzz⟩ := row7 h.cells
  have c3 : w.cell? ⟨q, 3, none⟩ = some (.int .i64 (D.done : Int)) := hcell 3
  have z3 := hzz 3
  have c7 : w.cell? ⟨q, 7, none⟩ = some (.string ks) := hcell 7
  have hmq : m ≠ q := hM.other h.cells
  have H := Lib.hid h
  have HM := Lib.hid hM
  have HGM := Lib.hid hm
  have HDEAD := Lib.hid hdead
  cases hfu : D.fuse with
  | none =>
    obtain ⟨rfl, rfl, rfl⟩ := hf1 hfu
    have hb : Calls Try.prog 59 #[.pointer (some ⟨q, 5, none⟩)] w fun e w' => e = .returned (.bool false) ∧ w' = w := (p_burn q false 0 _ _ _ w h.cells rfl rfl rfl (fun _ => ⟨rfl, rfl⟩) (by omega)).mono fun e w' h => ⟨h.1, h.2⟩
    have hif : (if (none : Option Nat) = some 0 then D.crash D.keep else D.tick) = D.tick := rfl
    have hif2 : (if (none : Option Nat) = some 0 then (20 : Int) else 0) = 0 := rfl
    rw [hif, hif2]
    have hfz : FuseIs D.tick false 0 ByteArray.empty := fun _ => ⟨fun _ => ⟨rfl, rfl, rfl⟩, fun k hk => by unfold DS.tick at hk; rw [hfu] at hk; cases hk⟩
    have HFZ := Lib.hid hfz
    clear hcell hzz h hM hm hdead hf1 hf2 hfu hif hif2 hfz
    go_enter Try.func47, Try.ntmps47
    go_wp2_with fail
    refine hb.mono ?_
    rintro e w1 ⟨rfl, rfl⟩
    go_wp2_with fail
    go_ret
    have hoth : ∀ b, b ≠ q → (w1.setCell ⟨q, 3, none⟩ (.int .i64 ((D.done : Int) + 1))).heap[b]? = w1.heap[b]? := fun b hb => set_other hb
    refine ⟨rfl, Kept.setCell w1 ⟨q, 3, none⟩ _ (Mut G w1) H.out.headMut, vl, vw, m, false, 0, ByteArray.empty, pl, pw, (H.out.head hoth ?_ HFZ.out rfl rfl).mono More.here (fun _ h => h), .inl HGM.out, HM.out.same (hoth m hmq)⟩
    rw [Joins.block_setCell H.out.cells _]
    unfold DS.tick
    simp
  | some k =>
    obtain ⟨rfl, rfl, hk, rfl⟩ := hf2 k hfu
    cases k with
    | zero =>
      have hb : Calls Try.prog 59 #[.pointer (some ⟨q, 5, none⟩)] w fun e w' => e = .returned (.bool true) ∧ w' = w := (p_burn q true 0 _ _ _ w h.cells rfl rfl rfl (fun h => by cases h) (by omega)).mono fun e w' h => ⟨h.1, h.2⟩
      have hif : (if (some 0 : Option Nat) = some 0 then D.crash D.keep else D.tick) = D.crash D.keep := if_pos rfl
      have hif2 : (if (some 0 : Option Nat) = some 0 then (20 : Int) else 0) = 20 := if_pos rfl
      rw [hif, hif2]
      have hcr := p_crash G S q D vl vw (.map (some m)) true 0 (marks D.keep) pl pw D.keep w h hin hlen hll
      clear hcell hzz h hM hm hdead hf1 hf2 hfu hif hif2
      go_enter Try.func47, Try.ntmps47
      go_wp2_with fail
      refine hb.mono ?_
      rintro e w1 ⟨rfl, rfl⟩
      go_wp2_with fail
      refine hcr.mono ?_
      rintro e w2 ⟨rfl, hk2, hx2⟩
      go_wp2_with fail
      go_ret
      exact ⟨rfl, hk2, hx2⟩
    | succ k =>
      have hne : ¬ (((k + 1 : Nat) : Int) = 0) := by omega
      have hdf : decide (((k + 1 : Nat) : Int) = 0) = false := decide_eq_false hne
      have hdt : decide (((k + 1 : Nat) : Int) ≠ 0) = true := decide_eq_true hne
      have hwr : wrap64 (((k + 1 : Nat) : Int) - 1) = (k : Int) := by unfold wrap64; omega
      have hb : Calls Try.prog 59 #[.pointer (some ⟨q, 5, none⟩)] w fun e w' => e = .returned (.bool false) ∧ w' = w.setCell ⟨q, 6, none⟩ (.int .i64 (k : Int)) := (p_burn q true ((k + 1 : Nat) : Int) _ _ _ w h.cells rfl rfl rfl (fun h => by cases h) (by omega)).mono fun e w' h => by
        rw [hdf, hdt, hwr] at h
        exact ⟨h.1, h.2⟩
      have hif : (if (some (k + 1) : Option Nat) = some 0 then D.crash D.keep else D.tick) = D.tick := if_neg (fun h => by cases h)
      have hif2 : (if (some (k + 1) : Option Nat) = some 0 then (20 : Int) else 0) = 0 := if_neg (fun h => by cases h)
      rw [hif, hif2]
      have hfz : FuseIs D.tick true (k : Int) (marks D.keep) := by
        intro _
        refine ⟨fun hn => ?_, fun k' hk' => ?_⟩
        · unfold DS.tick at hn
          rw [hfu] at hn
          cases hn
        · unfold DS.tick at hk'
          rw [hfu] at hk'
          simp at hk'
          subst hk'
          exact ⟨rfl, rfl, by omega, rfl⟩
      have HFZ := Lib.hid hfz
      have d3 : (w.setCell ⟨q, 6, none⟩ (.int .i64 (k : Int))).cell? ⟨q, 3, none⟩ = some (.int .i64 (D.done : Int)) := by
        rw [(row7 (Joins.block_setCell h.cells _)).1 3]
        simp
      have y3 : (w.setCell ⟨q, 6, none⟩ (.int .i64 (k : Int))).frozen? ⟨q, 3, none⟩ = false := (row7 (Joins.block_setCell h.cells _)).2 3
      obtain ⟨w6, hw6⟩ : ∃ w6, w6 = w.setCell ⟨q, 6, none⟩ (.int .i64 (k : Int)) := ⟨_, rfl⟩
      rw [← hw6] at hb d3 y3
      have HW6 := Lib.hid hw6
      clear hcell hzz h hM hm hdead hf1 hf2 hfu hif hif2 hfz hw6 hne hdf hdt hwr
      go_enter Try.func47, Try.ntmps47
      go_wp2_with fail
      refine hb.mono ?_
      rintro e w1 ⟨rfl, rfl⟩
      go_wp2_with fail
      go_ret
      have hw6 := HW6.out
      have hoth : ∀ b, b ≠ q → (w1.setCell ⟨q, 3, none⟩ (.int .i64 ((D.done : Int) + 1))).heap[b]? = w.heap[b]? := fun b hb => (set_other hb).trans (by rw [hw6]; exact set_other hb)
      refine ⟨rfl, ?_, vl, vw, m, true, (k : Int), marks D.keep, pl, pw, (H.out.head hoth ?_ HFZ.out rfl rfl).mono More.here (fun _ h => h), .inl HGM.out, HM.out.same (hoth m hmq)⟩
      · have k1 : Kept w w1 (Mut G w) := by rw [hw6]; exact Kept.setCell w ⟨q, 6, none⟩ _ (Mut G w) H.out.headMut
        exact k1.trans (Kept.setCell w1 ⟨q, 3, none⟩ _ (Mut G w) H.out.headMut) (fun _ h => .inl h)
      · rw [hw6, Joins.block_setCell (Joins.block_setCell H.out.cells _) _]
        unfold DS.tick
        simp
end Go.Proofs.Ytplpfhgdanclhaa
