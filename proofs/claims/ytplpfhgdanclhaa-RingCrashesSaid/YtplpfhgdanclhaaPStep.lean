/-
  The program's own disk: mark, burn. No statement is proved here. No condition.
-/
import Derived.Test.YtplpfhgdanclhaaPCalls
import Derived.Test.YtplpfhgdanclhaaDFull
namespace Go.Proofs.Ytplpfhgdanclhaa
open Go.RowKit Go.Maps

/-- the first r marks, the rest noughts -/
def marked (ks : List Bool) (r : Nat) : List UInt8 := (ks.take r).map (fun b => if b then (1 : UInt8) else 0) ++ List.replicate (ks.length - r) 0
theorem marked_length (ks : List Bool) {r : Nat} (h : r ≤ ks.length) : (marked ks r).length = ks.length := by unfold marked; rw [List.length_append, List.length_map, List.length_take, List.length_replicate]; omega
theorem marked_zero (ks : List Bool) : marked ks 0 = List.replicate ks.length 0 := rfl
theorem marked_all (ks : List Bool) : marked ks ks.length = ks.map (fun b => if b then (1 : UInt8) else 0) := by unfold marked; rw [List.take_length, Nat.sub_self]; exact List.append_nil _
theorem marked_next (ks : List Bool) {r : Nat} {b : Bool} (h : ks[r]? = some b) : (marked ks r).set r (if b then 1 else 0) = marked ks (r + 1) := by
  have hr := (List.getElem?_eq_some_iff.1 h).1
  have hl : ((ks.take r).map (fun b => if b then (1 : UInt8) else 0)).length = r := by rw [List.length_map, List.length_take]; omega
  unfold marked
  rw [List.set_append_right _ _ (by rw [hl]; exact Nat.le_refl _), hl, Nat.sub_self, show ks.length - r = (ks.length - (r + 1)) + 1 by omega, List.replicate_succ, List.set_cons_zero, take_snoc h, List.map_append, List.append_assoc]
  rfl
theorem marked_same (ks : List Bool) {r : Nat} (h : ks[r]? = some false) : marked ks r = marked ks (r + 1) := by
  have hr := (List.getElem?_eq_some_iff.1 h).1
  have hl : ((ks.take r).map (fun b => if b then (1 : UInt8) else 0)).length = r := by rw [List.length_map, List.length_take]; omega
  unfold marked
  rw [show ks.length - r = (ks.length - (r + 1)) + 1 by omega, List.replicate_succ, take_snoc h, List.map_append, List.append_assoc]
  rfl

theorem made_marks (n : Nat) (hn : n ≤ 140737488355328) (w : World) : ∃ w', (Instr.makeSlice 39 (.int .i64 (n : Int)) (.int .i64 (n : Int))).run Try.prog w = .ok (.slice (some ⟨w.heap.size, 0, none⟩) n n) w' ∧ w'.ownsRow w.heap.size 5 1 (.slice (some ⟨w.heap.size, 0, none⟩) n n) n (BS (List.replicate n 0)) ∧ Below w.heap.size w w' := by
  obtain ⟨i0, hi, hz0, hz1, hz2⟩ := info_parts (show (Try.prog.info? 5).map (fun i => (i.zero, i.size, i.bytes)) = some (some (.int .u8 0), 1, 1) by kernel_rfl)
  obtain ⟨w', h1, h2, h3⟩ := run_make_full (P := Try.prog) w w.heap.size 39 5 i0 _ 1 Try.underlying39 hi hz0 hz1 .i64 .i64 n (by rw [hz2]; omega) (by unfold maxLen; omega) (Nat.le_refl _)
  have hBS : (madeCells (Value.int .u8 0).cells (n * 1)).toList = BS (List.replicate n 0) := by
    show (madeCells #[Value.int .u8 0] (n * 1)).toList = _
    rw [toList_madeCells_one]
    unfold BS
    rw [List.map_replicate, Nat.mul_one]
    rfl
  rw [hBS] at h2
  exact ⟨w', h1, h2, (Below.refl _ _).grown h3 (Nat.le_refl _) (fun k h => by cases h)⟩

set_option maxHeartbeats 1000000 in
theorem p_mark (v : Value) (ks : List Bool) (w : World) (hv : RowAt w v ks.length 1 (KS ks)) (hl : ks.length ≤ 140737488355328) :
    Calls Try.prog 50 #[v] w fun e w' => e = .returned (.string (marks ks)) ∧ Below w.heap.size w w' := by
  obtain ⟨A, c, rfl, h1, h2, h3, h4, h5⟩ := hv
  obtain ⟨w1, hmk, ho1, hb1⟩ := made_marks ks.length hl w
  obtain ⟨g, hg⟩ : ∃ g, g = w.heap.size := ⟨_, rfl⟩
  have hgw : w.heap.size ≤ g := by omega
  rw [← hg] at hmk ho1
  have HO1 : Hid (w1.ownsRow g 5 1 (.slice (some ⟨g, 0, none⟩) ks.length ks.length) ks.length (BS (marked ks 0))) := ho1
  have HG := Lib.hid hg
  have HC := Lib.hid h5
  clear ho1 hg h5 h4 h1 h2 h3
  go_enter Try.func50, Try.ntmps50
  go_wp2_with fail
  go_loopw [4, 5, 11] (fun _ _ i wr => ∃ r : Nat, i = .int .i64 r ∧ r ≤ ks.length ∧ Hid (wr.ownsRow g 5 1 (.slice (some ⟨g, 0, none⟩) ks.length ks.length) ks.length (BS (marked ks r))) ∧ Below w.heap.size w wr) (fun _ _ i _ => ks.length - (intOf i).toNat)
  case atStart => exact ⟨0, rfl, by omega, HO1, hb1⟩
  case round =>
    obtain ⟨r, rfl, hr, hox, hb⟩ := hrel
    clear hb1
    by_cases hrl : r < ks.length
    · have i1 : (r : Int) < (ks.length : Int) := by omega
      have i0 : (0 : Int) ≤ (r : Int) := by omega
      have hbr : ks[r]? = some ks[r] := List.getElem?_eq_getElem hrl
      obtain ⟨b, o, rfl, hcell⟩ := HC.out (by omega)
      have k0 : wr.cell? ⟨b, o + r, none⟩ = some (.bool ks[r]) := by
        have h0 := hcell r _ (KS_get hbr)
        exact (hb.cell (p := ⟨b, o + r, none⟩) (World.block_lt_of_cell? w _ h0)).trans h0
      cases hkr : ks[r] with
      | true =>
        rw [hkr] at k0 hbr
        obtain ⟨u, hu⟩ : ∃ u, wr.cell? ⟨g, r, none⟩ = some u := by
          rw [hox.out.cellAt r (by omega)]
          exact ⟨_, List.getElem?_eq_getElem (by rw [BS_length, marked_length ks hr]; exact hrl)⟩
        have hz : wr.frozen? ⟨g, r, none⟩ = false := hox.out.frozenAt r
        have hst := (hox.out.stored r (.int .u8 (((1 : UInt8).toNat : Nat) : Int))).1
        have hnx : (marked ks r).set r 1 = marked ks (r + 1) := marked_next ks hbr
        rw [← BS_set, hnx] at hst
        have HST := Lib.hid hst
        have hbs := hb.setCell (p := ⟨g, r, none⟩) hgw (.int .u8 (((1 : UInt8).toNat : Nat) : Int))
        have e1 : (((1 : UInt8).toNat : Nat) : Int) = 1 := rfl
        rw [e1] at HST hbs
        clear hst hox hcell hbr hnx
        go_wp2_with fail
        exact ⟨⟨r + 1, by go_num, hrl, HST, hbs⟩, by simp [intOf]; omega⟩
      | false =>
        rw [hkr] at k0 hbr
        rw [marked_same ks hbr] at hox
        clear hcell hbr
        go_wp2_with fail
        exact ⟨⟨r + 1, by go_num, hrl, hox, hb⟩, by simp [intOf]; omega⟩
    · have i1 : ¬ (r : Int) < (ks.length : Int) := by omega
      obtain rfl : r = ks.length := by omega
      rw [marked_all] at hox
      have hrd := Rd.own hox.out
      have hstr := run_str (P := Try.prog) 39 5 86 Try.underlying39 Try.underlying5 Try.underlying86 hrd
      clear hox hrd
      go_wp2_with fail
      go_ret
      exact ⟨rfl, hb⟩

set_option maxHeartbeats 1000000 in
/-- burn: is it at its end? Else one less is left. -/
theorem p_burn (q : Nat) (st : Bool) (left : Int) (ks : ByteArray) (C : Array Value) (T : TypeId) (w : World) (hc : w.heap[q]? = some (.cells C T (0, 0))) (h5 : C[5]? = some (.bool st)) (h6 : C[6]? = some (.int .i64 left)) (h7 : C[7]? = some (.string ks))
    (hz : st = false → left = 0 ∧ ks = ByteArray.empty) (hl : 0 ≤ left) :
    Calls Try.prog 59 #[.pointer (some ⟨q, 5, none⟩)] w fun e w' => e = .returned (.bool (st && decide (left = 0))) ∧ w' = if st && decide (left ≠ 0) then w.setCell ⟨q, 6, none⟩ (.int .i64 (wrap64 (left - 1))) else w := by
  obtain ⟨hcell, hzz⟩ := row7 hc
  have c5 : w.cell? ⟨q, 5, none⟩ = some (.bool st) := (hcell 5).trans h5
  have c6 : w.cell? ⟨q, 6, none⟩ = some (.int .i64 left) := (hcell 6).trans h6
  have c7 : w.cell? ⟨q, 7, none⟩ = some (.string ks) := (hcell 7).trans h7
  have z6 := hzz 6
  clear hcell hzz hc h5 h6 h7
  cases st with
  | false =>
    obtain ⟨rfl, rfl⟩ := hz rfl
    go_enter Try.func59, Try.ntmps59
    go_wp2_with fail
    go_ret
    exact ⟨rfl, rfl⟩
  | true =>
    clear hz
    by_cases h0 : left = 0
    · subst h0
      go_enter Try.func59, Try.ntmps59
      go_wp2_with fail
      go_ret
      exact ⟨rfl, rfl⟩
    · have h0' : (left == 0) = false := by simp; exact h0
      have hd : decide (left = 0) = false := decide_eq_false h0
      have hd' : decide (left ≠ 0) = true := decide_eq_true h0
      rw [hd, hd']
      clear h0 hd hd'
      go_enter Try.func59, Try.ntmps59
      go_wp2_with fail
      go_ret
      exact ⟨rfl, rfl⟩
end Go.Proofs.Ytplpfhgdanclhaa
