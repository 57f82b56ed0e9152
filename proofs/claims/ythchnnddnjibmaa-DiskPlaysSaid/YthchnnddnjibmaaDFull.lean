/-
  The laws' own helper 'full': a new slice of 512 bytes that are all one. No condition.
-/
import Derived.Test.YthchnnddnjibmaaDRefE
namespace Go.Proofs.Ythchnnddnjibmaa
open Go.RowKit

theorem made_bytes (w : World) : ∃ w', (Instr.makeSlice 27 (.int .i64 512) (.int .i64 512)).run Try.prog w = .ok (.slice (some ⟨w.heap.size, 0, none⟩) 512 512) w' ∧ w'.ownsRow w.heap.size 5 1 (.slice (some ⟨w.heap.size, 0, none⟩) 512 512) 512 (BS (List.replicate 512 0)) ∧ Below w.heap.size w w' := by
  obtain ⟨i0, hi, hz0, hz1, hz2⟩ := info_parts (show (Try.prog.info? 5).map (fun i => (i.zero, i.size, i.bytes)) = some (some (.int .u8 0), 1, 1) by kernel_rfl)
  obtain ⟨w', h1, h2, h3⟩ := run_make_full (P := Try.prog) w w.heap.size 27 5 i0 _ 1 Try.underlying27 hi hz0 hz1 .i64 .i64 512 (by rw [hz2]; omega) (by unfold maxLen; omega) (Nat.le_refl _)
  have hBS : (madeCells (Value.int .u8 0).cells (512 * 1)).toList = BS (List.replicate 512 0) := by
    show (madeCells #[Value.int .u8 0] (512 * 1)).toList = _
    rw [toList_madeCells_one]
    unfold BS
    rw [List.map_replicate]
    rfl
  rw [hBS] at h2
  exact ⟨w', h1, h2, (Below.refl _ _).grown h3 (Nat.le_refl _) (fun k h => by cases h)⟩
theorem BS_set (xs : List UInt8) (r : Nat) (u : UInt8) : BS (xs.set r u) = (BS xs).set r (.int .u8 (u.toNat : Int)) := by unfold BS; rw [List.map_set]
/-- r bytes c, the rest noughts -/
def filled (c : UInt8) (r : Nat) : List UInt8 := List.replicate r c ++ List.replicate (512 - r) 0
theorem filled_set (c : UInt8) (r : Nat) (h : r < 512) : (filled c r).set r c = filled c (r + 1) := by
  unfold filled
  rw [List.set_append_right _ _ (by rw [List.length_replicate]; exact Nat.le_refl _), List.length_replicate, Nat.sub_self, show 512 - r = (512 - (r + 1)) + 1 by omega, List.replicate_succ, List.set_cons_zero, List.replicate_succ', List.append_assoc]
  rfl
theorem filled_length (c : UInt8) (r : Nat) (h : r ≤ 512) : (filled c r).length = 512 := by unfold filled; rw [List.length_append, List.length_replicate, List.length_replicate]; omega

/-- a sector of one byte -/
def all512 (c : UInt8) : List UInt8 := List.replicate 512 c

set_option maxHeartbeats 1000000 in
theorem full_any (c : UInt8) (w : World) : Calls Try.prog 14 #[.int .u8 (c.toNat : Int)] w fun e w' => ∃ g, e = .returned (.slice (some ⟨g, 0, none⟩) 512 512) ∧ w'.ownsRow w.heap.size 5 1 (.slice (some ⟨g, 0, none⟩) 512 512) 512 (BS (all512 c)) ∧ Below w.heap.size w w' := by
  obtain ⟨w1, hmk, ho1, hb1⟩ := made_bytes w
  obtain ⟨g, hg⟩ : ∃ g, g = w.heap.size := ⟨_, rfl⟩
  have hgw : w.heap.size ≤ g := by omega
  rw [← hg] at hmk ho1
  have HO1 : Hid (w1.ownsRow g 5 1 (.slice (some ⟨g, 0, none⟩) 512 512) 512 (BS (List.replicate 512 0))) := ho1
  have HG := Lib.hid hg
  clear ho1 hg
  go_enter Try.func14, Try.ntmps14
  go_wp2_with fail
  go_loopw [4] (fun i wr => ∃ r : Nat, i = .int .i64 r ∧ r ≤ 512 ∧ Hid (wr.ownsRow g 5 1 (.slice (some ⟨g, 0, none⟩) 512 512) 512 (BS (filled c r))) ∧ Below w.heap.size w wr) (fun i _ => 512 - (intOf i).toNat)
  case atStart => exact ⟨0, rfl, by omega, HO1, hb1⟩
  case round =>
    obtain ⟨r, rfl, hr, hox, hb⟩ := hrel
    clear hb1
    by_cases hrl : r < 512
    · have i1 : (r : Int) < 512 := by omega
      have i0 : (0 : Int) ≤ (r : Int) := by omega
      obtain ⟨u, hu⟩ : ∃ u, wr.cell? ⟨g, r, none⟩ = some u := by
        rw [hox.out.cellAt r (by omega)]
        exact ⟨_, List.getElem?_eq_getElem (by rw [BS_length, filled_length c r hr]; exact hrl)⟩
      have hz : wr.frozen? ⟨g, r, none⟩ = false := hox.out.frozenAt r
      have hst := (hox.out.stored r (.int .u8 (c.toNat : Int))).1
      rw [← BS_set, filled_set c r hrl] at hst
      have HST := Lib.hid hst
      have hbs := hb.setCell (p := ⟨g, r, none⟩) hgw (.int .u8 (c.toNat : Int))
      clear hst hox
      go_wp2_with fail
      exact ⟨⟨r + 1, by go_num, hrl, HST, hbs⟩, by simp [intOf]; omega⟩
    · have i1 : ¬ (r : Int) < 512 := by omega
      obtain rfl : r = 512 := by omega
      have hfin : wr.ownsRow w.heap.size 5 1 (.slice (some ⟨g, 0, none⟩) 512 512) 512 (BS (all512 c)) := by
        have h0 := hox.out
        rw [show filled c 512 = all512 c from List.append_nil _, HG.out] at h0
        rw [HG.out]
        exact h0
      have HFIN := Lib.hid hfin
      clear hfin hox
      go_wp2_with fail
      go_ret
      exact ⟨g, rfl, HFIN.out, hb⟩
end Go.Proofs.Ythchnnddnjibmaa
