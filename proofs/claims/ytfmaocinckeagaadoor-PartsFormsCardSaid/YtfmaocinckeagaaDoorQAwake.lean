/-
  The laws' first question: a message is cut and joined. No statement is proved here. Condition: the table reads as the program lays it.
-/
import Derived.Test.YtfmaocinckeagaaDoorQWorks
namespace Go.Proofs.YtfmaocinckeagaaDoor
open Go.RowKit

def zz381 : List UInt8 := List.replicate 381 0
theorem zz_len : zz381.length = 381 := List.length_replicate
theorem zz_many : many zz381 = 2 := by unfold many; rw [zz_len]; rfl
theorem zz_cut : cutErr 5 zz381 = 0 ∧ cutP 5 zz381 = [pkt 5 0 2 (piece zz381 0), pkt 5 1 2 (piece zz381 1)] := by
  have h : cutErr 5 zz381 = 0 := by unfold cutErr; rw [zz_len]; rfl
  refine ⟨h, ?_⟩
  unfold cutP
  rw [if_pos h, zz_many]
  rfl
def q1 : List KP := (stepJ [] (1, 5) ⟨5, 1, 2, piece zz381 1⟩).2
def q2 : List KP := (stepJ q1 (2, 5) ⟨5, 0, 2, piece zz381 0⟩).2
def q3 : List KP := (stepJ q2 (1, 5) ⟨5, 0, 2, piece zz381 0⟩).2
theorem q_facts : (stepJ [] (1, 5) ⟨5, 1, 2, piece zz381 1⟩).1.isSome = false ∧ (stepJ q1 (2, 5) ⟨5, 0, 2, piece zz381 0⟩).1.isSome = false ∧ (stepJ q2 (1, 5) ⟨5, 0, 2, piece zz381 0⟩).1.isSome = true ∧ ((stepJ q2 (1, 5) ⟨5, 0, 2, piece zz381 0⟩).1.getD []).length = 381 ∧ q2.length = 2 ∧ q3.length = 1 := by decide +kernel
theorem zz_read (i : Nat) (h : i < 2) : readP (pkt 5 i 2 (piece zz381 i)) = (0, some ⟨5, i, 2, piece zz381 i⟩) := by
  have := read_cut (l := zz381) (n := 5) (i := i) (by omega) (by rw [zz_len]; omega) (by rw [zz_many]; exact h)
  rw [zz_many] at this
  exact this
theorem zz_small (i : Nat) (h : i < 2) : (pkt 5 i 2 (piece zz381 i)).length ≤ 400 := pkt_small (by omega) (by omega) (by omega) (piece_length _ _)
theorem noughts_rd (n : Nat) (hn : n ≤ 140737488355328) (w : World) : ∃ w', (Instr.makeSlice 27 (.int .i64 (n : Int)) (.int .i64 (n : Int))).run Tryd.prog w = .ok (.slice (some ⟨w.heap.size, 0, none⟩) n n) w' ∧ Rd w' w'.heap.size (.slice (some ⟨w.heap.size, 0, none⟩) n n) (List.replicate n 0) ∧ Below w.heap.size w w' := by
  obtain ⟨i0, hi, hz0, hz1, hz2⟩ := info_parts info_u8
  obtain ⟨w', h1, h2, h3⟩ := run_make_full (P := Tryd.prog) w w.heap.size 27 5 i0 _ 1 Tryd.underlying27 hi hz0 hz1 .i64 .i64 n (by rw [hz2]; omega) (by unfold maxLen; omega) (Nat.le_refl _)
  have hBS : (madeCells (Value.int .u8 0).cells (n * 1)).toList = BS (List.replicate n 0) := by
    show (madeCells #[Value.int .u8 0] (n * 1)).toList = _
    rw [toList_madeCells_one]
    unfold BS
    rw [List.map_replicate, Nat.mul_one]
    rfl
  rw [hBS] at h2
  exact ⟨w', h1, Rd.own h2, (Below.refl _ _).grown h3 (Nat.le_refl _) (fun k h => by cases h)⟩
set_option maxHeartbeats 4000000 in
set_option maxRecDepth 100000 in
theorem works_any (w : World) (ht : Tab w) : Calls Tryd.prog 10 #[] w fun r w' => r = .returned (.bool true) ∧ Below w.heap.size w w' := by
  obtain ⟨w1, hmk, hrd, hb1⟩ := noughts_rd 381 (by omega) w
  have hmk' : (Instr.makeSlice 27 (.int .i64 381) (.int .i64 381)).run Tryd.prog w = .ok (.slice (some ⟨w.heap.size, 0, none⟩) 381 381) w1 := hmk
  have cC := cut_any 5 zz381 _ w1 (ht.below hb1 ht.1) hrd (by rw [zz_len]; omega)
  rw [zz_cut.1, zz_cut.2] at cC
  have HT := Lib.hid ht
  have HB1 := Lib.hid hb1
  clear hmk hrd hb1 ht
  go_enter Tryd.func10, Tryd.ntmps10
  go_wp2_with fail
  refine cC.mono ?_
  rintro r w2 ⟨vl, ss, rfl, hC, hb2⟩
  have hP2 := Pks.of hC
  obtain ⟨A, c, rfl⟩ := hC.slice
  obtain ⟨C, hCe⟩ : ∃ C, C = w2.heap.size := ⟨_, rfl⟩
  rw [← hCe] at hP2
  have hB2 := HB1.out.trans (Joins.below_le hb2 HB1.out.size)
  have hwC : w.heap.size ≤ C := by rw [hCe]; exact hB2.size
  have HP2 := Lib.hid hP2
  have HB2 := Lib.hid hB2
  have HCE := Lib.hid hCe
  have hd2 : ([pkt 5 0 2 (piece zz381 0), pkt 5 1 2 (piece zz381 1)] : List (List UInt8)).length = 2 := rfl
  clear cC hC hb2 hP2 hB2 hCe hmk'
  go_wp2_with fail
  refine (jnew_any w2).mono ?_
  rintro r w3 ⟨j, mb, rfl, hJ3, hb3⟩
  rw [← HCE.out] at hJ3 hb3
  have hB3 := HB2.out.trans (Joins.below_le hb3 hwC)
  have hP3 := HP2.out.below (by rw [← HCE.out]; exact hb3) (by rw [HCE.out]; exact Nat.le_refl _)
  obtain ⟨b, o, n, k, A1, c1, hv1, hc1, hr1⟩ := hP3.at_ (i := 1) (l := pkt 5 1 2 (piece zz381 1)) rfl
  injection hv1 with e1 e2 e3
  subst e1
  have hs3 : C ≤ w3.heap.size := by rw [HCE.out]; exact hb3.size
  have HB3 := Lib.hid hB3
  have HP3 := Lib.hid hP3
  have cT1 := jtake_any hJ3 _ (.slice A1 (pkt 5 1 2 (piece zz381 1)).length c1) 1 (by unfold I64; omega) _ (HT.out.below hB3 HT.out.1) (hr1.keep hs3 fun _ _ => rfl) (by have := zz_small 1 (by omega); omega) (zz_read 1 (by omega)) (by unfold maxLen; omega) (fun b hb => Nat.le_trans hs3 hb)
  obtain ⟨f1, f2, f3, f4, f5, f6⟩ := q_facts
  dsimp only at cT1
  have HF := Lib.hid (And.intro f2 (And.intro f3 (And.intro f4 (And.intro f5 f6))))
  rw [show (((5 : Nat) : Int)) = 5 from rfl, f1] at cT1
  clear hb3 hP3 hJ3 hB3 hr1 e2 e3 f1 f2 f3 f4 f5 f6
  go_wp2_with fail
  refine cT1.mono ?_
  rintro r w4 ⟨va, ka, rfl, -, hJ4, hK4⟩
  clear cT1 hc1
  have hC0 : 0 < C := Nat.lt_of_lt_of_le HT.out.1 hwC
  have hT3 := HT.out.below HB3.out HT.out.1
  have hT4 : Tab w4 := hT3.kept hK4 (by omega)
  have hP4 := HP3.out.kept hK4 (fun b hb => by omega) hs3
  have hs4 := Nat.le_trans hs3 hK4.size
  have hB4 := HB3.out.trans (hK4.below (B := w.heap.size) HB3.out.size (fun b hb => Nat.le_trans hwC hb))
  obtain ⟨b, o', n', k', A2, c2, hv2, hc2, hr2⟩ := hP4.at_ (i := 0) (l := pkt 5 0 2 (piece zz381 0)) rfl
  injection hv2 with e1 e2 e3
  injection e1 with e1
  injection e1 with e0 e1
  subst e0 e1
  rw [Nat.add_zero] at hc2
  have cT2 := jtake_any (J := q1) hJ4 _ (.slice A2 (pkt 5 0 2 (piece zz381 0)).length c2) 2 (by unfold I64; omega) _ hT4 (hr2.keep hs4 fun _ _ => rfl) (by have := zz_small 0 (by omega); omega) (zz_read 0 (by omega)) (by unfold maxLen; omega) (fun b hb => Nat.le_trans hs4 hb)
  dsimp only at cT2
  rw [show (((5 : Nat) : Int)) = 5 from rfl, HF.out.1] at cT2
  have HP4 := Lib.hid hP4
  have HB4 := Lib.hid hB4
  have HT4 := Lib.hid hT4
  clear hK4 hJ4 hT3 hT4 hP4 hB4 hr2 e2 e3
  go_wp2_with fail
  refine cT2.mono ?_
  rintro r w5 ⟨vb, kb, rfl, -, hJ5, hK5⟩
  clear cT2 hc2
  have hT5 : Tab w5 := HT4.out.kept hK5 (by omega)
  have hP5 := HP4.out.kept hK5 (fun b hb => by omega) hs4
  have hs5 := Nat.le_trans hs4 hK5.size
  have hB5 := HB4.out.trans (hK5.below (B := w.heap.size) HB4.out.size (fun b hb => Nat.le_trans hwC hb))
  obtain ⟨b, o', n', k', A3, c3, hv3, hc3, hr3⟩ := hP5.at_ (i := 0) (l := pkt 5 0 2 (piece zz381 0)) rfl
  injection hv3 with e1 e2 e3
  injection e1 with e1
  injection e1 with e0 e1
  subst e0 e1
  rw [Nat.add_zero] at hc3
  have cL := jlen_any (J := q2) hJ5
  rw [HF.out.2.2.2.1] at cL
  have cT3 := jtake_any (J := q2) hJ5 _ (.slice A3 (pkt 5 0 2 (piece zz381 0)).length c3) 1 (by unfold I64; omega) _ hT5 (hr3.keep hs5 fun _ _ => rfl) (by have := zz_small 0 (by omega); omega) (zz_read 0 (by omega)) (by unfold maxLen; omega) (fun b hb => Nat.le_trans hs5 hb)
  dsimp only at cT3
  rw [show (((5 : Nat) : Int)) = 5 from rfl, HF.out.2.1] at cT3
  have HB5 := Lib.hid hB5
  clear hK5 hJ5 hT5 hP5 hB5 hr3 e2 e3
  go_wp2_with fail
  refine cL.mono ?_
  rintro r w5' ⟨rfl, rfl⟩
  clear cL
  go_wp2_with fail
  refine cT3.mono ?_
  rintro r w6 ⟨vc, kc, rfl, hoc, hJ6, hK6⟩
  clear cT3 hc3
  have hlc := HF.out.2.2.1
  obtain ⟨Ac, cc, hvc⟩ := own_slice hoc
  have hkc := hoc.1
  rw [BS_length, hlc] at hkc
  subst hvc
  rw [show kc = 381 by omega]
  have hB6 := HB5.out.trans (hK6.below (B := w.heap.size) HB5.out.size (fun b hb => Nat.le_trans hwC hb))
  have cL2 := jlen_any (J := q3) hJ6
  rw [HF.out.2.2.2.2] at cL2
  have HB6 := Lib.hid hB6
  clear hK6 hJ6 hoc hlc hkc hB6
  go_wp2_with fail
  refine cL2.mono ?_
  rintro r w6' ⟨rfl, rfl⟩
  clear cL2
  go_wp2_with fail
  go_ret
  exact ⟨rfl, HB6.out⟩
end Go.Proofs.YtfmaocinckeagaaDoor
