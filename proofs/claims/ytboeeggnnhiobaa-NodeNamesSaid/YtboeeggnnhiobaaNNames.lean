/-
  NodeNames, walked: the examples; the limits. No condition.
-/
import Derived.Test.YtboeeggnnhiobaaNNamesP
import Derived.Test.YtboeeggnnhiobaaNAwake
namespace Go.Proofs.Ytboeeggnnhiobaa
open Go.RowKit

theorem BS_noughts (n : Nat) : (madeCells (Value.int .u8 0).cells n).toList = BS (List.replicate n 0) := by
  show (madeCells #[Value.int .u8 0] n).toList = _
  rw [toList_madeCells_one]
  simp [BS]
theorem made_noughts (w : World) (n : Nat) (hn : n ≤ 140737488355328) : ∃ w', (Instr.makeSlice 26 (.int .i64 (n : Int)) (.int .i64 (n : Int))).run Try.prog w = .ok (.slice (some ⟨w.heap.size, 0, none⟩) n n) w' ∧
    w'.ownsRow w.heap.size 5 1 (.slice (some ⟨w.heap.size, 0, none⟩) n n) n (BS (nz n)) ∧ Below w.heap.size w w' := by
  obtain ⟨i0, hi, hz0, hz1, hz2⟩ := info_parts info_U8
  obtain ⟨w', h1, h2, h3⟩ := run_make_full (P := Try.prog) w w.heap.size 26 5 i0 _ 1 Try.underlying26 hi hz0 hz1 .i64 .i64 n (by rw [hz2]; omega) (by unfold maxLen; omega) (Nat.le_refl _)
  rw [Nat.mul_one, BS_noughts] at h2
  exact ⟨w', h1, h2, (Below.refl _ _).grown h3 (Nat.le_refl _) (fun k h => by cases h)⟩
set_option maxRecDepth 100000 in
theorem leaf_any (A : Option Addr) (m c : Nat) (w : World) :
    Calls Try.prog 28 #[.slice A m c] w fun e w' => e = .returned (.agg #[.bool true, .slice A m c, .slice none 0 0]) ∧ Below w.heap.size w w' := by
  have hzn := zero_node
  have hb : ∀ o, Below w.heap.size w (w.alloc o) := fun o => (Below.refl _ _).alloc (Nat.le_refl _) _
  obtain ⟨w4, hw4⟩ : ∃ w4, w4 = w.alloc (.cells #[.bool true, .slice A m c, .slice none 0 0] 31) := ⟨_, rfl⟩
  have e1 : w4.heap[w.heap.size]? = some (.cells #[.bool true, .slice A m c, .slice none 0 0] 31 (0, 0)) := by rw [hw4]; exact heap_alloc_new w _
  have r0 : w4.cell? ⟨w.heap.size, 0, none⟩ = some (.bool true) := (row_cells e1).1 0
  have r1 : w4.cell? ⟨w.heap.size, 1, none⟩ = some (.slice A m c) := (row_cells e1).1 1
  have r2 : w4.cell? ⟨w.heap.size, 2, none⟩ = some (.slice none 0 0) := (row_cells e1).1 2
  have HW4 := Lib.hid hw4
  clear hw4 e1
  go_enter Try.func28, Try.ntmps28
  go_wp2_with fail
  rw [← HW4.out]
  refine bodyPost_ret (v := .agg #[.bool true, .slice A m c, .slice none 0 0]) (by rw [results_c rfl]; go_simp; try rfl) rfl ?_
  exact ⟨rfl, by rw [HW4.out]; exact hb _⟩
theorem till (W : World) (G n c k : Nat) (hc : k ≤ c) : (Instr.sliceAt 26 (.slice (some ⟨G, 0, none⟩) n c) none (some (.int .i64 (k : Int))) none).run Try.prog W = .ok (.slice (some ⟨G, 0, none⟩) k c) W := by
  rw [run_sliceAt_slice _ _ _ _ _ _ elem_U, run_slice_h _ _ _ _ _ elem_U .i64 (k : Int) (by omega) (by omega), size_U]
  simp only [Result.andThen, sliced, Int.toNat_natCast, Nat.sub_zero, Nat.zero_mul]
  split
  · rfl
  · simp [Addr.add]
theorem nz_take (n k : Nat) (h : k ≤ n) : (nz n).take k = nz k := by unfold nz; rw [List.take_replicate, Nat.min_eq_left h]
/-- string(b[:k]) of what begins with i, noughts behind -/
theorem conv_till {W : World} {N : Nat → Prop} {G i k : Nat} (h : BN W N (.slice (some ⟨G, 0, none⟩) 65 65) (UInt8.ofNat i :: nz 64)) (hk : k ≤ 64) : (convert 26 9 (.slice (some ⟨G, 0, none⟩) (k + 1) 65)).run Try.prog W = .ok (.string (KB k i)) W := by
  have h1 := RowN.take h (k := k + 1) (by omega)
  have h2 : BN W N (.slice (some ⟨G, 0, none⟩) (k + 1) 65) (UInt8.ofNat i :: nz k) := by
    unfold BN
    have e : (UInt8.ofNat i :: nz k).length = k + 1 := by simp [nz_length]
    rw [e]
    have e2 : BS (UInt8.ofNat i :: nz k) = (BS (UInt8.ofNat i :: nz 64)).take ((k + 1) * 1) := by
      rw [Nat.mul_one, show (BS (UInt8.ofNat i :: nz 64)).take (k + 1) = BS ((UInt8.ofNat i :: nz 64).take (k + 1)) by simp [BS, List.map_take], List.take_succ_cons, nz_take 64 k hk]
    rw [e2]
    exact h1
  exact string_of h2
theorem BS_set (l : List UInt8) (i : Nat) (x : UInt8) : BS (l.set i x) = (BS l).set i (.int .u8 (x.toNat : Int)) := by simp [BS, List.map_set]
/-- Encode of a leaf -/
theorem enc_leaf {cs : List PC} {z : Int} (hz : PN.err ⟨true, cs, []⟩ = z) (hs : PN.small ⟨true, cs, []⟩) {v : Value} {w : World} (h : CsN w Any v cs) :
    Calls Try.prog 12 #[.agg #[.bool true, v, .slice none 0 0]] w fun e w' => ∃ v', e = .returned (.tuple #[v', .int .i64 z]) ∧ Below w.heap.size w w' := by
  refine (encode_any ⟨true, cs, []⟩ _ w ⟨_, _, rfl, h, KsN.nil _ _⟩ hs).mono ?_
  rintro e w' ⟨v', he, -, hb⟩
  exact ⟨v', by rw [he, hz], hb⟩
set_option maxHeartbeats 8000000 in
set_option maxRecDepth 1000000 in
theorem names_walk (w : World) : Calls Try.prog 5 #[] w fun e w' => e = .returned (.bool true) ∧ Below w.heap.size w w' := by
  obtain ⟨w1, hmk, ho1, hb1⟩ := made_noughts w 65 (by omega)
  have hmk' : (Instr.makeSlice 26 (.int .i64 65) (.int .i64 65)).run Try.prog w = .ok (.slice (some ⟨w.heap.size, 0, none⟩) 65 65) w1 := hmk
  have HO1 : Hid (w1.ownsRow w.heap.size 5 1 (.slice (some ⟨w.heap.size, 0, none⟩) 65 65) 65 (BS (UInt8.ofNat 0 :: nz 64))) := Lib.hid ho1
  have HB1 := Lib.hid hb1
  -- 1
  obtain ⟨w2, hw2⟩ : ∃ w2, w2 = w1.alloc (.cells #[.string ⟨#[98]⟩, .string ⟨#[]⟩, .int .i64 0, .int .i64 0, .string ⟨#[97]⟩, .string ⟨#[]⟩, .int .i64 0, .int .i64 0] 59) := ⟨_, rfl⟩
  have hb2 : Below w1.heap.size w1 w2 := by rw [hw2]; exact (Below.refl _ _).alloc (Nat.le_refl _) _
  have hc2 : CsN w2 Any (.slice (some ⟨w1.heap.size, 0, none⟩) 2 2) ba := by
    have h := World.ownsRow_lit (e := 59) (size := 4) (base := w1.heap.size) w1 #[.string ⟨#[98]⟩, .string ⟨#[]⟩, .int .i64 0, .int .i64 0, .string ⟨#[97]⟩, .string ⟨#[]⟩, .int .i64 0, .int .i64 0] 2 (Nat.le_refl _) (by unfold maxLen; omega) (by simp)
    rw [hw2]
    exact RowN.of_own h fun _ _ => trivial
  have cL := leaf_any (some ⟨w1.heap.size, 0, none⟩) 2 2 w2
  rw [hw2] at cL
  have HC2 := Lib.hid hc2
  have HB2 := Lib.hid hb2
  have HW2 := Lib.hid hw2
  clear hmk ho1 hb1 hw2 hb2 hc2
  go_enter Try.func5, Try.ntmps5
  go_wp2_with fail
  refine cL.mono ?_
  rintro e w3 ⟨rfl, hb3⟩
  rw [← HW2.out] at hb3
  have cE := enc_leaf err_ba ⟨by decide, by decide, fun c hc => by simp [ba] at hc; rcases hc with rfl | rfl <;> exact ⟨by decide, by decide⟩⟩ (HC2.out.grow hb3)
  have hb13 : Below w1.heap.size w1 w3 := HB2.out.trans (Joins.below_le hb3 HB2.out.size)
  have HB13 := Lib.hid hb13
  clear cL hmk' hb3 hb13 HB2 HC2 HW2
  go_wp2_with fail
  refine cE.mono ?_
  rintro e w4 ⟨v4, rfl, hb4⟩
  have hb14 := HB13.out.trans (Joins.below_le hb4 HB13.out.size)
  clear cE HB13
  -- 2: a value of 65 bytes
  have hL4 := row_same HO1.out (w' := w4) fun p hp => hb14.block p (HO1.out.lt p hp).2
  have hn4 : BN w4 Any (.slice (some ⟨w.heap.size, 0, none⟩) 65 65) (UInt8.ofNat 0 :: nz 64) := RowN.of_own hL4 (fun _ _ => trivial)
  have hcv4 : (convert 26 9 (.slice (some ⟨w.heap.size, 0, none⟩) 65 65)).run Try.prog w4 = .ok (.string (KB 64 0)) w4 := string_of hn4
  obtain ⟨k65, hk65⟩ : ∃ k, k = KB 64 0 := ⟨_, rfl⟩
  rw [← hk65] at hcv4
  obtain ⟨w5, hw5⟩ : ∃ w5, w5 = w4.alloc (.cells #[.string ⟨#[97]⟩, .string k65, .int .i64 0, .int .i64 0] 59) := ⟨_, rfl⟩
  have hb5 : Below w4.heap.size w4 w5 := by rw [hw5]; exact (Below.refl _ _).alloc (Nat.le_refl _) _
  have hc5 : CsN w5 Any (.slice (some ⟨w4.heap.size, 0, none⟩) 1 1) [⟨⟨#[97]⟩, KB 64 0, 0, 0⟩] := by
    have h := World.ownsRow_lit (e := 59) (size := 4) (base := w4.heap.size) w4 #[.string ⟨#[97]⟩, .string k65, .int .i64 0, .int .i64 0] 1 (Nat.le_refl _) (by unfold maxLen; omega) (by simp)
    rw [hw5, ← hk65]
    exact RowN.of_own h fun _ _ => trivial
  have cL := leaf_any (some ⟨w4.heap.size, 0, none⟩) 1 1 w5
  rw [hw5] at cL
  have HB14 := Lib.hid hb14
  have HL4 := Lib.hid hL4
  have HC5 := Lib.hid hc5
  have HB5 := Lib.hid hb5
  have HW5 := Lib.hid hw5
  clear hb4 hb14 hL4 hn4 hk65 hw5 hb5 hc5
  go_wp2_with fail
  refine cL.mono ?_
  rintro e w6 ⟨rfl, hb6⟩
  rw [← HW5.out] at hb6
  have cE := enc_leaf err_val ⟨by decide, by decide, fun c hc => by simp at hc; subst hc; exact ⟨by decide, by show (KB 64 0).size ≤ _; rw [KB_size]; omega⟩⟩ (HC5.out.grow hb6)
  have hb46 : Below w4.heap.size w4 w6 := HB5.out.trans (Joins.below_le hb6 HB5.out.size)
  have HB46 := Lib.hid hb46
  clear cL hcv4 hb6 hb46 HB5 HC5 HW5
  go_wp2_with fail
  refine cE.mono ?_
  rintro e w7 ⟨v7, rfl, hb7⟩
  have hb47 := HB46.out.trans (Joins.below_le hb7 HB46.out.size)
  have hb17 := HB14.out.trans (Joins.below_le hb47 HB14.out.size)
  have HB17 := Lib.hid hb17
  clear cE HB46 hb7 hb47 HL4 hb17
  -- 3: a key of 48, a value of 64
  have hL7 := row_same HO1.out (w' := w7) fun p hp => HB17.out.block p (HO1.out.lt p hp).2
  have hn7 : BN w7.drew Any (.slice (some ⟨w.heap.size, 0, none⟩) 65 65) (UInt8.ofNat 0 :: nz 64) := RowN.of_own hL7 (fun _ _ => trivial)
  obtain ⟨k48, hk48⟩ : ∃ k, k = KB 47 0 := ⟨_, rfl⟩
  obtain ⟨k64, hk64⟩ : ∃ k, k = KB 63 0 := ⟨_, rfl⟩
  have c48 : (convert 26 9 (.slice (some ⟨w.heap.size, 0, none⟩) 48 65)).run Try.prog w7.drew = .ok (.string k48) w7.drew := by rw [hk48]; exact conv_till hn7 (k := 47) (by omega)
  have c64 : (convert 26 9 (.slice (some ⟨w.heap.size, 0, none⟩) 64 65)).run Try.prog w7.drew = .ok (.string k64) w7.drew := by rw [hk64]; exact conv_till hn7 (k := 63) (by omega)
  have s48 : ∀ W : World, (Instr.sliceAt 26 (.slice (some ⟨w.heap.size, 0, none⟩) 65 65) none (some (.int .i64 48)) none).run Try.prog W = .ok (.slice (some ⟨w.heap.size, 0, none⟩) 48 65) W := fun W => till W _ 65 65 48 (by omega)
  have s64 : ∀ W : World, (Instr.sliceAt 26 (.slice (some ⟨w.heap.size, 0, none⟩) 65 65) none (some (.int .i64 64)) none).run Try.prog W = .ok (.slice (some ⟨w.heap.size, 0, none⟩) 64 65) W := fun W => till W _ 65 65 64 (by omega)
  have s49 : ∀ W : World, (Instr.sliceAt 26 (.slice (some ⟨w.heap.size, 0, none⟩) 65 65) none (some (.int .i64 49)) none).run Try.prog W = .ok (.slice (some ⟨w.heap.size, 0, none⟩) 49 65) W := fun W => till W _ 65 65 49 (by omega)
  obtain ⟨w8, hw8⟩ : ∃ w8, w8 = w7.drew.alloc (.cells #[.string k48, .string k64, .int .i64 0, .int .i64 0] 59) := ⟨_, rfl⟩
  have hb8 : Below w7.heap.size w7 w8 := by rw [hw8]; exact (Below.refl _ _).drew.alloc (Nat.le_refl _) _
  have hc8 : CsN w8 Any (.slice (some ⟨w7.heap.size, 0, none⟩) 1 1) (many 1) := by
    have h := World.ownsRow_lit (e := 59) (size := 4) (base := w7.heap.size) w7.drew #[.string k48, .string k64, .int .i64 0, .int .i64 0] 1 (Nat.le_refl _) (by unfold maxLen; omega) (by simp)
    rw [hw8]
    show CsN _ _ _ [⟨KB 47 0, KB 63 0, 0, 0⟩]
    rw [← hk48, ← hk64]
    exact RowN.of_own h fun _ _ => trivial
  have cL := leaf_any (some ⟨w7.heap.size, 0, none⟩) 1 1 w8
  rw [hw8] at cL
  have HC8 := Lib.hid hc8
  have HB8 := Lib.hid hb8
  have HW8 := Lib.hid hw8
  clear hL7 hn7 hk48 hk64 hw8 hb8 hc8
  go_upto_region 5 with fail
  go_cut [8] (fun s8 wx => s8 = .int .i64 0 ∧ Hid (Below w1.heap.size w1 wx))
  case first =>
    as_aux_lemma =>
      go_region_law (first | (go_simp; go_at_call 28; refine cL.mono ?_; rintro e w9 ⟨rfl, hb9⟩; rw [← HW8.out] at hb9; have cE := enc_leaf err_many1 (many_small 1 (by omega)) (HC8.out.grow hb9)) | (go_simp; go_at_call 12; refine cE.mono ?_; rintro e w10 ⟨v10, rfl, hb10⟩))
      all_goals
        have hb710 : Below w7.heap.size w7 w10 := (HB8.out.trans (Joins.below_le hb9 HB8.out.size)).trans (Joins.below_le hb10 (by have := HB8.out.size; have := hb9.size; omega))
        have HB110 := Lib.hid (HB17.out.trans (Joins.below_le hb710 HB17.out.size))
        clear cL cE hb9 hb10 hb710
        go_wp2_with fail
        go_meet
        exact ⟨rfl, HB110⟩
  case rest =>
  obtain ⟨rfl, hcut10⟩ := hcut
  obtain ⟨w10, hw10⟩ : ∃ w10 : World, w10 = wc := ⟨_, rfl⟩
  subst hw10
  have hb110 := hcut10.out
  clear cL c48 c64 HC8 HB8 HW8 HB17 hcut10
  -- 4: a key of 49
  have hL10 := row_same HO1.out (w' := w10) fun p hp => hb110.block p (HO1.out.lt p hp).2
  have hn10 : BN w10 Any (.slice (some ⟨w.heap.size, 0, none⟩) 65 65) (UInt8.ofNat 0 :: nz 64) := RowN.of_own hL10 (fun _ _ => trivial)
  obtain ⟨k49, hk49⟩ : ∃ k, k = KB 48 0 := ⟨_, rfl⟩
  have c49 : (convert 26 9 (.slice (some ⟨w.heap.size, 0, none⟩) 49 65)).run Try.prog w10 = .ok (.string k49) w10 := by rw [hk49]; exact conv_till hn10 (k := 48) (by omega)
  obtain ⟨w11, hw11⟩ : ∃ w8, w8 = w10.alloc (.cells #[.string k49, .string ⟨#[]⟩, .int .i64 0, .int .i64 0] 59) := ⟨_, rfl⟩
  have hb11 : Below w10.heap.size w10 w11 := by rw [hw11]; exact (Below.refl _ _).alloc (Nat.le_refl _) _
  have hc11 : CsN w11 Any (.slice (some ⟨w10.heap.size, 0, none⟩) 1 1) [⟨KB 48 0, ⟨#[]⟩, 0, 0⟩] := by
    have h := World.ownsRow_lit (e := 59) (size := 4) (base := w10.heap.size) w10 #[.string k49, .string ⟨#[]⟩, .int .i64 0, .int .i64 0] 1 (Nat.le_refl _) (by unfold maxLen; omega) (by simp)
    rw [hw11, ← hk49]
    exact RowN.of_own h fun _ _ => trivial
  have cL := leaf_any (some ⟨w10.heap.size, 0, none⟩) 1 1 w11
  rw [hw11] at cL
  have HB110 := Lib.hid hb110
  have HC11 := Lib.hid hc11
  have HB11 := Lib.hid hb11
  have HW11 := Lib.hid hw11
  clear hL10 hn10 hk49 hw11 hb11 hc11 hb110
  go_wp2_with fail
  refine cL.mono ?_
  rintro e w12 ⟨rfl, hb12⟩
  rw [← HW11.out] at hb12
  have cE := enc_leaf err_key ⟨by decide, by decide, fun c hc => by simp at hc; subst hc; exact ⟨by show (KB 48 0).size ≤ _; rw [KB_size]; omega, by decide⟩⟩ (HC11.out.grow hb12)
  have hb1012 : Below w10.heap.size w10 w12 := HB11.out.trans (Joins.below_le hb12 HB11.out.size)
  have HB1012 := Lib.hid hb1012
  clear cL c49 hb12 hb1012 HB11 HC11 HW11
  go_wp2_with fail
  refine cE.mono ?_
  rintro e w13 ⟨v13, rfl, hb13⟩
  have hb1013 := HB1012.out.trans (Joins.below_le hb13 HB1012.out.size)
  have hb113 := HB110.out.trans (Joins.below_le hb1013 HB110.out.size)
  have hL13 := row_same HO1.out (w' := w13) fun p hp => hb113.block p (HO1.out.lt p hp).2
  have HB113 := Lib.hid hb113
  have HL13 := Lib.hid hL13
  have hw13 : w.heap.size < w13.heap.size := (hL13.lt w.heap.size rfl).2
  clear cE HB1012 hb13 hb1013 HB110 hb113 hL13
  have hbw13 := HB1.out.trans (Joins.below_le HB113.out HB1.out.size)
  have HBW13 := Lib.hid hbw13
  have HM0 : Hid (w13.ownsRow w13.heap.size 59 4 (.slice none 0 0) 0 (CsV (many 0))) := Lib.hid ⟨rfl, .inl ⟨rfl, rfl⟩⟩
  clear hbw13
  go_wp2_with fail
  go_loopw [11, 12] (fun s11 s12 wr => ∃ i x : Nat, s12 = .int .i64 (i : Int) ∧ i ≤ 9 ∧ Hid (wr.ownsRow w.heap.size 5 1 (.slice (some ⟨w.heap.size, 0, none⟩) 65 65) 65 (BS (UInt8.ofNat x :: nz 64))) ∧ Hid (wr.ownsRow w13.heap.size 59 4 s11 i (CsV (many i))) ∧ Hid (Below w.heap.size w wr) ∧ w13.heap.size ≤ wr.heap.size) (fun _ s12 _ => 9 - (intOf s12).toNat)
  case atStart => exact ⟨0, 0, rfl, by omega, HL13, HM0, HBW13, Nat.le_refl _⟩
  case round =>
    clear HL13 HM0 HBW13
    obtain ⟨i, x, rfl, hi, hl, hm, hbw, hs13⟩ := hrel
    obtain ⟨wz, hwz⟩ : ∃ wz : World, wz = wr := ⟨_, rfl⟩
    subst hwz
    obtain ⟨Am, cm, hvm⟩ := own_slice hm.out
    subst hvm
    by_cases hi9 : i < 9
    · as_aux_lemma =>
        have a1 : (i : Int) < 9 := by omega
        have hst := hl.out.stored 0 (.int .u8 (i : Int))
        have hl0 := hl.out.cells (g := w.heap.size) rfl 0 _ rfl
        have hz0 := hl.out.frozenAt 0
        have u0 : wz.cell? ⟨w.heap.size, 0, none⟩ = some (.int .u8 ((UInt8.ofNat x).toNat : Int)) := hl0
        obtain ⟨ws, hws⟩ : ∃ ws, ws = wz.setCell ⟨w.heap.size, 0, none⟩ (.int .u8 (i : Int)) := ⟨_, rfl⟩
        have hlS : ws.ownsRow w.heap.size 5 1 (.slice (some ⟨w.heap.size, 0, none⟩) 65 65) 65 (BS (UInt8.ofNat i :: nz 64)) := by
          have h1 := hst.1
          rw [hws]
          have e : (BS (UInt8.ofNat x :: nz 64)).set 0 (.int .u8 (i : Int)) = BS (UInt8.ofNat i :: nz 64) := by
            show (.int .u8 (i : Int)) :: BS (nz 64) = (.int .u8 ((UInt8.ofNat i).toNat : Int)) :: BS (nz 64)
            rw [UInt8.toNat_ofNat', Nat.mod_eq_of_lt (by omega)]
          rw [← e]
          exact h1
        have hmS := row_same hm.out (w' := ws) fun p hp => by rw [hws]; exact set_far (by have := (hm.out.lt p hp).1; omega)
        have hsS : ws.heap.size = wz.heap.size := by rw [hws]; simp
        have hbS : Below w.heap.size w ws := by rw [hws]; exact hbw.out.setCell (Nat.le_refl _) _
        have hnS : BN ws.drew Any (.slice (some ⟨w.heap.size, 0, none⟩) 65 65) (UInt8.ofNat i :: nz 64) := RowN.of_own hlS (fun _ _ => trivial)
        obtain ⟨k48', hk48⟩ : ∃ k, k = KB 47 i := ⟨_, rfl⟩
        obtain ⟨k64', hk64⟩ : ∃ k, k = KB 63 i := ⟨_, rfl⟩
        have d48 : (convert 26 9 (.slice (some ⟨w.heap.size, 0, none⟩) 48 65)).run Try.prog ws.drew = .ok (.string k48') ws.drew := by rw [hk48]; exact conv_till hnS (k := 47) (by omega)
        have d64 : (convert 26 9 (.slice (some ⟨w.heap.size, 0, none⟩) 64 65)).run Try.prog ws.drew = .ok (.string k64') ws.drew := by rw [hk64]; exact conv_till hnS (k := 63) (by omega)
        obtain ⟨iu, hiu, z0, z1, z2⟩ := info_parts info_C
        have hyb : Below ws.heap.size ws (ws.drew.alloc (.cells #[.string k48', .string k64', .int .i64 0, .int .i64 0] 59)) := (Below.refl _ _).drew.alloc (Nat.le_refl _) _
        have hob := row_same hmS (w' := ws.drew.alloc (.cells #[.string k48', .string k64', .int .i64 0, .int .i64 0] 59)) fun p hp => hyb.block p (hmS.lt p hp).2
        have hrow : RowAt (ws.drew.alloc (.cells #[.string k48', .string k64', .int .i64 0, .int .i64 0] 59)) (.slice (some ⟨ws.heap.size, 0, none⟩) 1 1) 1 4 (cellK i).vals := by
          have h := World.ownsRow_lit (e := 59) (size := 4) (base := ws.heap.size) ws.drew #[.string k48', .string k64', .int .i64 0, .int .i64 0] 1 (Nat.le_refl _) (by unfold maxLen; omega) (by simp)
          show RowAt _ _ 1 4 [.string (KB 47 i), .string (KB 63 i), .int .i64 0, .int .i64 0]
          rw [← hk48, ← hk64]
          exact RowAt.of_own h
        have hsy := hyb.size
        obtain ⟨A7, c7, w7', hr, h2, h3, -⟩ := run_appAt (P := Try.prog) w13.heap.size 29 29 59 iu _ 4 48 Try.underlying29 hiu z0 z1 z2 rfl (by decide) _ _ i _ hob 1 _ hrow (by intro u hu; simp [PC.vals] at hu; rcases hu with rfl | rfl | rfl | rfl <;> rfl) (by unfold maxLen; omega) (by omega) (by omega)
        have h2' : w7'.ownsRow w13.heap.size 59 4 (.slice A7 (i + 1) c7) (i + 1) (CsV (many (i + 1))) := by
          rw [many_succ, CsV_append]
          exact h2
        have hl7 := row_same hlS (w' := w7') fun p hp => (h3.block p (by have := (hlS.lt p hp).2; omega) (fun e => by have h9 := (hob.lt p e.symm).1; have : w.heap.size = p := Option.some.inj hp; omega)).trans (hyb.block p (hlS.lt p hp).2)
        have hs7 := h3.size
        have hb7 : Below w.heap.size w w7' := (hbS.trans (Joins.below_le hyb hbS.size)).grown h3 (by have := hbS.size; omega) (fun p hp => by have := (hob.lt p hp).1; omega)
        have HAP := Lib.hid hr
        have HM7 := Lib.hid h2'
        have HL7 := Lib.hid hl7
        have HB7 := Lib.hid hb7
        have HWS := Lib.hid hws
        have hs137 : w13.heap.size ≤ w7'.heap.size := by omega
        clear hst hl0 hlS hmS hbS hnS hk48 hk64 hyb hob hrow hr h2 h2' h3 hl7 hb7 hws hl hm hbw hsS hsy
        go_upto_region 12 with fail
        rw [← HWS.out]
        go_region_law (refine stepApp rfl (.tmp 81) (.tmp 89) 29 rfl _ _ rfl rfl HAP.out ?_)
        all_goals
          clear HAP
          go_wp2_with fail
          exact ⟨⟨i + 1, i, by go_num, by omega, HL7, HM7, HB7, hs137⟩, by simp [intOf]; omega⟩
    · as_aux_lemma =>
        have a1 : ¬ (i : Int) < 9 := by omega
        have hie : i = 9 := by omega
        have hcm : CsN wz Any (.slice Am i cm) (many 9) := by
          have h := RowN.of_own (N := Any) hm.out (fun _ _ => trivial)
          unfold CsN
          rw [many_length, ← hie]
          exact h
        have hcl : 4 ≤ cm := by
          obtain ⟨_, _, hvv, hcl, -⟩ := RowN.slice hcm
          injection hvv with _ _ hvv3
          subst hvv3
          rw [many_length] at hcl
          omega
        have cL := leaf_any Am i cm wz
        have HIE := Lib.hid hie
        clear hie
        have HCM := Lib.hid hcm
        clear hm hl hcm
        go_wp2_with fail
        refine cL.mono ?_
        rintro e v1 ⟨rfl, hb1'⟩
        have cE := enc_leaf err_many9 (many_small 9 (by omega)) (HCM.out.grow hb1')
        clear cL
        go_wp2_with fail
        refine cE.mono ?_
        rintro e v2 ⟨r2, rfl, hb2'⟩
        have hz2 := hb1'.trans (Joins.below_le hb2' hb1'.size)
        have s4 : ∀ W : World, (Instr.sliceAt 29 (.slice Am i cm) none (some (.int .i64 4)) none).run Try.prog W = .ok (.slice Am 4 cm) W := fun W => (run_sliceAt_slice _ _ _ _ _ _ elem_C).trans (tillC W Am i cm 4 hcl)
        have hc4 : CsN v2 Any (.slice Am 4 cm) (many 4) := by
          have hcm9 : CsN v2 Any (.slice Am (many 9).length cm) (many 9) := by
            have h := HCM.out.grow hz2
            rw [HIE.out] at h
            exact h
          have := CsN.take (A := Am) (c := cm) (k := 4) hcm9 (by decide)
          rw [many_four] at this
          exact this
        have cL := leaf_any Am 4 cm v2
        have HC4 := Lib.hid hc4
        have HZ2 := Lib.hid hz2
        clear cE hb1' hb2' hc4 hz2
        go_wp2_with fail
        refine cL.mono ?_
        rintro e v3 ⟨rfl, hb3'⟩
        have cE := enc_leaf err_many4 (many_small 4 (by omega)) (HC4.out.grow hb3')
        clear cL s4
        go_wp2_with fail
        refine cE.mono ?_
        rintro e v4 ⟨r4, rfl, hb4'⟩
        have hz4 := (HZ2.out.trans (Joins.below_le hb3' HZ2.out.size)).trans (Joins.below_le hb4' (by have := HZ2.out.size; have := hb3'.size; omega))
        have hbw4 := hbw.out.trans (Joins.below_le hz4 hbw.out.size)
        have HBW4 := Lib.hid hbw4
        have cD := decode_any [] (.slice none 0 0) v4 (RowN.nil _ _ 1) (by simp)
        rw [dec_none] at cD
        clear cE hb3' hb4' hz4 hbw4 HCM HC4 HZ2 hbw
        go_wp2_with fail
        refine cD.mono ?_
        rintro e v5 ⟨r5, rfl, ho5, hb5'⟩
        obtain ⟨D1, e1, D2, e2, rfl, -, -⟩ := ho5
        obtain ⟨v6, hv6⟩ : ∃ v6, v6 = v5.alloc (.cells #[.bool (decNode []).leaf, .slice D1 (decNode []).cells.length e1, .slice D2 (decNode []).kids.length e2] 31) := ⟨_, rfl⟩
        have hb6' : Below v5.heap.size v5 v6 := by rw [hv6]; exact (Below.refl _ _).alloc (Nat.le_refl _) _
        have hbw6 : Below w.heap.size w v6 := (HBW4.out.trans (Joins.below_le hb5' HBW4.out.size)).trans (Joins.below_le hb6' (by have := HBW4.out.size; have := hb5'.size; omega))
        obtain ⟨v7', hmk7, ho7, hb7'⟩ := made_noughts v6 513 (by omega)
        have hmk7' : (Instr.makeSlice 26 (.int .i64 513) (.int .i64 513)).run Try.prog v6 = .ok (.slice (some ⟨v6.heap.size, 0, none⟩) 513 513) v7' := hmk7
        have HV6 := Lib.hid hv6
        have HO7 := Lib.hid ho7
        have hbw7 := hbw6.trans (Joins.below_le hb7' hbw6.size)
        have HBW7 := Lib.hid hbw7
        have hsw6 := hbw6.size
        clear cD hb5' hb6' hv6 hbw6 hmk7 ho7 hb7' hbw7 HBW4
        go_upto_region 16 with fail
        rw [← HV6.out]
        -- the page
        obtain ⟨P, hP⟩ : ∃ P, P = v6.heap.size := ⟨_, rfl⟩
        rw [← hP] at hmk7' HO7 hsw6
        have hPg : ∀ W : World, W.ownsRow P 5 1 (.slice (some ⟨P, 0, none⟩) 513 513) 513 (BS (nz 513)) → True := fun _ _ => trivial
        have q0 : v7'.cell? ⟨P, 0, none⟩ = some (.int .u8 0) := by
          have h := HO7.out.cells (g := P) rfl 0 (.int .u8 0) rfl
          rw [plus_zero] at h
          exact h
        have q1 := HO7.out.frozenAt 0
        have hst8 := HO7.out.stored 0 (.int .u8 1)
        obtain ⟨v8, hv8⟩ : ∃ v8, v8 = v7'.setCell ⟨P, 0, none⟩ (.int .u8 1) := ⟨_, rfl⟩
        have ho8 : v8.ownsRow P 5 1 (.slice (some ⟨P, 0, none⟩) 513 513) 513 (BS (1 :: 0 :: nz 511)) := by
          rw [hv8]
          exact hst8.1
        have hbw8 : Below w.heap.size w v8 := by rw [hv8]; exact HBW7.out.setCell hsw6 _
        have HO8 := Lib.hid ho8
        have HBW8 := Lib.hid hbw8
        have HV8 := Lib.hid hv8
        have HPP := Lib.hid hP
        clear hst8 hv8 ho8 hbw8 hPg hP
        go_upto_region 17 with fail
        go_upto_region 18 with fail
        rw [← HV8.out]
        have sP : ∀ W : World, (Instr.sliceAt 26 (.slice (some ⟨P, 0, none⟩) 513 513) none (some (.int .i64 512)) none).run Try.prog W = .ok (.slice (some ⟨P, 0, none⟩) 512 513) W := fun W => till W P 513 513 512 (by omega)
        have hpt : ∀ (W : World) (l : List UInt8) (l2 : List UInt8), l.length = 513 → l2.length = 512 → l.take 512 = l2 → W.ownsRow P 5 1 (.slice (some ⟨P, 0, none⟩) 513 513) 513 (BS l) → BN W Any (.slice (some ⟨P, 0, none⟩) 512 513) l2 := fun W l l2 h1 h2 h3 ho => by
          have h := RowN.take (k := 512) (RowN.of_own (N := Any) ho (fun _ _ => trivial)) (by omega)
          unfold BN
          rw [h2]
          have e : BS l2 = (BS l).take (512 * 1) := by rw [Nat.mul_one, ← h3]; simp [BS, List.map_take]
          rw [e]
          exact h
        have l1 : (1 :: 0 :: nz 511 : List UInt8).length = 513 := by simp only [List.length_cons, nz_length]
        have l2 : (1 :: 0 :: nz 510 : List UInt8).length = 512 := by simp only [List.length_cons, nz_length]
        have lb : badTail.length = 510 := by unfold badTail; rw [List.length_take, List.length_set, nz_length]; rfl
        have cD := decode_any (1 :: 0 :: nz 510) _ v8 (hpt v8 _ _ l1 l2 page_take HO8.out) (by rw [l2]; omega)
        obtain ⟨d1, d2⟩ := dec_page (t := nz 510) (by rw [nz_length]; omega) (allNought_nz 510)
        rw [d1, d2] at cD
        have HPT := Lib.hid hpt
        have L1 := Lib.hid l1
        have LB := Lib.hid lb
        clear d1 d2 hpt l1 l2 lb hmk7' q0 q1
        go_wp2_with fail
        refine cD.mono ?_
        rintro e v9 ⟨r9, rfl, ho9, hb9'⟩
        obtain ⟨D3, e3, D4, e4, rfl, -, -⟩ := ho9
        dsimp only [List.length]
        obtain ⟨v10, hv10⟩ : ∃ v, v = v9.alloc (.cells #[.bool true, .slice D3 0 e3, .slice D4 0 e4] 31) := ⟨_, rfl⟩
        have hb10' : Below v9.heap.size v9 v10 := by rw [hv10]; exact (Below.refl _ _).alloc (Nat.le_refl _) _
        have hq10 : v10.heap[v9.heap.size]? = some (.cells #[.bool true, .slice D3 0 e3, .slice D4 0 e4] 31 (0, 0)) := by rw [hv10]; exact heap_alloc_new v9 _
        have hb810' : Below v8.heap.size v8 v10 := hb9'.trans (Joins.below_le hb10' hb9'.size)
        have ho10 := row_same HO8.out (w' := v10) fun p hp => hb810'.block p (HO8.out.lt p hp).2
        have hn10' : BN v10 Any (.slice (some ⟨P, 0, none⟩) 513 513) (1 :: 0 :: nz 511) := by
          unfold BN
          rw [L1.out]
          exact RowN.of_own ho10 (fun _ _ => trivial)
        have cD := decode_any (1 :: 0 :: nz 511) _ v10 hn10' (by rw [L1.out]; omega)
        rw [dec_long (by rw [L1.out]; omega)] at cD
        have HV10 := Lib.hid hv10
        have HQ10 := Lib.hid hq10
        have HB810 := Lib.hid hb810'
        obtain ⟨Q, hQ⟩ : ∃ Q, Q = v9.heap.size := ⟨_, rfl⟩
        have HQQ := Lib.hid hQ
        rw [← hQ] at HQ10
        clear hb9' hb10' hq10 hb810' ho10 hn10' hv10 hQ
        go_upto_region 19 with fail
        rw [← HV10.out]
        go_wp2_with fail
        refine cD.mono ?_
        rintro e v11 ⟨r11, rfl, ho11, hb11'⟩
        obtain ⟨D5, e5, D6, e6, rfl, -, -⟩ := ho11
        generalize hnl : (decNode (1 :: 0 :: nz 511)).cells.length = nl5
        generalize hnk : (decNode (1 :: 0 :: nz 511)).kids.length = nk5
        generalize hnf : (decNode (1 :: 0 :: nz 511)).leaf = lf5
        clear hnl hnk hnf
        obtain ⟨v12, hv12⟩ : ∃ v, v = v11.alloc (.cells #[.bool lf5, .slice D5 nl5 e5, .slice D6 nk5 e6] 31) := ⟨_, rfl⟩
        have hb12' : Below v11.heap.size v11 v12 := by rw [hv12]; exact (Below.refl _ _).alloc (Nat.le_refl _) _
        have hb1012' : Below v10.heap.size v10 v12 := hb11'.trans (Joins.below_le hb12' hb11'.size)
        have hb812 : Below v8.heap.size v8 v12 := HB810.out.trans (Joins.below_le hb1012' HB810.out.size)
        have hq12 := (hb1012'.block _ (Array.getElem?_eq_some_iff.1 HQ10.out).1).trans HQ10.out
        have ho12 := row_same HO8.out (w' := v12) fun p hp => hb812.block p (HO8.out.lt p hp).2
        have t0 := ho12.cells (g := P) rfl 511 (.int .u8 0) (by rfl)
        rw [plus_zero] at t0
        have t1 := ho12.frozenAt 511
        have hst13 := ho12.stored 511 (.int .u8 1)
        obtain ⟨v13', hv13⟩ : ∃ v, v = v12.setCell ⟨P, 511, none⟩ (.int .u8 1) := ⟨_, rfl⟩
        have ho13 : v13'.ownsRow P 5 1 (.slice (some ⟨P, 0, none⟩) 513 513) 513 (BS ((1 :: 0 :: nz 511).set 511 1)) := by
          rw [hv13, BS_set]
          exact hst13.1
        have hbw13' : Below w.heap.size w v13' := by rw [hv13]; exact (HBW8.out.trans (Joins.below_le hb812 HBW8.out.size)).setCell hsw6 _
        have hPQ : P ≠ Q := fun e => by
          obtain ⟨cur, hcur⟩ := row_type ho12 (p := P) rfl
          rw [e, hq12] at hcur
          injection hcur with hcur
          injection hcur with _ hcur
          exact absurd hcur (by decide)
        have hq13 : v13'.heap[Q]? = some (.cells #[.bool true, .slice D3 0 e3, .slice D4 0 e4] 31 (0, 0)) := by rw [hv13, set_far (fun e => hPQ e.symm)]; exact hq12
        have cD := decode_any (1 :: 0 :: badTail) _ v13' (HPT.out v13' _ _ (by rw [List.length_set]; exact L1.out) (by simp only [List.length_cons, LB.out]) page_bad ho13) (by simp only [List.length_cons, LB.out]; omega)
        rw [dec_page_no badTail_no] at cD
        have HV12 := Lib.hid hv12
        have HV13 := Lib.hid hv13
        have HQ13 := Lib.hid hq13
        have HBW13' := Lib.hid hbw13'
        have t0' : v12.cell? ⟨P, 511, none⟩ = some (.int .u8 0) := t0
        clear hb11' hb12' hb1012' hb812 hq12 ho12 hst13 hv13 ho13 hbw13' hq13 hv12 t0 hPQ
        go_upto_region 20 with fail
        rw [← HV12.out]
        go_upto_region 21 with fail
        rw [← HV13.out]
        go_wp2_with fail
        refine cD.mono ?_
        rintro e v14 ⟨r14, rfl, ho14, hb14'⟩
        obtain ⟨D7, e7, D8, e8, rfl, -, -⟩ := ho14
        generalize hnl : (decNode (1 :: 0 :: badTail)).cells.length = nl7
        generalize hnk : (decNode (1 :: 0 :: badTail)).kids.length = nk7
        generalize hnf : (decNode (1 :: 0 :: badTail)).leaf = lf7
        clear hnl hnk hnf
        obtain ⟨v15, hv15⟩ : ∃ v, v = v14.alloc (.cells #[.bool lf7, .slice D7 nl7 e7, .slice D8 nk7 e8] 31) := ⟨_, rfl⟩
        have hb15 : Below v14.heap.size v14 v15 := by rw [hv15]; exact (Below.refl _ _).alloc (Nat.le_refl _) _
        obtain ⟨v16, hv16⟩ : ∃ v, v = v15.alloc (.cells #[.int .i64 2147483648] 3) := ⟨_, rfl⟩
        have hb16 : Below v15.heap.size v15 v16 := by rw [hv16]; exact (Below.refl _ _).alloc (Nat.le_refl _) _
        have hk16 : KsN v16 Any (.slice (some ⟨v15.heap.size, 0, none⟩) 1 1) [2147483648] := by
          have h := World.ownsRow_lit (e := 3) (size := 1) (base := v15.heap.size) v15 #[.int .i64 2147483648] 1 (Nat.le_refl _) (by unfold maxLen; omega) (by simp)
          rw [hv16]
          exact RowN.of_own h fun _ _ => trivial
        have hb1316 : Below v13'.heap.size v13' v16 := (hb14'.trans (Joins.below_le hb15 hb14'.size)).trans (Joins.below_le hb16 (by have := hb14'.size; have := hb15.size; omega))
        have cE := encode_any ⟨false, [], [2147483648]⟩ (.agg #[.bool false, .slice none 0 0, .slice (some ⟨v15.heap.size, 0, none⟩) 1 1]) v16 ⟨_, _, rfl, CsN.nil _ _, hk16⟩ ⟨Nat.zero_le _, by decide, fun c hc => by simp at hc⟩
        rw [err_kid] at cE
        have HV15 := Lib.hid hv15
        have HV16 := Lib.hid hv16
        have HB1316 := Lib.hid hb1316
        clear hb14' hb15 hb16 hk16 hb1316 hv15 hv16
        go_upto_region 22 with fail
        rw [← HV15.out]
        go_wp2_with fail
        rw [← HV16.out]
        refine cE.mono ?_
        rintro e v17 ⟨r17, rfl, -, hb17'⟩
        have hb1317 : Below v13'.heap.size v13' v17 := HB1316.out.trans (Joins.below_le hb17' HB1316.out.size)
        have hq17 := (hb1317.block _ (Array.getElem?_eq_some_iff.1 HQ13.out).1).trans HQ13.out
        have g0 : v17.cell? ⟨Q, 0, none⟩ = some (.bool true) := (row_cells hq17).1 0
        have g1 : v17.cell? ⟨Q, 1, none⟩ = some (.slice D3 0 e3) := (row_cells hq17).1 1
        have hbw17 : Below w.heap.size w v17 := HBW13'.out.trans (Joins.below_le hb1317 HBW13'.out.size)
        have HBW17 := Lib.hid hbw17
        have cA := awake_any v17
        rw [HQQ.out] at g0 g1
        clear cE hb17' hb1317 hq17 hbw17
        go_wp2_with fail
        refine cA.mono ?_
        rintro e v18 ⟨rfl, hb18⟩
        have hbf := HBW17.out.trans (Joins.below_le hb18 HBW17.out.size)
        have HBF := Lib.hid hbf
        clear hbf hb18
        go_wp2_with fail
        go_ret
        exact ⟨rfl, HBF.out⟩
end Go.Proofs.Ytboeeggnnhiobaa
