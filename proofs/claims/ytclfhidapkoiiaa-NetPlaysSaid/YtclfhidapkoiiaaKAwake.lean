/-
  The example that the statements of package net ask first. No statement is proved here. No condition.
-/
import Derived.Test.YtclfhidapkoiiaaKProgD
namespace Go.Proofs.Ytclfhidapkoiiaa
open Go.RowKit

/-- '[]byte(s)': a new slice that reads as the string's bytes -/
theorem conv_bytes (bs : ByteArray) (W : World) (hs : bs.size ≤ 140737488355328) : ∃ A c W', (convert 9 32 (.string bs)).run Try.prog W = .ok (.slice A bs.size c) W' ∧
    Rd W' W'.heap.size (.slice A bs.size c) bs.data.toList ∧ Below W.heap.size W W' ∧ W'.heap.size = W.heap.size + 1 ∧ A = some ⟨W.heap.size, 0, none⟩ := by
  have hrun := run_bytes_of_string (P := Try.prog) W 9 32 5 bs Try.underlying9 Try.underlying32 Try.underlying5
  refine ⟨_, _, _, hrun, ?_, ?_, by simp, rfl⟩
  · have hl : bs.data.toList.length = bs.size := by simp
    refine ⟨_, _, by rw [hl], by rw [hl]; exact grownCap_ge _ _ _ _, grownCap_le_maxLen _ _ _ _ (by unfold maxLen; omega), (fun h => by cases h), fun _ => ⟨W.heap.size, 0, rfl, by simp, fun i x hx => ?_⟩⟩
    have h1 := World.cell?_alloc_mark W.drew (bytesRow bs (grownCap W bs.size 0 5)) 5 ((bytesRow bs (grownCap W bs.size 0 5)).size, (bytesRow bs (grownCap W bs.size 0 5)).size + 1) i
    have hi : i < bs.size := by
      rw [← hl]
      exact (List.getElem?_eq_some_iff.1 hx).1
    have h2 : (bytesRow bs (grownCap W bs.size 0 5))[i]? = some (.int .u8 (x.toNat : Int)) := by
      unfold bytesRow
      rw [Array.getElem?_append_left (by simpa using hi), Array.getElem?_map]
      have : bs.data[i]? = some x := by rw [← hx]; simp
      rw [this]
      rfl
    rw [Nat.zero_add]
    exact h1.trans h2
  · exact ⟨rfl, rfl, rfl, by simp, fun k hk => heap_alloc_old W.drew _ hk⟩
/-- a literal text as bytes -/
theorem lit_bytes (w : World) (C : Array Value) (l : List UInt8) (n : Nat) (h : C.toList = BS l) (hn : n = l.length) (hl : l.length ≤ maxLen) : ∃ w', (convert 32 32 (.slice (some ⟨w.heap.size, 0, none⟩) n n)).run Try.prog (w.alloc (.cells C 5)) = .ok (.slice (some ⟨w.heap.size, 0, none⟩) n n) w' ∧
    Rd w' w'.heap.size (.slice (some ⟨w.heap.size, 0, none⟩) n n) l ∧ Below w.heap.size w w' ∧ w'.heap.size = w.heap.size + 1 := by
  refine ⟨_, Go.Joins.run_convert_bytes_const_at (P := Try.prog) w 32 5 C n n w.heap.size rfl Try.underlying32 Try.underlying5, ?_, (Below.refl _ _).alloc (Nat.le_refl _) _, by simp⟩
  subst hn
  refine ⟨_, _, rfl, Nat.le_refl _, hl, (fun h => by cases h), fun _ => ⟨w.heap.size, 0, rfl, by simp, fun i x hx => ?_⟩⟩
  have h2 : C[i]? = some (.int .u8 (x.toNat : Int)) := by
    rw [← Array.getElem?_toList, h]
    unfold BS
    rw [List.getElem?_map, hx]
    rfl
  rw [Nat.zero_add]
  exact (cell_of_row _ w.heap.size i C _ _ (heap_alloc_new w _)).trans h2
/-- the program's net, somewhere above a base, its row where it may be -/
structure PN (w : World) (B p : Nat) (v : Value) (n : NT) (w' : World) (v' : Value) (n' : NT) : Prop where
  net : PNetM w' B p 54 36 v' n'
  bel : Below B w w'
  moved : Moved p v w w'
  own : ∀ g, v'.ownBlock = some g → v.ownBlock = some g ∨ w.heap.size ≤ g
def kA : PK := ⟨1, 2, ⟨#[97]⟩⟩
def kB : PK := ⟨2, 1, ⟨#[98]⟩⟩
def kC : PK := ⟨1, 2, ⟨#[99]⟩⟩
def ntm (lost : Nat) (l : List PK) : NT := ⟨2, lost, l⟩
theorem ntm_ok {lost : Nat} {l : List PK} (h1 : l.length ≤ 2) (h2 : lost ≤ 1) : (ntm lost l).ok 1 := ⟨(by decide : 2 ≤ 1000), h1, h2⟩
theorem s_1 : (NT.new 2).send kA = (ntm 0 [kA], 0) := rfl
theorem s_2 : (ntm 0 [kA]).send kB = (ntm 0 [kA, kB], 0) := rfl
theorem s_3 : (ntm 0 [kA, kB]).send kC = (ntm 1 [kA, kB], 3) := rfl
theorem s_4 : (ntm 1 [kA, kB]).take 0 = (ntm 1 [kB], some kA) := rfl
theorem s_5 : (ntm 1 [kB]).double 0 = (ntm 1 [kB, kB], 0) := rfl
theorem s_6 : (ntm 1 [kB, kB]).at? 1 = some kB := rfl
theorem s_7 : (ntm 1 [kB, kB]).take 2 = (ntm 1 [kB, kB], none) := rfl
set_option maxHeartbeats 4000000 in
set_option maxRecDepth 100000 in
theorem awake_any (w : World) : Calls Try.prog 18 #[] w fun e w' => e = .returned (.bool true) ∧ Below w.heap.size w w' := by
  have hzp := zero_pk
  go_enter Try.func18, Try.ntmps18
  go_wp2_with fail
  refine (pnew_any 2 w).mono ?_
  rintro e w1 h
  rcases h with ⟨h, -⟩ | ⟨-, rfl, hN1, hb1⟩
  · exact absurd (show newErr 2 = 0 from rfl) h
  have hN1 : PNetM w1 w.heap.size w.heap.size 54 36 (.slice none 0 0) (NT.new 2) := hN1
  obtain ⟨w2, hcv2, hr2, hb2, hs2⟩ := lit_bytes w1 #[.int .u8 97] [97] 1 rfl rfl (by unfold maxLen; decide)
  have cS1 := psend_any (NT.new 2) kA [97] _ _ 0 w.heap.size w.heap.size _ w2 (hN1.grow hb2) (NT.new_ok (by decide)) (by decide) (by have := hb1.size; omega) hr2 rfl
  rw [s_1] at cS1
  have HB1 := Lib.hid hb1
  have HB2 := Lib.hid hb2
  clear hN1 hb1 hb2 hr2
  go_wp2_with fail
  refine cS1.mono ?_
  rintro e w3 ⟨rfl, v3, hN3, hb3, hm3, hv3⟩
  clear cS1 hcv2
  obtain ⟨w4, hcv4, hr4, hb4, hs4⟩ := lit_bytes w3 #[.int .u8 98] [98] 1 rfl rfl (by unfold maxLen; decide)
  have hs1 := HB1.out.size
  have hs3 := hb3.size
  have cS2 := psend_any (ntm 0 [kA]) kB [98] _ _ 1 w.heap.size w.heap.size _ w4 (hN3.grow hb4) (ntm_ok (by decide) (by decide)) (by decide) (by omega) hr4 rfl
  rw [s_2] at cS2
  have hB4 : Below w.heap.size w w4 := ((HB1.out.trans (Joins.below_le HB2.out hs1)).trans hb3).trans (Joins.below_le hb4 (by omega))
  have HB4 := Lib.hid hB4
  clear HB1 HB2 hb3 hB4 hN3 hm3 hv3 hb4 hr4
  go_wp2_with fail
  refine cS2.mono ?_
  rintro e w5 ⟨rfl, v5, hN5, hb5, -, -⟩
  clear cS2 hcv4
  obtain ⟨w6, hcv6, hr6, hb6, hs6⟩ := lit_bytes w5 #[.int .u8 99] [99] 1 rfl rfl (by unfold maxLen; decide)
  have hs5 := hb5.size
  have cS3 := psend_any (ntm 0 [kA, kB]) kC [99] _ _ 1 w.heap.size w.heap.size _ w6 (hN5.grow hb6) (ntm_ok (by decide) (by decide)) (by decide) (by omega) hr6 rfl
  rw [s_3] at cS3
  have hB6 : Below w.heap.size w w6 := (HB4.out.trans hb5).trans (Joins.below_le hb6 (by omega))
  have HB6 := Lib.hid hB6
  clear HB4 hb5 hB6 hN5 hb6 hr6
  go_wp2_with fail
  refine cS3.mono ?_
  rintro e w7 ⟨rfl, v7, hN7, hb7, -, -⟩
  clear cS3 hcv6
  have hB7 := HB6.out.trans hb7
  have HB7 := Lib.hid hB7
  have cL := plost_any (ntm 1 [kA, kB]) _ _ _ w7 hN7
  have HN7 := Lib.hid hN7
  clear hB7 HB6 hb7 hN7
  go_wp2_with fail
  refine cL.mono ?_
  rintro e w8 ⟨rfl, rfl⟩
  clear cL
  have cT := ptake_any (ntm 1 [kA, kB]) 0 1 _ _ _ w8 HN7.out (ntm_ok (by decide) (by decide)) HB7.out.size
  rw [s_4] at cT
  go_wp2_with fail
  refine cT.mono ?_
  rintro e w9 ⟨he, v9, hN9, hb9, -, -⟩
  have he : e = .returned (.tuple #[.agg #[.int .i64 1, .int .i64 2, .string ⟨#[97]⟩], .bool true]) := he
  subst he
  clear cT
  have hB9 := HB7.out.trans hb9
  have hp9 := hN9.lt
  have hv9 : ∀ g, v9.ownBlock = some g → g < w9.heap.size := fun g hg => (hN9.row.lt g hg).2
  obtain ⟨wa, hwa⟩ : ∃ wa, wa = w9.alloc (.cells #[.int .i64 1, .int .i64 2, .string ⟨#[97]⟩] 36) := ⟨_, rfl⟩
  have hba : Below w9.heap.size w9 wa := by rw [hwa]; exact (Below.refl _ _).alloc (Nat.le_refl _) _
  have hxa : wa.heap[w9.heap.size]? = some (.cells #[.int .i64 1, .int .i64 2, .string ⟨#[97]⟩] 36 (0, 0)) := by rw [hwa]; exact heap_alloc_new w9 _
  have hsa : wa.heap.size = w9.heap.size + 1 := by rw [hwa]; simp
  have cD := pdouble_any (ntm 1 [kB]) 0 1 _ _ _ wa (hN9.grow hba) (ntm_ok (by decide) (by decide)) (by decide) (by omega)
  rw [s_5] at cD
  have hBa := hB9.trans (Joins.below_le hba (Nat.le_of_lt hp9))
  have HWA := Lib.hid hwa
  have HBA := Lib.hid hBa
  have HXA := Lib.hid hxa
  have HSA := Lib.hid hsa
  have HV9 := Lib.hid hv9
  clear hwa hBa hxa hsa hv9 hba hN9 hB9 hb9 HN7 HB7
  go_upto_region 5 with fail
  rw [← HWA.out]
  go_wp2_with fail
  refine cD.mono ?_
  rintro e wb ⟨rfl, vb, hNb, hbb, hmb, hvb⟩
  clear cD
  have hxb : wb.heap[w9.heap.size]? = _ := (hmb _ (by have := HSA.out; omega) (by omega) (fun e => by have := HV9.out _ e; omega)).trans HXA.out
  have hBb := HBA.out.trans hbb
  have hvb2 : ∀ g, vb.ownBlock = some g → g ≠ w9.heap.size ∧ g < wb.heap.size := fun g hg => ⟨(hvb g hg).elim (fun h => by have := HV9.out _ h; omega) (fun h => by have := HSA.out; omega), (hNb.row.lt g hg).2⟩
  have cK := plook_any (ntm 1 [kB, kB]) 1 _ _ _ wb hNb
  rw [s_6] at cK
  have HNB := Lib.hid hNb
  have HBB := Lib.hid hBb
  have HXB := Lib.hid hxb
  have HVB := Lib.hid hvb2
  have hsb := hbb.size
  clear hNb hBb hxb hvb2 hbb hmb hvb HXA HBA HV9
  go_wp2_with fail
  refine cK.mono ?_
  rintro e wc ⟨he, hbc⟩
  have he : e = .returned (.tuple #[.agg #[.int .i64 2, .int .i64 1, .string ⟨#[98]⟩], .bool true]) := he
  subst he
  clear cK
  have hsc := hbc.size
  have hsA := HSA.out
  obtain ⟨wd, hwd⟩ : ∃ wd, wd = wc.alloc (.cells #[.int .i64 2, .int .i64 1, .string ⟨#[98]⟩] 36) := ⟨_, rfl⟩
  have hbd : Below wc.heap.size wc wd := by rw [hwd]; exact (Below.refl _ _).alloc (Nat.le_refl _) _
  have hxd : wd.heap[wc.heap.size]? = some (.cells #[.int .i64 2, .int .i64 1, .string ⟨#[98]⟩] 36 (0, 0)) := by rw [hwd]; exact heap_alloc_new wc _
  have hsd : wd.heap.size = wc.heap.size + 1 := by rw [hwd]; simp
  have hbd2 : Below wb.heap.size wb wd := hbc.trans (Joins.below_le hbd hsc)
  have hxe : wd.heap[w9.heap.size]? = _ := (hbd2.block _ (by omega)).trans HXB.out
  have cU := ptake_any (ntm 1 [kB, kB]) 2 1 _ _ _ wd (HNB.out.grow hbd2) (ntm_ok (by decide) (by decide)) (by omega)
  rw [s_7] at cU
  have hBd := HBB.out.trans (Joins.below_le hbd2 (by omega))
  have HWD := Lib.hid hwd
  have HXD := Lib.hid hxd
  have HXE := Lib.hid hxe
  have HBD := Lib.hid hBd
  clear hwd hxd hxe hBd hbd hbd2 hbc HXB HBB
  go_upto_region 7 with fail
  rw [← HWD.out]
  go_wp2_with fail
  refine cU.mono ?_
  rintro e we ⟨he, ve, hNe, hbe, hme, -⟩
  have he : e = .returned (.tuple #[.agg #[.int .i64 0, .int .i64 0, .string ⟨#[]⟩], .bool false]) := he
  subst he
  clear cU
  have hx3 := (hme w9.heap.size (by omega) (by omega) (fun e => (HVB.out _ e).1 rfl)).trans HXE.out
  have hx6 := (hme wc.heap.size (by omega) (by omega) (fun e => by have := (HVB.out _ e).2; omega)).trans HXD.out
  have hse := hbe.size
  obtain ⟨wf, hwf⟩ : ∃ wf, wf = we.alloc (.cells #[.int .i64 0, .int .i64 0, .string ⟨#[]⟩] 36) := ⟨_, rfl⟩
  have hbf : Below we.heap.size we wf := by rw [hwf]; exact (Below.refl _ _).alloc (Nat.le_refl _) _
  have hy3 := (hbf.block w9.heap.size (by omega)).trans hx3
  have hy6 := (hbf.block wc.heap.size (by omega)).trans hx6
  obtain ⟨d0, d1, d2⟩ : wf.cell? ⟨w9.heap.size, 0, none⟩ = some (.int .i64 1) ∧ wf.cell? ⟨w9.heap.size, 1, none⟩ = some (.int .i64 2) ∧ wf.cell? ⟨w9.heap.size, 2, none⟩ = some (.string ⟨#[97]⟩) := ⟨(blk_cells hy3).1 0, (blk_cells hy3).1 1, (blk_cells hy3).1 2⟩
  obtain ⟨e0, e1, e2⟩ : wf.cell? ⟨wc.heap.size, 0, none⟩ = some (.int .i64 2) ∧ wf.cell? ⟨wc.heap.size, 1, none⟩ = some (.int .i64 1) ∧ wf.cell? ⟨wc.heap.size, 2, none⟩ = some (.string ⟨#[98]⟩) := ⟨(blk_cells hy6).1 0, (blk_cells hy6).1 1, (blk_cells hy6).1 2⟩
  have hBf : Below w.heap.size w wf := (HBD.out.trans hbe).trans (Joins.below_le hbf (by omega))
  have HWF := Lib.hid hwf
  have HBF := Lib.hid hBf
  clear hwf hBf hbf hy3 hy6 hx3 hx6 hNe hbe hme HXD HXE HBD
  go_upto_region 8 with fail
  rw [← HWF.out]
  go_wp2_with fail
  go_ret
  exact ⟨rfl, HBF.out⟩
end Go.Proofs.Ytclfhidapkoiiaa
