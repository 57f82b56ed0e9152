/-
  The examples, walked. No statement is proved here. No condition.
-/
import Derived.Test.YtackfigkhjdidaaLAwake
import Derived.Test.YtackfigkhjdidaaLWrite
namespace Go.Proofs.Ytackfigkhjdidaa
open Go.RowKit

def gA : LG := ⟨5, 1, [nE 1, nE 2]⟩
def gB : LG := ⟨5, 1, [nE 1, nE 2, nE 2]⟩
def gC : LG := ⟨5, 1, [nE 3]⟩
theorem ref_A : refuse 5 1 [nE 1, nE 2] = 0 := by decide
theorem mer_B : gA.merge 6 1 [nE 2, nE 2] = ((8, 0), gB) := by rfl
theorem mer_S : gB.merge 6 2 [] = ((0, 50), gB) := by rfl
theorem mer_C : gB.merge 5 1 [nE 3] = ((6, 0), gC) := by rfl
theorem bs_1 : (nE 1).bs = [1, 1, 0, 0] := by
  unfold EN.bs nE intsBy tv
  simp [uv_small]
theorem may_1 : (nE 1).may = true := by decide
theorem row_2 (a b : Int) : (entR.row ([a, b].map nR)).toArray = #[.int .i64 a, .int .u8 1, .string ⟨#[]⟩, .slice none 0 0, .int .i64 b, .int .u8 1, .string ⟨#[]⟩, .slice none 0 0] := rfl
theorem row_1 (a : Int) : (entR.row ([a].map nR)).toArray = #[.int .i64 a, .int .u8 1, .string ⟨#[]⟩, .slice none 0 0] := rfl
/-- bytes stay where a log is turned -/
theorem row_turned {w w' : World} {B C p : Nat} {v u : Value} {g : LG} {n : Nat} {xs : List Value} {T : TypeId} (hT1 : T ≠ 128) (hT2 : T ≠ 50) (h : w.ownsRow C T 1 u n xs) (hl : LogAt w B p v g) (ht : Turned p v w w') : w'.ownsRow C T 1 u n xs :=
  row_same h fun b hb => ht.block b (h.lt b hb).2 (fun e => by
    subst e
    obtain ⟨cur, hc⟩ := row_type h hb
    exact apart_T hc hl.blk hT1 rfl) fun e => by
      obtain ⟨rs, he⟩ := hl.ent
      obtain ⟨cur, hc⟩ := row_type h hb
      obtain ⟨cur2, hc2⟩ := row_type he.row e
      exact apart_T hc hc2 hT2 rfl
set_option maxHeartbeats 4000000 in
set_option maxRecDepth 100000 in
theorem awake_any (w : World) : Calls Try.prog 25 #[] w fun e w' => e = .returned (.bool true) ∧ Below w.heap.size w w' := by
  have cN : ∀ t W, Calls Try.prog 81 #[.int .i64 t] W fun e w' => e = .returned (.agg #[.int .i64 t, .int .u8 1, .string ⟨#[]⟩, .slice none 0 0]) ∧ Below W.heap.size W w' := noop_any
  go_enter Try.func25, Try.ntmps25
  go_wp2_with fail
  refine (cN 1 w).mono ?_
  rintro e w1 ⟨rfl, hb1⟩
  go_wp2_with fail
  refine (cN 2 w1).mono ?_
  rintro e w2 ⟨rfl, hb2⟩
  have hB2 := hb1.trans (Joins.below_le hb2 hb1.size)
  obtain ⟨w3, hw3⟩ : ∃ w3, w3 = w2.alloc (.cells #[.int .i64 1, .int .u8 1, .string ⟨#[]⟩, .slice none 0 0, .int .i64 2, .int .u8 1, .string ⟨#[]⟩, .slice none 0 0] 50) := ⟨_, rfl⟩
  have hb3 : Below w2.heap.size w2 w3 := by rw [hw3]; exact (Below.refl _ _).alloc (Nat.le_refl _) _
  have he3 : EntN w3 Any (.slice (some ⟨w2.heap.size, 0, none⟩) 2 2) [nE 1, nE 2] := lit_ents [1, 2] (by decide) (by rw [row_2, hw3]; exact heap_alloc_new w2 _) trivial
  have cA := new_any 5 1 [nE 1, nE 2] _ w3 he3
  have HB3 := Lib.hid (hB2.trans (Joins.below_le hb3 hB2.size))
  rw [hw3] at cA
  have HW3 := Lib.hid hw3
  clear hb1 hb2 hB2 hw3 hb3 he3
  go_wp2_with fail
  refine cA.mono ?_
  rintro e w4 ⟨hcase, hb4⟩
  rw [← HW3.out] at hb4 hcase
  obtain ⟨hr, -⟩ | ⟨-, p, v, rfl, hlog, hvs⟩ := hcase
  · exact absurd ref_A hr
  clear cA
  have HL4 := Lib.hid (show LogAt w4 w3.heap.size p v gA from hlog)
  have HV4 := Lib.hid hvs
  have HB4 := Lib.hid (HB3.out.trans (Joins.below_le hb4 HB3.out.size))
  have HS4 := Lib.hid (show w3.heap.size ≤ w4.heap.size from hb4.size)
  clear hlog hvs hb4
  -- the first merge
  go_wp2_with fail
  refine (cN 2 w4).mono ?_
  rintro e w5 ⟨rfl, hb5⟩
  go_wp2_with fail
  refine (cN 2 w5).mono ?_
  rintro e w6 ⟨rfl, hb6⟩
  have h56 := hb5.trans (Joins.below_le hb6 hb5.size)
  obtain ⟨w7, hw7⟩ : ∃ w7, w7 = w6.alloc (.cells #[.int .i64 2, .int .u8 1, .string ⟨#[]⟩, .slice none 0 0, .int .i64 2, .int .u8 1, .string ⟨#[]⟩, .slice none 0 0] 50) := ⟨_, rfl⟩
  have hb7 : Below w6.heap.size w6 w7 := by rw [hw7]; exact (Below.refl _ _).alloc (Nat.le_refl _) _
  have h47 := h56.trans (Joins.below_le hb7 h56.size)
  have he7 : EntN w7 (fun b => w4.heap.size ≤ b) (.slice (some ⟨w6.heap.size, 0, none⟩) 2 2) [nE 2, nE 2] := lit_ents [2, 2] (by decide) (by rw [row_2, hw7]; exact heap_alloc_new w6 _) h56.size
  have cM := merge_any gA w3.heap.size p v _ 6 1 [nE 2, nE 2] _ w7 (HL4.out.below h47) HV4.out he7 HL4.out.off (Nat.le_trans HS4.out h47.size)
  have HB7 := Lib.hid (And.intro (HL4.out.below h47) (And.intro (HB4.out.trans (Joins.below_le h47 HB4.out.size)) (Nat.le_trans HS4.out h47.size)))
  rw [hw7] at cM
  have HW7 := Lib.hid hw7
  clear hb5 hb6 h56 hw7 hb7 h47 he7
  go_wp2_with fail
  refine cM.mono ?_
  rintro e w8 ⟨rfl, ⟨v8, hl8, hv8, -⟩, ht8⟩
  rw [← HW7.out] at ht8
  rw [mer_B] at hl8 ⊢
  clear cM HW7
  have HL8 := Lib.hid (show LogAt w8 w3.heap.size p v8 gB from hl8)
  have HV8 := Lib.hid hv8
  have HB8 := Lib.hid (And.intro (HB7.out.2.1.trans (Joins.below_le (ht8.below HB7.out.1 HB7.out.2.2) HB3.out.size)) (Nat.le_trans HB7.out.2.2 ht8.size))
  clear hl8 hv8 ht8 HB7 HL4 HV4 HB4 HS4
  -- the second
  have cM := merge_any gB w3.heap.size p v8 _ 6 2 [] _ w8 HL8.out HV8.out (EntN.nil w8 (fun b => w8.heap.size ≤ b)) HL8.out.off HB8.out.2
  go_wp2_with fail
  refine cM.mono ?_
  rintro e w9 ⟨rfl, ⟨v9, hl9, hv9, -⟩, ht9⟩
  rw [mer_S] at hl9 ⊢
  clear cM
  have HL9 := Lib.hid (show LogAt w9 w3.heap.size p v9 gB from hl9)
  have HV9 := Lib.hid hv9
  have HB9 := Lib.hid (And.intro (HB8.out.1.trans (Joins.below_le (ht9.below HL8.out HB8.out.2) HB3.out.size)) (Nat.le_trans HB8.out.2 ht9.size))
  clear hl9 hv9 ht9 HL8 HV8 HB8
  -- the bytes
  go_wp2_with fail
  refine (cN 1 w9).mono ?_
  rintro e w10 ⟨rfl, hb10⟩
  have cW := write_any (nE 1) (.slice none 0 0) w10 (Rec.N.nil _ _)
  unfold EN.agg nE at cW
  dsimp only at cW
  go_wp2_with fail
  refine cW.mono ?_
  rintro e w11 ⟨hcase, hb11⟩
  obtain ⟨hn, -⟩ | ⟨-, u, rfl, hu⟩ := hcase
  · exact absurd (may_1.symm.trans hn) (by decide)
  clear cW
  have hb9 := hb10.trans (Joins.below_le hb11 hb10.size)
  rw [show (EN.bs ⟨1, 1, ⟨#[]⟩, []⟩) = [1, 1, 0, 0] from bs_1] at hu
  have HU := Lib.hid hu
  have HL11 := Lib.hid (And.intro (HL9.out.below hb9) (And.intro (HB9.out.1.trans (Joins.below_le hb9 HB9.out.1.size)) (Nat.le_trans HB9.out.2 hb9.size)))
  obtain ⟨Au, cu, hus⟩ := own_slice hu
  subst hus
  clear hb10 hb11 hb9 hu HL9 HB9
  -- the third
  go_wp2_with fail
  refine (cN 3 w11).mono ?_
  rintro e w12 ⟨rfl, hb12⟩
  clear cN
  obtain ⟨w13, hw13⟩ : ∃ w13, w13 = w12.alloc (.cells #[.int .i64 3, .int .u8 1, .string ⟨#[]⟩, .slice none 0 0] 50) := ⟨_, rfl⟩
  have hb13 : Below w12.heap.size w12 w13 := by rw [hw13]; exact (Below.refl _ _).alloc (Nat.le_refl _) _
  have h113 := hb12.trans (Joins.below_le hb13 hb12.size)
  have he13 : EntN w13 (fun b => w11.heap.size ≤ b) (.slice (some ⟨w12.heap.size, 0, none⟩) 1 1) [nE 3] := lit_ents [3] (by decide) (by rw [row_1, hw13]; exact heap_alloc_new w12 _) hb12.size
  have cM := merge_any gB w3.heap.size p v9 _ 5 1 [nE 3] _ w13 (HL11.out.1.below h113) HV9.out he13 HL11.out.1.off (Nat.le_trans HL11.out.2.2 h113.size)
  have HL13 := Lib.hid (And.intro (HL11.out.1.below h113) (And.intro (HL11.out.2.1.trans (Joins.below_le h113 HL11.out.2.1.size)) (Nat.le_trans HL11.out.2.2 h113.size)))
  have hu13 := row_same HU.out fun b hb => h113.block b (HU.out.lt b hb).2
  rw [hw13] at cM
  have HW13 := Lib.hid hw13
  have HU13 := Lib.hid hu13
  clear hb12 hw13 hb13 h113 he13 hu13 HU HL11
  go_wp2_with fail
  refine cM.mono ?_
  rintro e w14 ⟨rfl, ⟨v14, hl14, hv14, -⟩, ht14⟩
  rw [← HW13.out] at ht14
  rw [mer_C] at hl14 ⊢
  clear cM HW13
  have hu14 := row_turned (by decide) (by decide) HU13.out HL13.out.1 ht14
  have HB14 := Lib.hid (HL13.out.2.1.trans (Joins.below_le (ht14.below HL13.out.1 HL13.out.2.2) HB3.out.size))
  have cL := last_any gC w3.heap.size p v14 w14 hl14
  have HU14 := Lib.hid hu14
  clear hl14 hv14 ht14 HU13 HL13 HV9 hu14
  go_wp2_with fail
  refine cL.mono ?_
  rintro e w15 ⟨rfl, hb15⟩
  clear cL
  have hu15 := row_same HU14.out fun b hb => hb15.block b (HU14.out.lt b hb).2
  have HB15 := Lib.hid (HB14.out.trans (Joins.below_le hb15 HB14.out.size))
  have hrd := Rd.own hu15
  obtain ⟨A', c', hv', -, -, -, hcells⟩ := hrd
  injection hv' with e1 e2 e3
  obtain ⟨b, o, hA, -, hcl⟩ := hcells (by simp)
  subst e1 hA
  obtain ⟨y0, y1, y2, y3⟩ : w15.cell? ⟨b, o, none⟩ = some (.int .u8 1) ∧ w15.cell? ⟨b, o + 1, none⟩ = some (.int .u8 1) ∧ w15.cell? ⟨b, o + 2, none⟩ = some (.int .u8 0) ∧ w15.cell? ⟨b, o + 3, none⟩ = some (.int .u8 0) := ⟨hcl 0 1 rfl, hcl 1 1 rfl, hcl 2 0 rfl, hcl 3 0 rfl⟩
  have g1 : (gC.last : Int) = 6 := rfl
  have g2 : gC.lastT = 3 := rfl
  rw [g1, g2]
  clear hcells hcl hu15 hb15 HU14 HB14 e2 e3 g1 g2
  go_wp2_with fail
  go_ret
  exact ⟨rfl, HB15.out⟩
end Go.Proofs.Ytackfigkhjdidaa
