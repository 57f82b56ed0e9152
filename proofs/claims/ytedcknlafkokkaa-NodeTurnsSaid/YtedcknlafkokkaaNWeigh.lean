/-
  How unlike a node's halves are: the closure that weighs a place. No statement is proved here. No condition.
-/
import Derived.Test.YtedcknlafkokkaaNCutP
import Derived.Test.YtedcknlafkokkaaNSumsOf
namespace Go.Proofs.Ytedcknlafkokkaa
open Go.RowKit

/-- what the closure has captured -/
def UnAt (w : World) (n : PN) (p q r : Nat) : Prop := ∃ vc vk sc sk T U, w.heap[p]? = some (.cells #[.bool n.leaf, vc, vk] 31 (0, 0)) ∧ CsN w Any vc n.cells ∧ KsN w Any vk n.kids ∧ w.heap[q]? = some (.cells #[sc] T (0, 0)) ∧ KsN w Any sc (pre (szC n.leaf) n.cells) ∧ w.heap[r]? = some (.cells #[sk] U (0, 0)) ∧ KsN w Any sk (pre szK n.kids)
theorem UnAt.grow {w w' : World} {n : PN} {p q r : Nat} (h : UnAt w n p q r) (hb : Below w.heap.size w w') : UnAt w' n p q r := by
  obtain ⟨vc, vk, sc, sk, T, U, h1, h2, h3, h4, h5, h6, h7⟩ := h
  exact ⟨vc, vk, sc, sk, T, U, (hb.block p (Array.getElem?_eq_some_iff.1 h1).1).trans h1, h2.grow hb, h3.grow hb, (hb.block q (Array.getElem?_eq_some_iff.1 h4).1).trans h4, h5.grow hb, (hb.block r (Array.getElem?_eq_some_iff.1 h6).1).trans h6, h7.grow hb⟩
set_option maxHeartbeats 4000000 in
set_option maxRecDepth 100000 in
theorem weigh_any (n : PN) (p q r i : Nat) (w : World) (h : UnAt w n p q r) (hs : n.small) (hi : i < n.cells.length) :
    Calls Try.prog 79 #[.int .i64 (i : Int), .pointer (some ⟨p, 0, none⟩), .pointer (some ⟨q, 0, none⟩), .pointer (some ⟨r, 0, none⟩)] w fun e w' => e = .returned (.int .i64 (n.odd i : Int)) ∧ Below w.heap.size w w' := by
  have hv := halved n hi
  obtain ⟨vc, vk, sc, sk, T, U, h1, h2, h3, h4, h5, h6, h7⟩ := id h
  have hlc := hs.cells
  have hlk := hs.kids
  obtain ⟨Ac, cc, rfl, -, -⟩ := h2.slice
  obtain ⟨Ak, ck, rfl, -, -⟩ := h3.slice
  have cH := halves_any n Any (.agg #[.bool n.leaf, .slice Ac n.cells.length cc, .slice Ak n.kids.length ck]) i w ⟨_, _, rfl, h2, h3⟩ (by omega) hi (by omega)
  have p0 : w.cell? ⟨p, 0, none⟩ = some (.bool n.leaf) := (row_cells h1).1 0
  have p1 : w.cell? ⟨p, 1, none⟩ = some (.slice Ac n.cells.length cc) := (row_cells h1).1 1
  have p2 : w.cell? ⟨p, 2, none⟩ = some (.slice Ak n.kids.length ck) := (row_cells h1).1 2
  obtain ⟨a, ha⟩ : ∃ a, a = n.first i := ⟨_, rfl⟩
  obtain ⟨b, hb⟩ : ∃ b, b = n.second i := ⟨_, rfl⟩
  have hodd : n.odd i = max (a.wt - b.wt) (b.wt - a.wt) := by rw [ha, hb]; rfl
  rw [← ha, ← hb] at cH hv
  have HODD := Lib.hid hodd
  have HV := Lib.hid hv
  have HU := Lib.hid h
  have HS := Lib.hid hs
  clear h1 h2 h3 h4 h5 h6 h7 h ha hb hodd hv hs
  go_enter Try.func79, Try.ntmps79
  go_wp2_with fail
  refine cH.mono ?_
  rintro e w2 ⟨va, vb, rfl, hna, hnb, hb2⟩
  obtain ⟨vac, vak, rfl, ca, ka⟩ := hna
  obtain ⟨vbc, vbk, rfl, cb, kb⟩ := hnb
  obtain ⟨Aac, cac, rfl, -, -⟩ := ca.slice
  obtain ⟨Aak, cak, rfl, -, -⟩ := ka.slice
  obtain ⟨Abc, cbc, rfl, -, -⟩ := cb.slice
  obtain ⟨Abk, cbk, rfl, -, -⟩ := kb.slice
  obtain ⟨w3, hw3⟩ : ∃ w3, w3 = (w2.alloc (.cells #[.bool a.leaf, .slice Aac a.cells.length cac, .slice Aak a.kids.length cak] 31)).alloc (.cells #[.bool b.leaf, .slice Abc b.cells.length cbc, .slice Abk b.kids.length cbk] 31) := ⟨_, rfl⟩
  have hb3 : Below w2.heap.size w2 w3 := by rw [hw3]; exact ((Below.refl _ _).alloc (Nat.le_refl _) _).alloc (by simp) _
  have hs3 : w3.heap.size = w2.heap.size + 2 := by rw [hw3]; simp
  have e1 : w3.heap[w2.heap.size]? = some (.cells #[.bool a.leaf, .slice Aac a.cells.length cac, .slice Aak a.kids.length cak] 31 (0, 0)) := by rw [hw3]; exact (heap_alloc_old _ _ (by simp)).trans (heap_alloc_new w2 _)
  have e2 : w3.heap[w2.heap.size + 1]? = some (.cells #[.bool b.leaf, .slice Abc b.cells.length cbc, .slice Abk b.kids.length cbk] 31 (0, 0)) := by
    rw [hw3]
    have := heap_alloc_new (w2.alloc (.cells #[.bool a.leaf, .slice Aac a.cells.length cac, .slice Aak a.kids.length cak] 31)) (.cells #[.bool b.leaf, .slice Abc b.cells.length cbc, .slice Abk b.kids.length cbk] 31)
    simpa using this
  have hbw : Below w.heap.size w w3 := hb2.trans (Joins.below_le hb3 hb2.size)
  obtain ⟨vc', vk', sc', sk', T', U', -, -, -, h4, h5, h6, h7⟩ := HU.out.grow hbw
  obtain ⟨As, cs, rfl, -, -⟩ := h5.slice
  obtain ⟨Ak', ck', rfl, -, -⟩ := h7.slice
  have hql := (Array.getElem?_eq_some_iff.1 h4).1
  have hrl := (Array.getElem?_eq_some_iff.1 h6).1
  have hkeep : ∀ W, Below w3.heap.size w3 W → (W.cell? ⟨w2.heap.size, 1, none⟩ = some (.slice Aac a.cells.length cac) ∧ W.cell? ⟨w2.heap.size, 2, none⟩ = some (.slice Aak a.kids.length cak) ∧ W.cell? ⟨w2.heap.size + 1, 1, none⟩ = some (.slice Abc b.cells.length cbc) ∧ W.cell? ⟨w2.heap.size + 1, 2, none⟩ = some (.slice Abk b.kids.length cbk) ∧ W.cell? ⟨q, 0, none⟩ = some (.slice As (pre (szC n.leaf) n.cells).length cs) ∧ W.cell? ⟨r, 0, none⟩ = some (.slice Ak' (pre szK n.kids).length ck')) := fun W hW =>
    ⟨(row_cells ((hW.block _ (by omega)).trans e1)).1 1, (row_cells ((hW.block _ (by omega)).trans e1)).1 2, (row_cells ((hW.block _ (by omega)).trans e2)).1 1, (row_cells ((hW.block _ (by omega)).trans e2)).1 2, (row_cells ((hW.block _ hql).trans h4)).1 0, (row_cells ((hW.block _ hrl).trans h6)).1 0⟩
  have hV := HV.out
  have hac : a.cells.length ≤ 1000 := Nat.le_trans hV.da hlc
  have hbc : b.cells.length ≤ 1000 := Nat.le_trans hV.db hlc
  have hak : a.kids.length ≤ 1000 := Nat.le_trans hV.ia hlk
  have hbk : b.kids.length ≤ 1000 := Nat.le_trans hV.ib hlk
  obtain ⟨dA, hdA⟩ : ∃ d, d = 1 + (cnt (a.cells.length : Int)).length := ⟨_, rfl⟩
  obtain ⟨dB, hdB⟩ : ∃ d, d = 1 + (cnt (b.cells.length : Int)).length := ⟨_, rfl⟩
  obtain ⟨xA, hxA⟩ : ∃ x, x = tot (szC n.leaf) a.cells := ⟨_, rfl⟩
  obtain ⟨yA, hyA⟩ : ∃ x, x = tot szK a.kids := ⟨_, rfl⟩
  obtain ⟨xB, hxB⟩ : ∃ x, x = tot (szC n.leaf) b.cells := ⟨_, rfl⟩
  obtain ⟨yB, hyB⟩ : ∃ x, x = tot szK b.kids := ⟨_, rfl⟩
  obtain ⟨A, hA⟩ : ∃ x, x = a.wt := ⟨_, rfl⟩
  obtain ⟨B, hB⟩ : ∃ x, x = b.wt := ⟨_, rfl⟩
  have hAe : A = dA + xA + yA := by rw [hA, wt_eq a hV.ka, hV.la, hdA, hxA, hyA]
  have hBe : B = dB + xB + yB := by rw [hB, wt_eq b hV.kb, hV.lb, hdB, hxB, hyB]
  have hsub : ∀ c ∈ n.cells, c.small := HS.out.each
  have bdA : dA ≤ 11 := by have := cnt_length (a.cells.length : Int); omega
  have bdB : dB ≤ 11 := by have := cnt_length (b.cells.length : Int); omega
  have bxA : xA ≤ 21000000 := by rw [hxA, hV.ca]; exact szC_le (take_small hsub _) (by rw [List.length_take]; omega)
  have bxB : xB ≤ 21000000 := by rw [hxB, hV.cb]; exact szC_le (fun c hc => hsub c (List.mem_of_mem_drop hc)) (by rw [List.length_drop]; omega)
  have byA : yA ≤ 10000 := by rw [hyA]; exact szK_le hak
  have byB : yB ≤ 10000 := by rw [hyB]; exact szK_le hbk
  have cHA : ∀ W, Calls Try.prog 38 #[.int .i64 (a.cells.length : Int)] W fun e w' => e = .returned (.int .i64 (dA : Int)) ∧ Below W.heap.size W w' := fun W => by rw [hdA]; exact headsize_any _ W
  have cHB : ∀ W, Calls Try.prog 38 #[.int .i64 (b.cells.length : Int)] W fun e w' => e = .returned (.int .i64 (dB : Int)) ∧ Below W.heap.size W w' := fun W => by rw [hdB]; exact headsize_any _ W
  have cA1 : ∀ W, Below w3.heap.size w3 W → Calls Try.prog 80 #[.slice As (pre (szC n.leaf) n.cells).length cs, .int .i64 (a.cells.length : Int)] W fun e w' => e = .returned (.int .i64 (xA : Int)) ∧ W = w' := fun W hW => by
    rw [hxA]
    exact sumsfirst_any _ _ _ _ W (h5.grow hW) (by have := pre_get (szC n.leaf) n.cells hV.da; rw [← hV.ca] at this; exact this) (by rw [pre_length]; omega)
  have cA2 : ∀ W, Below w3.heap.size w3 W → Calls Try.prog 80 #[.slice Ak' (pre szK n.kids).length ck', .int .i64 (a.kids.length : Int)] W fun e w' => e = .returned (.int .i64 (yA : Int)) ∧ W = w' := fun W hW => by
    rw [hyA]
    exact sumsfirst_any _ _ _ _ W (h7.grow hW) (by have := pre_get szK n.kids hV.ia; rw [← hV.ha] at this; exact this) (by rw [pre_length]; omega)
  have cB1 : ∀ W, Below w3.heap.size w3 W → Calls Try.prog 81 #[.slice As (pre (szC n.leaf) n.cells).length cs, .int .i64 (b.cells.length : Int)] W fun e w' => e = .returned (.int .i64 (xB : Int)) ∧ ∃ m, w' = W.drewN m := fun W hW => by
    have ht := tot_last (szC n.leaf) n.cells (k := b.cells.length)
    rw [← hV.cb, ← hxB] at ht
    rw [← ht]
    have hlp := pre_length (szC n.leaf) n.cells
    exact sumslast_any _ _ _ _ _ W (h5.grow hW) (by have := hV.db; omega) (by rw [hlp, show n.cells.length + 1 - 1 - b.cells.length = n.cells.length - b.cells.length by omega]; exact pre_get _ _ (by omega)) (by rw [hlp, Nat.add_sub_cancel]; have := pre_get (szC n.leaf) n.cells (i := n.cells.length) (Nat.le_refl _); rw [List.take_length] at this; exact this) (by omega) (by omega) (by omega)
  have cB2 : ∀ W, Below w3.heap.size w3 W → Calls Try.prog 81 #[.slice Ak' (pre szK n.kids).length ck', .int .i64 (b.kids.length : Int)] W fun e w' => e = .returned (.int .i64 (yB : Int)) ∧ ∃ m, w' = W.drewN m := fun W hW => by
    have ht := tot_last szK n.kids (k := b.kids.length)
    rw [← hV.hb, ← hyB] at ht
    rw [← ht]
    have hlp := pre_length szK n.kids
    exact sumslast_any _ _ _ _ _ W (h7.grow hW) (by have := hV.ib; omega) (by rw [hlp, show n.kids.length + 1 - 1 - b.kids.length = n.kids.length - b.kids.length by omega]; exact pre_get _ _ (by omega)) (by rw [hlp, Nat.add_sub_cancel]; have := pre_get szK n.kids (i := n.kids.length) (Nat.le_refl _); rw [List.take_length] at this; exact this) (by omega) (by omega) (by omega)
  have HKEEP := Lib.hid hkeep
  have CHA := Lib.hid cHA
  have CHB := Lib.hid cHB
  have CA1 := Lib.hid cA1
  have CA2 := Lib.hid cA2
  have CB1 := Lib.hid cB1
  have CB2 := Lib.hid cB2
  have HBW := Lib.hid hbw
  have HW3 := Lib.hid hw3
  have hod : n.odd i = max (A - B) (B - A) := by rw [HODD.out, hA, hB]
  have HOD := Lib.hid hod
  obtain ⟨sA, hsA⟩ : ∃ s, s = dA + xA := ⟨_, rfl⟩
  obtain ⟨sB, hsB⟩ : ∃ s, s = dB + xB := ⟨_, rfl⟩
  have w1 : IntKind.i64.wrap ((dA : Int) + (xA : Int)) = (sA : Int) := by rw [wrapS _ (by omega) (by omega)]; omega
  have w2' : IntKind.i64.wrap ((sA : Int) + (yA : Int)) = (A : Int) := by rw [wrapS _ (by omega) (by omega)]; omega
  have w4 : IntKind.i64.wrap ((dB : Int) + (xB : Int)) = (sB : Int) := by rw [wrapS _ (by omega) (by omega)]; omega
  have w5 : IntKind.i64.wrap ((sB : Int) + (yB : Int)) = (B : Int) := by rw [wrapS _ (by omega) (by omega)]; omega
  have bA : A ≤ 21010011 := by omega
  have bB : B ≤ 21010011 := by omega
  have hmax : (if (A : Int) - (B : Int) < (B : Int) - (A : Int) then (B : Int) - (A : Int) else (A : Int) - (B : Int)) = (max (A - B) (B - A) : Nat) := by split <;> omega
  obtain ⟨st1, st2, st3, st4, st5, st6⟩ := hkeep _ (Below.refl w3.heap.size w3).drew
  have hst : w3.drew.cell? ⟨w2.heap.size, 1, none⟩ = some (.slice Aac a.cells.length cac) ∧ w3.drew.cell? ⟨w2.heap.size, 2, none⟩ = some (.slice Aak a.kids.length cak) ∧ w3.drew.cell? ⟨q, 0, none⟩ = some (.slice As (pre (szC n.leaf) n.cells).length cs) ∧ w3.drew.cell? ⟨r, 0, none⟩ = some (.slice Ak' (pre szK n.kids).length ck') := ⟨st1, st2, st5, st6⟩
  have hbe : Below w3.heap.size w3 w3.drew := (Below.refl _ _).drew
  clear hkeep cHA cHB cA1 cA2 cB1 cB2 hbw hw3 hod hsA hsB hA hB hAe hBe hxA hxB hyA hyB hdA hdB hsub hV st1 st2 st3 st4 st5 st6 h4 h5 h6 h7 e1 e2 ca ka cb kb hb2 hb3 p0 p1 p2 cH bdA bdB bxA bxB byA byB hac hbc hak hbk
  go_upto_region 2 with fail
  rw [← HW3.out]
  go_region_held3 (fun w' => w'.cell? ⟨w2.heap.size, 1, none⟩ = some (.slice Aac a.cells.length cac) ∧ w'.cell? ⟨w2.heap.size, 2, none⟩ = some (.slice Aak a.kids.length cak) ∧ w'.cell? ⟨q, 0, none⟩ = some (.slice As (pre (szC n.leaf) n.cells).length cs) ∧ w'.cell? ⟨r, 0, none⟩ = some (.slice Ak' (pre szK n.kids).length ck')) (first | exact hst | exact ⟨(HKEEP.out _ hbe).1, (HKEEP.out _ hbe).2.1, (HKEEP.out _ hbe).2.2.2.2.1, (HKEEP.out _ hbe).2.2.2.2.2⟩)
    (first
      | (go_at_call 38; refine (CHA.out _).mono ?_; rintro e wy ⟨rfl, hby⟩; replace hbe := hbe.trans (Joins.below_le hby hbe.size))
      | (go_at_call 80; refine (CA1.out _ hbe).mono ?_; rintro e wy ⟨rfl, rfl⟩; clear CA1)
      | (go_at_call 80; refine (CA2.out _ hbe).mono ?_; rintro e wy ⟨rfl, rfl⟩; clear CA2))
  obtain ⟨-, -, st3, st4, st5, st6⟩ := HKEEP.out _ (hbe.trans (Joins.below_le (Below.refl wy.heap.size wy).drew hbe.size))
  have hst : wy.drew.cell? ⟨w2.heap.size + 1, 1, none⟩ = some (.slice Abc b.cells.length cbc) ∧ wy.drew.cell? ⟨w2.heap.size + 1, 2, none⟩ = some (.slice Abk b.kids.length cbk) ∧ wy.drew.cell? ⟨q, 0, none⟩ = some (.slice As (pre (szC n.leaf) n.cells).length cs) ∧ wy.drew.cell? ⟨r, 0, none⟩ = some (.slice Ak' (pre szK n.kids).length ck') := ⟨st3, st4, st5, st6⟩
  replace hbe := hbe.trans (Joins.below_le (Below.refl wy.heap.size wy).drew hbe.size)
  clear st3 st4 st5 st6
  go_upto_region 3 with fail
  go_region_held3 (fun w' => w'.cell? ⟨w2.heap.size + 1, 1, none⟩ = some (.slice Abc b.cells.length cbc) ∧ w'.cell? ⟨w2.heap.size + 1, 2, none⟩ = some (.slice Abk b.kids.length cbk) ∧ w'.cell? ⟨q, 0, none⟩ = some (.slice As (pre (szC n.leaf) n.cells).length cs) ∧ w'.cell? ⟨r, 0, none⟩ = some (.slice Ak' (pre szK n.kids).length ck')) (first | exact hst | exact ⟨(HKEEP.out _ hbe).2.2.1, (HKEEP.out _ hbe).2.2.2.1, (HKEEP.out _ hbe).2.2.2.2.1, (HKEEP.out _ hbe).2.2.2.2.2⟩)
    (first
      | (go_at_call 38; refine (CHB.out _).mono ?_; rintro e wy ⟨rfl, hby⟩; replace hbe := hbe.trans (Joins.below_le hby hbe.size))
      | (go_at_call 81; refine (CB1.out _ hbe).mono ?_; rintro e wy ⟨rfl, m1, rfl⟩; clear CB1; replace hbe := below_drewN hbe m1)
      | (go_at_call 81; refine (CB2.out _ hbe).mono ?_; rintro e wy ⟨rfl, m2, rfl⟩; clear CB2; replace hbe := below_drewN hbe m2))
  have hbf := HBW.out.trans (Joins.below_le hbe HBW.out.size)
  have HBF := Lib.hid hbf
  clear hbf hst
  go_wp2_with fail
  go_ret
  exact ⟨ret_int (by rw [HOD.out]), HBF.out.os, HBF.out.tape, HBF.out.output, HBF.out.size, HBF.out.block⟩
end Go.Proofs.Ytedcknlafkokkaa
