/-
  Whether entries may stand behind an index and its term: the program's. No statement is proved here. No condition.
-/
import Derived.Test.YtackfigkhjdidaaLChk
namespace Go.Proofs.Ytackfigkhjdidaa
open Go.RowKit

set_option maxHeartbeats 1000000 in
set_option maxRecDepth 100000 in
theorem mayfollow_any (t : Int) (l : List EN) (v : Value) (w : World) (h : EntN w Any v l) :
    Calls Try.prog 140 #[.int .i64 t, v] w fun e w' => e = .returned (.bool (follows t l)) ∧ Below w.heap.size w w' := by
  obtain ⟨A, c, rfl, hlc, hcm⟩ := h.slice
  have hl : l.length ≤ maxLen := Nat.le_trans hlc hcm
  unfold maxLen at hl
  have H := Lib.hid h
  clear h hlc hcm
  have H0 : Hid (follows t (l.take 0) = true) := Lib.hid rfl
  have HB0 : Hid (Below w.heap.size w w) := Lib.hid (Below.refl _ _)
  go_enter Try.func140, Try.ntmps140
  go_wp2_with fail
  go_loopw [0, 6, 9] (fun s0 _ s9 wr => ∃ i : Nat, s9 = .int .i64 (i : Int) ∧ i ≤ l.length ∧ s0 = .int .i64 (lastTerm t (l.take i)) ∧ Hid (follows t (l.take i) = true) ∧ Hid (Below w.heap.size w wr)) (fun _ _ s9 _ => l.length - (intOf s9).toNat)
  case atStart => exact ⟨0, rfl, Nat.zero_le _, rfl, H0, HB0⟩
  case round =>
    clear H0 HB0
    obtain ⟨i, rfl, hi, rfl, hR, hW⟩ := hrel
    obtain ⟨wz, hwz⟩ : ∃ wz : World, wz = wr := ⟨_, rfl⟩
    subst hwz
    by_cases hil : i < l.length
    · have a1 : (i : Int) < (l.length : Int) := by omega
      have a0 : (0 : Int) ≤ (i : Int) := by omega
      obtain ⟨x, hx⟩ : ∃ x, l[i]? = some x := ⟨_, List.getElem?_eq_getElem hil⟩
      obtain ⟨b, o, m, k, A3, c3, hv, -, -, hli, y0, y1, y2, y3⟩ := (H.out.grow hW.out).cell hx
      injection hv with v1 v2 v3
      subst v1 v3
      have hsn := follows_snoc (l.take i) t x
      rw [← getLast_take hx, hR.out, Bool.true_and] at hsn
      obtain ⟨y, hy⟩ : ∃ y, y = lastTerm t (l.take i) := ⟨_, rfl⟩
      rw [← hy] at hsn ⊢
      obtain ⟨wa, hwa⟩ : ∃ wa, wa = wz.alloc (.cells #[.int .i64 x.term, .int .u8 x.kind, .string x.data, .slice A3 x.list.length c3] 50) := ⟨_, rfl⟩
      have hba : Below wz.heap.size wz wa := by rw [hwa]; exact (Below.refl _ _).alloc (Nat.le_refl _) _
      have hea : wa.heap[wz.heap.size]? = some (.cells #[.int .i64 x.term, .int .u8 x.kind, .string x.data, .slice A3 x.list.length c3] 50 (0, 0)) := by rw [hwa]; exact heap_alloc_new wz _
      obtain ⟨eb, heb⟩ : ∃ eb, eb = wz.heap.size := ⟨_, rfl⟩
      rw [← heb] at hea
      have cC := check_any x (.slice A3 x.list.length c3) wa (hli.any.grow hba)
      have hbA : Below w.heap.size w wa := hW.out.trans (Joins.below_le hba hW.out.size)
      obtain ⟨e0, e1, e2, e3⟩ : wa.cell? ⟨eb, 0, none⟩ = some (.int .i64 x.term) ∧ wa.cell? ⟨eb, 1, none⟩ = some (.int .u8 x.kind) ∧ wa.cell? ⟨eb, 2, none⟩ = some (.string x.data) ∧ wa.cell? ⟨eb, 3, none⟩ = some (.slice A3 x.list.length c3) := ⟨(blk_cells hea).1 0, (blk_cells hea).1 1, (blk_cells hea).1 2, (blk_cells hea).1 3⟩
      have HX := Lib.hid hx
      have HY := Lib.hid hy
      have HWA := Lib.hid hwa
      have HEB := Lib.hid heb
      have HEA := Lib.hid hea
      have HBA := Lib.hid hbA
      have HSN := Lib.hid hsn
      clear v2 hx hy hwa heb hea hba hbA hli hsn
      unfold EN.agg at cC
      go_upto_region 4 with fail
      rw [← HWA.out, ← HEB.out]
      clear y0 y1 y2 y3
      go_wp2_with fail
      refine cC.mono ?_
      rintro r w2 ⟨rfl, hb2⟩
      clear cC e0 e1 e2 e3
      have hB2 : Below w.heap.size w w2 := HBA.out.trans (Joins.below_le hb2 HBA.out.size)
      have e0 : w2.cell? ⟨eb, 0, none⟩ = some (.int .i64 x.term) := (blk_cells ((hb2.block eb (lt_of_heap HEA.out)).trans HEA.out)).1 0
      have HB2 := Lib.hid hB2
      clear hb2 hB2
      by_cases k1 : x.may = true
      · rw [k1]
        by_cases k2 : x.term < y
        · have hf : follows t l = false := follows_take (i := i + 1) (by rw [HSN.out, k1]; simp; omega)
          have HF := Lib.hid hf
          clear hf
          go_wp2_with fail
          go_ret
          exact ⟨rb HF.out, HB2.out⟩
        · have ht : follows t (l.take (i + 1)) = true := by rw [HSN.out, k1]; simp; omega
          have HT := Lib.hid ht
          clear ht
          go_wp2_with fail
          refine ⟨⟨i + 1, by go_num, hil, ?_, HT, HB2⟩, by simp [intOf]; omega⟩
          rw [getLast_take HX.out, lastTerm_snoc]
      · have k1' : x.may = false := by simpa using k1
        rw [k1']
        have hf : follows t l = false := follows_take (i := i + 1) (by rw [HSN.out, k1', Bool.false_and])
        have HF := Lib.hid hf
        clear hf
        go_wp2_with fail
        go_ret
        exact ⟨rb HF.out, HB2.out⟩
    · have a1 : ¬ (i : Int) < (l.length : Int) := by omega
      have hie : i = l.length := by omega
      have hr : follows t l = true := by have := hR.out; rwa [hie, List.take_length] at this
      have HR := Lib.hid hr
      clear hr hie hi hil
      go_wp2_with fail
      go_ret
      exact ⟨rb HR.out, hW.out⟩
set_option maxHeartbeats 1000000 in
set_option maxRecDepth 100000 in
theorem refusal_any (index term : Int) (l : List EN) (v : Value) (w : World) (h : EntN w Any v l) :
    Calls Try.prog 87 #[.int .i64 index, .int .i64 term, v] w fun e w' => e = .returned (.int .i64 (refuse index term l)) ∧ Below w.heap.size w w' := by
  obtain ⟨A, c, rfl, hlc, hcm⟩ := h.slice
  have hl : l.length ≤ maxLen := Nat.le_trans hlc hcm
  unfold maxLen at hl
  have cF := mayfollow_any term l _ w h
  clear h
  have HB0 : Hid (Below w.heap.size w w) := Lib.hid (Below.refl _ _)
  have h1 : ∀ W, Calls Try.prog 139 #[.int .i64 index] W fun e w' => e = .returned (.bool (isCnt index)) ∧ W = w' := iscount_any index
  have h2 : ∀ W, Calls Try.prog 139 #[.int .i64 term] W fun e w' => e = .returned (.bool (isCnt term)) ∧ W = w' := iscount_any term
  go_enter Try.func87, Try.ntmps87
  go_wp2_with fail
  refine (h1 _).mono ?_
  rintro e w1 ⟨rfl, rfl⟩
  cases k1 : isCnt index
  · have hf : refuse index term l = 1 := by unfold refuse; rw [k1]; rfl
    have HF := Lib.hid hf
    clear hf k1 cF
    go_wp2_with fail
    go_ret
    exact ⟨ri HF.out, HB0.out⟩
  go_wp2_with fail
  refine (h2 _).mono ?_
  rintro e w1 ⟨rfl, rfl⟩
  cases k2 : isCnt term
  · have hf : refuse index term l = 1 := by unfold refuse; rw [k1, k2]; rfl
    have HF := Lib.hid hf
    clear hf k1 k2 cF
    go_wp2_with fail
    go_ret
    exact ⟨ri HF.out, HB0.out⟩
  go_wp2_with fail
  refine cF.mono ?_
  rintro e w1 ⟨rfl, hb⟩
  have HB := Lib.hid hb
  clear hb cF
  cases k3 : follows term l
  · have hf : refuse index term l = 1 := by unfold refuse; rw [k1, k2, k3]; rfl
    have HF := Lib.hid hf
    clear hf k1 k2 k3
    go_wp2_with fail
    go_ret
    exact ⟨ri HF.out, HB.out⟩
  have k1' := k1
  unfold isCnt at k1'
  simp only [decide_eq_true_eq] at k1'
  obtain ⟨q0, q1⟩ := k1'
  by_cases k4 : (l.length : Int) > 2147483647 - index
  · have hf : refuse index term l = 70 := by unfold refuse; rw [k1, k2, k3]; exact if_pos k4
    have HF := Lib.hid hf
    clear hf k1 k2 k3
    go_wp2_with fail
    go_ret
    exact ⟨ri HF.out, HB.out⟩
  · have hf : refuse index term l = 0 := by unfold refuse; rw [k1, k2, k3]; exact if_neg k4
    have HF := Lib.hid hf
    clear hf k1 k2 k3
    go_wp2_with fail
    go_ret
    exact ⟨ri HF.out, HB.out⟩
end Go.Proofs.Ytackfigkhjdidaa
