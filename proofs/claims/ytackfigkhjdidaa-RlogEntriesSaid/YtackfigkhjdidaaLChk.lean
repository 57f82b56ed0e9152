/-
  Whether entries may be, and may stand behind one another: the program's. No statement is proved here. No condition.
-/
import Derived.Test.YtackfigkhjdidaaLPlain
import Derived.Test.YtackfigkhjdidaaLMem
namespace Go.Proofs.Ytackfigkhjdidaa
open Go.RowKit

theorem ret_b {a b : Bool} (h : a = b) : Ending.returned (.bool a) = .returned (.bool b) := by rw [h]
theorem rb {a b : Bool} (h : a = b) : Ending.returned (.bool b) = .returned (.bool a) := by rw [h]
theorem ri {k : IntKind} {a b : Int} (h : a = b) : Ending.returned (.int k b) = .returned (.int k a) := by rw [h]
theorem tl_nil {b : ByteArray} : b.toList = [] ↔ b.size = 0 := by
  rw [ByteArray.toList_eq]
  cases b with
  | mk d => simp [ByteArray.size]
theorem iscount_any (n : Int) (w : World) :
    Calls Try.prog 139 #[.int .i64 n] w fun e w' => e = .returned (.bool (isCnt n)) ∧ w = w' := by
  go_enter Try.func139, Try.ntmps139
  by_cases h : (0 : Int) ≤ n
  · go_wp2_with fail
    go_ret
    refine ⟨ret_b ?_, rfl⟩
    simp [isCnt, h]
  · go_wp2_with fail
    go_ret
    refine ⟨ret_b ?_, rfl⟩
    simp [isCnt]
    omega
theorem row_nil_c {α : Type} {R : Rec α} {w : World} {N : Nat → Prop} {v : Value} {l : List α} (h : R.N w N v l) : l.length ≤ maxLen := by
  obtain ⟨A, c, -, h1, h2⟩ := h.slice
  omega
theorem int_cell {w : World} {N : Nat → Prop} {v : Value} {l : List Int} (h : inR.N w N v l) {i : Nat} {n : Int} (hi : l[i]? = some n) : ∃ b o m k, v = .slice (some ⟨b, o, none⟩) m k ∧ N b ∧ b < w.heap.size ∧ w.cell? ⟨b, o + i, none⟩ = some (.int .i64 n) := by
  obtain ⟨b, o, m, k, hv, hN, hb, hc⟩ := h.cell hi
  refine ⟨b, o, m, k, hv, hN, hb, ?_⟩
  have := hc 0 _ rfl
  simpa [inR] using this
theorem getLast_take {α : Type} {l : List α} {i : Nat} {x : α} (h : l[i]? = some x) : l.take (i + 1) = l.take i ++ [x] := by rw [List.take_add_one, h]; rfl
set_option maxHeartbeats 1000000 in
set_option maxRecDepth 100000 in
theorem voters_any (l : List Int) (v : Value) (w : World) (h : inR.N w Any v l) :
    Calls Try.prog 86 #[v] w fun e w' => e = .returned (.bool (voters l)) ∧ w = w' := by
  obtain ⟨A, c, rfl, hlc, hcm⟩ := h.slice
  have hl : l.length ≤ maxLen := Nat.le_trans hlc hcm
  unfold maxLen at hl
  have H := Lib.hid h
  clear h hlc hcm
  have H0 : Hid (rising 0 (l.take 0) = true) := Lib.hid rfl
  go_enter Try.func86, Try.ntmps86
  go_wp2_with fail
  go_loopw [3, 5, 8] (fun s3 _ s8 wr => ∃ i : Nat, s8 = .int .i64 (i : Int) ∧ i ≤ l.length ∧ s3 = .int .i64 (((l.take i).getLast?).getD 0) ∧ Hid (rising 0 (l.take i) = true) ∧ Hid (w = wr)) (fun _ _ s8 _ => l.length - (intOf s8).toNat)
  case atStart => exact ⟨0, rfl, Nat.zero_le _, rfl, H0, Lib.hid rfl⟩
  case round =>
    clear H0
    obtain ⟨i, rfl, hi, rfl, hR, hW⟩ := hrel
    obtain ⟨wz, hwz⟩ : ∃ wz : World, wz = wr := ⟨_, rfl⟩
    subst hwz
    by_cases hil : i < l.length
    · have a1 : (i : Int) < (l.length : Int) := by omega
      have a0 : (0 : Int) ≤ (i : Int) := by omega
      obtain ⟨x, hx⟩ : ∃ x, l[i]? = some x := ⟨_, List.getElem?_eq_getElem hil⟩
      obtain ⟨b, o, m, k, hv, -, -, hc⟩ := int_cell H.out hx
      injection hv with v1 v2 v3
      subst v1 v3
      rw [hW.out] at hc
      have hsn := rising_snoc (l.take i) 0 x
      rw [← getLast_take hx, hR.out, Bool.true_and] at hsn
      obtain ⟨y, hy⟩ : ∃ y, y = ((l.take i).getLast?).getD 0 := ⟨_, rfl⟩
      rw [← hy] at hsn ⊢
      have HX := Lib.hid hx
      clear v2 hx hy
      by_cases k1 : x ≤ y
      · have hf : voters l = false := by
          unfold voters
          rw [rising_take (i := i + 1) (by rw [hsn]; simp; omega), Bool.false_and]
        have HF := Lib.hid hf
        clear hf hsn
        go_wp2_with fail
        go_ret
        exact ⟨by rw [HF.out]; rfl, hW.out⟩
      · by_cases k2 : x > 5
        · have hf : voters l = false := by
            unfold voters
            rw [rising_take (i := i + 1) (by rw [hsn]; simp; omega), Bool.false_and]
          have HF := Lib.hid hf
          clear hf hsn
          go_wp2_with fail
          go_ret
          exact ⟨by rw [HF.out]; rfl, hW.out⟩
        · have ht : rising 0 (l.take (i + 1)) = true := by rw [hsn]; simp; omega
          have HT := Lib.hid ht
          clear ht hsn
          go_wp2_with fail
          refine ⟨⟨i + 1, by go_num, hil, ?_, HT, hW⟩, by simp [intOf]; omega⟩
          rw [getLast_take HX.out, List.getLast?_concat]
          rfl
    · have a1 : ¬ (i : Int) < (l.length : Int) := by omega
      have hie : i = l.length := by omega
      have hr : rising 0 l = true := by have := hR.out; rwa [hie, List.take_length] at this
      have HR := Lib.hid hr
      clear hr hie hi hil
      by_cases h0 : (l.length : Int) > 0
      · go_wp2_with fail
        go_ret
        refine ⟨ret_b ?_, hW.out⟩
        unfold voters
        rw [HR.out]
        cases l with
        | nil => simp at h0
        | cons a l => rfl
      · go_wp2_with fail
        go_ret
        refine ⟨ret_b ?_, hW.out⟩
        cases l with
        | nil => rfl
        | cons a l => exact absurd h0 (by simp)
def EN.agg (e : EN) (vl : Value) : Value := .agg #[.int .i64 e.term, .int .u8 e.kind, .string e.data, vl]
set_option maxHeartbeats 1000000 in
set_option maxRecDepth 100000 in
theorem check_any (e : EN) (v : Value) (w : World) (h : inR.N w Any v e.list) :
    Calls Try.prog 31 #[e.agg v] w fun r w' => r = .returned (.bool e.may) ∧ Below w.heap.size w w' := by
  obtain ⟨A, c, rfl, hlc, hcm⟩ := h.slice
  unfold maxLen at hcm
  unfold EN.agg
  obtain ⟨term, kind, data, list⟩ := e
  dsimp only at h hlc ⊢
  have hb : Below w.heap.size w (w.alloc (.cells #[.int .i64 term, .int .u8 kind, .string data, .slice A list.length c] 50)) := (Below.refl _ _).alloc (Nat.le_refl _) _
  have HB := Lib.hid hb
  have cV := voters_any list _ _ (h.grow hb)
  clear h hb
  have hz : list.length = 0 ↔ list.isEmpty = true := by cases list <;> simp
  go_enter Try.func31, Try.ntmps31
  by_cases h1 : term < 1
  · clear cV
    go_wp2_with fail
    go_ret
    refine ⟨ret_b ?_, HB.out⟩
    unfold EN.may
    dsimp only
    rw [decide_eq_false (by omega), Bool.false_and]
  by_cases h2 : term > 2147483647
  · clear cV
    go_wp2_with fail
    go_ret
    refine ⟨ret_b ?_, HB.out⟩
    unfold EN.may
    dsimp only
    rw [decide_eq_false (by omega), Bool.false_and]
  have hm : EN.may ⟨term, kind, data, list⟩ = (if kind = 1 then decide (data.size = 0) && list.isEmpty else if kind = 2 then decide (data.size ≤ 256) && list.isEmpty else if kind = 3 then decide (data.size = 0) && voters list else false) := by
    unfold EN.may
    dsimp only
    rw [decide_eq_true (by omega), Bool.true_and]
  by_cases k1 : kind = 1
  · rw [if_pos k1] at hm
    subst k1
    clear cV
    by_cases hd : data.toList = []
    · rw [decide_eq_true (tl_nil.1 hd), Bool.true_and] at hm
      have HM := Lib.hid hm
      clear hm
      go_wp2_with fail
      go_ret
      refine ⟨ret_b ?_, HB.out⟩
      rw [HM.out]
      cases list <;> first | rfl | simp
    · rw [decide_eq_false (fun h => hd (tl_nil.2 h)), Bool.false_and] at hm
      have HM := Lib.hid hm
      clear hm
      go_wp2_with fail
      go_ret
      exact ⟨ret_b (by rw [HM.out]), HB.out⟩
  rw [if_neg k1] at hm
  by_cases k2 : kind = 2
  · rw [if_pos k2] at hm
    subst k2
    clear cV
    by_cases hd : (data.size : Int) ≤ 256
    · rw [decide_eq_true (by omega), Bool.true_and] at hm
      have HM := Lib.hid hm
      clear hm
      go_wp2_with fail
      go_ret
      refine ⟨ret_b ?_, HB.out⟩
      rw [HM.out]
      cases list <;> first | rfl | simp
    · rw [decide_eq_false (by omega), Bool.false_and] at hm
      have HM := Lib.hid hm
      clear hm
      go_wp2_with fail
      go_ret
      exact ⟨ret_b (by rw [HM.out]), HB.out⟩
  rw [if_neg k2] at hm
  by_cases k3 : kind = 3
  · rw [if_pos k3] at hm
    subst k3
    by_cases hd : data.toList = []
    · rw [decide_eq_true (tl_nil.1 hd), Bool.true_and] at hm
      have HM := Lib.hid hm
      clear hm
      go_wp2_with fail
      refine cV.mono ?_
      rintro e w1 ⟨rfl, rfl⟩
      go_wp2_with fail
      go_ret
      exact ⟨ret_b (by rw [HM.out]), HB.out⟩
    · rw [decide_eq_false (fun h => hd (tl_nil.2 h)), Bool.false_and] at hm
      clear cV
      have HM := Lib.hid hm
      clear hm
      go_wp2_with fail
      go_ret
      exact ⟨ret_b (by rw [HM.out]), HB.out⟩
  rw [if_neg k3] at hm
  clear cV
  have HM := Lib.hid hm
  clear hm
  go_wp2_with fail
  go_ret
  exact ⟨ret_b (by rw [HM.out]), HB.out⟩
end Go.Proofs.Ytackfigkhjdidaa
