/-
  Whether two lists are unlike by one at most: the program's, and the document's. No statement is proved here. No condition.
-/
import Derived.Test.YtblbcoknefgcaaaBWithoutW
namespace Go.Proofs.Ytblbcoknefgcaaa
open Go.RowKit

set_option maxHeartbeats 1000000 in
theorem near_any (l m : List Int) (a b : Value) (w : World) (ha : inR.N w Any a l) (hb : inR.N w Any b m) (hl : l.length ≤ 1000) (hm : m.length ≤ 1000) (wl : ∀ x ∈ l, I6 x) (wm : ∀ x ∈ m, I6 x) :
    Calls Try.prog 36 #[a, b] w fun e w' => e = .returned (.bool (near l m)) ∧ Below w.heap.size w w' := by
  have c1 := without_any l m a b w ha hb hl hm wl wm
  have H := Lib.hid (And.intro ha (And.intro hb (And.intro wl wm)))
  clear ha hb wl wm
  go_enter Try.func36, Try.ntmps36
  go_wp2_with fail
  refine c1.mono ?_
  rintro e w1 ⟨v1, rfl, ho1, hb1⟩
  clear c1
  obtain ⟨A1, k1, rfl⟩ := ho1.slice
  have c2 := without_any m l b a w1 (H.out.2.1.grow hb1) (H.out.1.grow hb1) hm hl H.out.2.2.2 H.out.2.2.1
  have HB1 := Lib.hid hb1
  have hl1 : (wo m l).length ≤ 1000 := Nat.le_trans (wo_len _ _) hl
  clear hb1 ho1
  go_wp2_with fail
  refine c2.mono ?_
  rintro e w2 ⟨v2, rfl, ho2, hb2⟩
  clear c2
  obtain ⟨A2, k2, rfl⟩ := ho2.slice
  have HB := Lib.hid (HB1.out.trans (Joins.below_le hb2 HB1.out.size))
  have hl2 : (wo l m).length ≤ 1000 := Nat.le_trans (wo_len _ _) hm
  clear hb2 ho2
  have HN : Hid (near l m = decide (((wo m l).length : Int) + ((wo l m).length : Int) ≤ 1)) := Lib.hid (by
    unfold near lack
    rw [Bool.eq_iff_iff]
    simp only [decide_eq_true_eq]
    omega)
  go_wp2_with fail
  go_ret
  exact ⟨by rw [HN.out] <;> rfl, HB.out⟩
set_option maxHeartbeats 1000000 in
theorem onceR_any (l : List Int) (a : Value) (w : World) (ha : inR.N w Any a l) (hl : l.length ≤ 1000) :
    Calls Try.prog 77 #[a] w fun e w' => ∃ v', e = .returned v' ∧ inR.Own w' w.heap.size 3 v' (wo [] l) ∧ Below w.heap.size w w' := by
  obtain ⟨A, c, rfl, hlc, hcm⟩ := ha.slice
  have HA := Lib.hid ha
  have HW0 : Hid (inR.Own w w.heap.size 3 (.slice none 0 0) [] ∧ Below w.heap.size w w) := Lib.hid ⟨Rec.Own.none _ _ _ _, Below.refl _ _⟩
  clear ha hlc hcm
  go_enter Try.func77, Try.ntmps77
  go_wp2_with fail
  go_loopw [3, 4] (fun s3 s4 wr => ∃ (i : Nat) (Av : Option Addr) (cv : Nat), s4 = .int .i64 (i : Int) ∧ s3 = .slice Av (wo [] (l.take i)).length cv ∧ i ≤ l.length ∧ Hid (inR.Own wr w.heap.size 3 (.slice Av (wo [] (l.take i)).length cv) (wo [] (l.take i)) ∧ Below w.heap.size w wr)) (fun _ s4 _ => l.length - (RowKit.intOf s4).toNat)
  case atStart => exact ⟨0, none, 0, rfl, rfl, Nat.zero_le _, HW0⟩
  case round =>
    clear HW0
    obtain ⟨i, Av, cv, rfl, rfl, hi, hs⟩ := hrel
    obtain ⟨wz, hwz⟩ : ∃ wz : World, wz = wr := ⟨_, rfl⟩
    subst hwz
    obtain ⟨r, hr⟩ : ∃ r, r = wo [] (l.take i) := ⟨_, rfl⟩
    rw [← hr] at hs ⊢
    have HR := Lib.hid hr
    clear hr
    by_cases hil : i < l.length
    · have a1 : (i : Int) < (l.length : Int) := by omega
      have a0 : (0 : Int) ≤ (i : Int) := by omega
      obtain ⟨x, hx⟩ : ∃ x, l[i]? = some x := ⟨_, List.getElem?_eq_getElem hil⟩
      obtain ⟨g, o, rfl, y0⟩ := in_cell (HA.out.grow hs.out.2) hx
      have cH := hasR_any r _ x wz hs.out.1.n.any
      have HX := Lib.hid hx
      have hrl : r.length ≤ 1000 := by rw [HR.out]; exact Nat.le_trans (wo_len _ _) (by rw [List.length_take]; omega)
      clear hx
      go_wp2_with fail
      refine cH.mono ?_
      rintro e w' ⟨rfl, rfl⟩
      clear cH
      cases hc : hasI r x
      · have hr2 : wo [] (l.take (i + 1)) = r ++ [x] := by rw [HR.out]; exact wo_no HX.out (by rw [← HR.out]; exact hc)
        obtain ⟨A7, c7, w7, hap, ho7, hB7, -⟩ := push_int hs.out.1 x (by omega) hs.out.2.size
        have HN : Hid (inR.Own w7 w.heap.size 3 (.slice A7 (wo [] (l.take (i + 1))).length c7) (wo [] (l.take (i + 1))) ∧ Below w.heap.size w w7) := Lib.hid ⟨by rw [hr2, show (r ++ [x]).length = r.length + 1 by simp]; exact ho7, hs.out.2.trans hB7⟩
        have HL : Hid ((wo [] (l.take (i + 1))).length = r.length + 1) := Lib.hid (by rw [hr2]; simp)
        have HAP := Lib.hid hap
        clear hs hc hr2 hap ho7 hB7
        go_wp2_with (at_builtin; go_must (refine Lib.wpList_append_run _ rfl (.tmp 18) (.tmp 23) 32 32 rfl _ _ rfl rfl _ _ HAP.out ?_))
        exact ⟨⟨i + 1, A7, c7, by go_num, by rw [HL.out], by omega, HN⟩, by simp [RowKit.intOf]; omega⟩
      · have hr2 : wo [] (l.take (i + 1)) = r := by rw [HR.out]; exact wo_yes HX.out (by rw [← HR.out]; exact hc)
        have HN : Hid (inR.Own wz w.heap.size 3 (.slice Av (wo [] (l.take (i + 1))).length cv) (wo [] (l.take (i + 1))) ∧ Below w.heap.size w wz) := Lib.hid (by rw [hr2]; exact hs.out)
        have HL := Lib.hid hr2
        clear hs hc hr2
        go_wp2_with fail
        exact ⟨⟨i + 1, Av, cv, by go_num, by rw [HL.out], by omega, HN⟩, by simp [RowKit.intOf]; omega⟩
    · have a1 : ¬ (i : Int) < (l.length : Int) := by omega
      have HF : Hid (inR.Own wz w.heap.size 3 (.slice Av r.length cv) (wo [] l) ∧ Below w.heap.size w wz) := Lib.hid (by
        have e : r = wo [] l := by rw [HR.out, List.take_of_length_le (by omega)]
        rw [← e]
        exact hs.out)
      clear hs
      go_wp2_with fail
      go_ret
      exact ⟨_, rfl, HF.out.1, HF.out.2⟩
end Go.Proofs.Ytblbcoknefgcaaa
