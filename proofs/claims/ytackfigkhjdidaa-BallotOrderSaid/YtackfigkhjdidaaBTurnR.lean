/-
  The voters with one more, or one less: the document's. No statement is proved here. No condition.
-/
import Derived.Test.YtackfigkhjdidaaBTurn
namespace Go.Proofs.Ytackfigkhjdidaa
open Go.RowKit

/-- Turn's numbers up to k -/
def upK (l : List Int) (s : Int) (k : Nat) : List Int := (([1, 2, 3, 4, 5] : List Int).take (k - 1)).filter fun v => hasI l v != (v == s)
theorem upK_all (l : List Int) (s : Int) : upK l s 6 = turnL l s := rfl
theorem upK_step (l : List Int) (s : Int) {k : Nat} (h1 : 1 ≤ k) (h5 : k ≤ 5) : upK l s (k + 1) = if (hasI l (k : Int) != ((k : Int) == s)) = true then upK l s k ++ [(k : Int)] else upK l s k := by
  have hx : ([1, 2, 3, 4, 5] : List Int)[k - 1]? = some (k : Int) := by
    have : k = 1 ∨ k = 2 ∨ k = 3 ∨ k = 4 ∨ k = 5 := by omega
    rcases this with rfl | rfl | rfl | rfl | rfl <;> rfl
  unfold upK
  rw [show k + 1 - 1 = (k - 1) + 1 by omega, take_snoc hx, List.filter_append]
  cases h : (hasI l (k : Int) != ((k : Int) == s))
  · simp [h]
  · simp [h]
theorem upK_len (l : List Int) (s : Int) (k : Nat) : (upK l s k).length ≤ 5 := Nat.le_trans (List.length_filter_le _ _) (by rw [List.length_take]; exact Nat.min_le_right _ _)
set_option maxHeartbeats 4000000 in
set_option maxRecDepth 100000 in
theorem turnR_any (l : List Int) (s : Int) (a : Value) (w : World) (ha : inR.N w Any a l) :
    Calls Try.prog 41 #[a, .int .i64 s] w fun e w' => TurnT w w' l s e := by
  obtain ⟨A, c, rfl, hlc, hcm⟩ := ha.slice
  have cK := checkR_any l _ w ha
  have HA := Lib.hid ha
  clear ha
  have hno : ∀ n k, (chk l && isS s) = false → k = 1 → TurnT w (w.drewN n) l s (.returned (.tuple #[.slice none 0 0, .int .i64 k])) := fun n k h hk1 => by
    have h1 : turnO l s = [] := by unfold turnO; rw [h]; rfl
    have h2 : turnE l s = 1 := by unfold turnE; rw [h]; rfl
    exact ⟨⟨Option.none, 0, by rw [h1, h2, hk1]; rfl, by rw [h1]; exact Rec.Own.none _ _ _ _⟩, drewB _ (Below.refl _ _)⟩
  have HNO := Lib.hid hno
  clear hno
  cases hk : chk l
  · rw [hk] at cK
    have HF : Hid ((chk l && isS s) = false) := Lib.hid (by rw [hk]; rfl)
    clear hk hlc hcm
    go_enter Try.func41, Try.ntmps41
    go_wp2_with fail
    refine cK.mono ?_
    rintro e w' ⟨rfl, n, rfl⟩
    clear cK
    go_wp2_with fail
    go_ret2
    exact HNO.out n 1 HF.out rfl
  rw [hk] at cK
  by_cases h1 : s < 1
  · have HF : Hid ((chk l && isS s) = false) := Lib.hid (by rw [show isS s = false by simp [isS]; omega, Bool.and_false])
    clear hk hlc hcm
    go_enter Try.func41, Try.ntmps41
    go_wp2_with fail
    refine cK.mono ?_
    rintro e w' ⟨rfl, n, rfl⟩
    clear cK
    go_wp2_with fail
    go_ret2
    exact HNO.out n 1 HF.out rfl
  by_cases h5 : s > 5
  · have HF : Hid ((chk l && isS s) = false) := Lib.hid (by rw [show isS s = false by simp [isS]; omega, Bool.and_false])
    clear hk hlc hcm
    go_enter Try.func41, Try.ntmps41
    go_wp2_with fail
    refine cK.mono ?_
    rintro e w' ⟨rfl, n, rfl⟩
    clear cK
    go_wp2_with fail
    go_ret2
    exact HNO.out n 1 HF.out rfl
  have hS : isS s = true := by simp [isS]; omega
  have HO : Hid (turnO l s = turnL l s ∧ turnE l s = if turnL l s = [] then 50 else 0) := Lib.hid ⟨by unfold turnO; rw [hk, hS]; rfl, by unfold turnE; rw [hk, hS]; rfl⟩
  clear hk hS hlc hcm HNO
  go_enter Try.func41, Try.ntmps41
  go_wp2_with fail
  refine cK.mono ?_
  rintro e w1 ⟨rfl, n, hw1⟩
  clear cK
  have HB1 : Hid (Below w.heap.size w w1) := Lib.hid (by rw [hw1]; exact drewB _ (Below.refl _ _))
  have HW0 : Hid (inR.Own w1 w.heap.size 3 (.slice none 0 0) [] ∧ Below w.heap.size w w1) := Lib.hid ⟨Rec.Own.none _ _ _ _, HB1.out⟩
  clear hw1
  go_wp2_with fail
  go_loopw [6, 7] (fun s6 s7 wr => ∃ (k : Nat) (Av : Option Addr) (cv : Nat), s7 = .int .i64 (k : Int) ∧ s6 = .slice Av (upK l s k).length cv ∧ 1 ≤ k ∧ k ≤ 6 ∧ Hid (inR.Own wr w.heap.size 3 (.slice Av (upK l s k).length cv) (upK l s k) ∧ Below w.heap.size w wr)) (fun _ s7 _ => 6 - (RowKit.intOf s7).toNat)
  case atStart => exact ⟨1, none, 0, rfl, rfl, Nat.le_refl _, by omega, HW0⟩
  case round =>
    clear HW0 HB1
    obtain ⟨k, Av, cv, rfl, rfl, hk1, hk6, hs⟩ := hrel
    obtain ⟨wz, hwz⟩ : ∃ wz : World, wz = wr := ⟨_, rfl⟩
    subst hwz
    obtain ⟨r, hr⟩ : ∃ r, r = upK l s k := ⟨_, rfl⟩
    have hrl : r.length ≤ 5 := by rw [hr]; exact upK_len _ _ _
    rw [← hr] at hs ⊢
    have HR := Lib.hid hr
    clear hr
    by_cases hk5 : k ≤ 5
    · have a1 : (k : Int) ≤ 5 := by omega
      have cH := hasR_any l _ (k : Int) wz (HA.out.grow hs.out.2)
      have hst := upK_step l s hk1 hk5
      rw [← HR.out] at hst
      have HST := Lib.hid hst
      clear hst
      go_wp2_with fail
      refine cH.mono ?_
      rintro e w' ⟨rfl, rfl⟩
      clear cH
      cases hq : ((k : Int) == s)
      · have hq2 : ¬ (k : Int) = s := by simpa using hq
        cases hh : hasI l (k : Int)
        · skip
          have hr2 : upK l s (k + 1) = r := by rw [HST.out, hh, hq]; rfl
          have HN : Hid (inR.Own wz w.heap.size 3 (.slice Av (upK l s (k + 1)).length cv) (upK l s (k + 1)) ∧ Below w.heap.size w wz) := Lib.hid (by rw [hr2]; exact hs.out)
          have HL := Lib.hid hr2
          clear hs hr2 hh
          go_wp2_with fail
          exact ⟨⟨k + 1, Av, cv, by go_num, by rw [HL.out], by omega, by omega, HN⟩, by simp [RowKit.intOf]; omega⟩
        · skip
          have hr2 : upK l s (k + 1) = r ++ [(k : Int)] := by rw [HST.out, hh, hq]; rfl
          obtain ⟨A7, c7, w7, hap, ho7, hB7, -⟩ := push_int hs.out.1 (k : Int) (by omega) hs.out.2.size
          have HN : Hid (inR.Own w7 w.heap.size 3 (.slice A7 (upK l s (k + 1)).length c7) (upK l s (k + 1)) ∧ Below w.heap.size w w7) := Lib.hid ⟨by rw [hr2, show (r ++ [(k : Int)]).length = r.length + 1 by simp]; exact ho7, hs.out.2.trans hB7⟩
          have HL : Hid ((upK l s (k + 1)).length = r.length + 1) := Lib.hid (by rw [hr2]; simp)
          have HAP := Lib.hid hap
          clear hs hr2 hap ho7 hB7 hh
          go_wp2_with (at_builtin; go_must (refine Lib.wpList_append_run _ rfl (.tmp 30) (.tmp 32) 32 32 rfl _ _ rfl rfl _ _ HAP.out ?_))
          exact ⟨⟨k + 1, A7, c7, by go_num, by rw [HL.out], by omega, by omega, HN⟩, by simp [RowKit.intOf]; omega⟩
      · skip
        cases hh : hasI l (k : Int)
        · skip
          have hr2 : upK l s (k + 1) = r ++ [(k : Int)] := by rw [HST.out, hh, hq]; rfl
          obtain ⟨A7, c7, w7, hap, ho7, hB7, -⟩ := push_int hs.out.1 (k : Int) (by omega) hs.out.2.size
          have HN : Hid (inR.Own w7 w.heap.size 3 (.slice A7 (upK l s (k + 1)).length c7) (upK l s (k + 1)) ∧ Below w.heap.size w w7) := Lib.hid ⟨by rw [hr2, show (r ++ [(k : Int)]).length = r.length + 1 by simp]; exact ho7, hs.out.2.trans hB7⟩
          have HL : Hid ((upK l s (k + 1)).length = r.length + 1) := Lib.hid (by rw [hr2]; simp)
          have HAP := Lib.hid hap
          clear hs hr2 hap ho7 hB7 hh
          go_wp2_with (at_builtin; go_must (refine Lib.wpList_append_run _ rfl (.tmp 30) (.tmp 32) 32 32 rfl _ _ rfl rfl _ _ HAP.out ?_))
          exact ⟨⟨k + 1, A7, c7, by go_num, by rw [HL.out], by omega, by omega, HN⟩, by simp [RowKit.intOf]; omega⟩
        · skip
          have hr2 : upK l s (k + 1) = r := by rw [HST.out, hh, hq]; rfl
          have HN : Hid (inR.Own wz w.heap.size 3 (.slice Av (upK l s (k + 1)).length cv) (upK l s (k + 1)) ∧ Below w.heap.size w wz) := Lib.hid (by rw [hr2]; exact hs.out)
          have HL := Lib.hid hr2
          clear hs hr2 hh
          go_wp2_with fail
          exact ⟨⟨k + 1, Av, cv, by go_num, by rw [HL.out], by omega, by omega, HN⟩, by simp [RowKit.intOf]; omega⟩
    · have a1 : ¬ (k : Int) ≤ 5 := by omega
      have hke : k = 6 := by omega
      have hre : r = turnL l s := by rw [HR.out, hke]; rfl
      by_cases h0 : r.length = 0
      · have h0' : (r.length : Int) = 0 := by omega
        have HF : Hid (TurnT w wz l s (.returned (.tuple #[.slice none 0 0, .int .i64 50]))) := Lib.hid (by
          have e0 : turnL l s = [] := by rw [← hre]; exact List.eq_nil_of_length_eq_zero h0
          have e1 : turnO l s = [] := by rw [HO.out.1, e0]
          have e2 : turnE l s = 50 := by rw [HO.out.2, if_pos e0]
          exact ⟨⟨Option.none, 0, by rw [e1, e2]; rfl, by rw [e1]; exact Rec.Own.none _ _ _ _⟩, hs.out.2⟩)
        have h3 : r = [] := List.eq_nil_of_length_eq_zero h0
        clear hs hre h0 hke
        subst h3
        go_wp2_with fail
        go_ret2
        exact HF.out
      · have h0' : ¬ (r.length : Int) = 0 := by omega
        have h3 : ¬ r = [] := fun e => h0 (by rw [e]; rfl)
        have HF : Hid (TurnT w wz l s (.returned (.tuple #[.slice Av r.length cv, .int .i64 0]))) := Lib.hid (by
          have e1 : turnO l s = r := by rw [HO.out.1, hre]
          have e2 : turnE l s = 0 := by rw [HO.out.2, if_neg (by rw [← hre]; exact h3)]
          exact ⟨⟨Av, cv, by rw [e1, e2], by rw [e1]; exact hs.out.1⟩, hs.out.2⟩)
        clear hs hre h0 hke
        go_wp2_with fail
        go_ret2
        exact HF.out
end Go.Proofs.Ytackfigkhjdidaa
