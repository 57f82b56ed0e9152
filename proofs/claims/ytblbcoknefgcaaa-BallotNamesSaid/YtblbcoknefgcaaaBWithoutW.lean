/-
  A list's numbers that others have not, each once: the program's, whole. No statement is proved here. No condition.
-/
import Derived.Test.YtblbcoknefgcaaaBWithout
namespace Go.Proofs.Ytblbcoknefgcaaa
open Go.RowKit

set_option maxHeartbeats 4000000 in
set_option maxRecDepth 100000 in
theorem without_any (l others : List Int) (a b' : Value) (w : World) (ha : inR.N w Any a l) (hb : inR.N w Any b' others) (hl : l.length ≤ 1000) (ho : others.length ≤ 1000) (wl : ∀ x ∈ l, I6 x) (wr' : ∀ x ∈ others, I6 x) :
    Calls Try.prog 72 #[a, b'] w fun e w' => ∃ v', e = .returned v' ∧ inR.Own w' w.heap.size 3 v' (wo others l) ∧ Below w.heap.size w w' := by
  obtain ⟨A1, c1, rfl, hlc, hcm⟩ := ha.slice
  obtain ⟨A2, c2, rfl, hlc2, hcm2⟩ := hb.slice
  have HA := Lib.hid ha
  have HB := Lib.hid hb
  have HWL := Lib.hid wl
  have HWO := Lib.hid wr'
  obtain ⟨w0, hw0⟩ : ∃ w0, w0 = (w.alloc (.map #[] 0)).alloc (.cells #[.map (some w.heap.size)] 162) := ⟨_, rfl⟩
  have hb0 : Below w.heap.size w w0 := by rw [hw0]; exact ((Below.refl _ _).alloc (Nat.le_refl _) _).alloc (by simp) _
  have hbox : w0.heap[w.heap.size + 1]? = some (.cells #[.map (some w.heap.size)] 162 (0, 0)) := by
    rw [hw0]
    have := heap_alloc_new (w.alloc (.map #[] 0)) (.cells #[.map (some w.heap.size)] 162)
    rwa [show (w.alloc (.map #[] 0)).heap.size = w.heap.size + 1 by simp] at this
  have hmap : MapI unitK w0 w.heap.size 0 [] := (MapI.made w).same (by rw [hw0]; exact Below.heap_alloc _ _ _ (by simp))
  obtain ⟨b, hbn⟩ : ∃ b, b = w.heap.size := ⟨_, rfl⟩
  obtain ⟨p, hpn⟩ : ∃ p, p = w.heap.size + 1 := ⟨_, rfl⟩
  have HW0 : Hid ((∀ x, (ifind ([] : List (Int × Unit)) x).isSome = hasI (others.take 0) x) ∧ WO w w0 p b 0 [] (.slice none 0 0) []) := Lib.hid ⟨fun x => by simp [ifind, hasI], hb0, by rw [hbn, hpn]; exact hbox, by rw [hbn]; exact hmap, Rec.Own.none _ _ _ _, by omega, by omega⟩
  have HP := Lib.hid hpn
  have HN0 := Lib.hid hw0
  have hmm := run_makeMap (P := Try.prog) 162 w
  clear ha hb hlc hcm hlc2 hcm2 wl wr' hb0 hbox hmap hbn hpn hw0
  go_enter Try.func72, Try.ntmps72
  go_wp2_with fail
  clear hmm
  rw [← HN0.out, ← HP.out]
  go_loopw [8, 16] (fun s8 s16 wr => ∃ (i : Nat) (A : List (Int × Unit)), s16 = .int .i64 (i : Int) ∧ i ≤ others.length ∧ Hid ((∀ x, (ifind A x).isSome = hasI (others.take i) x) ∧ WO w wr p b i A (.slice none 0 0) [])) (fun _ s16 _ => others.length - (RowKit.intOf s16).toNat)
  case atStart => exact ⟨0, [], rfl, Nat.zero_le _, HW0⟩
  case round =>
    clear HW0
    obtain ⟨i, A, rfl, hi, hs⟩ := hrel
    obtain ⟨wz, hwz⟩ : ∃ wz : World, wz = wr := ⟨_, rfl⟩
    subst hwz
    by_cases hil : i < others.length
    · have a1 : (i : Int) < (others.length : Int) := by omega
      have a0 : (0 : Int) ≤ (i : Int) := by omega
      obtain ⟨x, hx⟩ : ∃ x, others[i]? = some x := ⟨_, List.getElem?_eq_getElem hil⟩
      obtain ⟨g, o, rfl, y0⟩ := in_cell (HB.out.grow hs.out.2.bel) hx
      have cC := counts_any hs.out.2 x (HWO.out x (List.mem_of_getElem? hx)) (by omega)
      have HX := Lib.hid hx
      clear hx
      go_wp2_with fail
      refine cC.mono ?_
      rintro e w' ⟨rfl, hW⟩
      have HN : Hid ((∀ y, (ifind (iput A x ()) y).isSome = hasI (others.take (i + 1)) y) ∧ WO w w' p b (i + 1) (iput A x ()) (.slice none 0 0) []) := Lib.hid ⟨fun y => by rw [take_snoc HX.out]; exact has_put hs.out.1 y, hW⟩
      clear cC hW hs
      go_wp2_with fail
      exact ⟨⟨i + 1, _, by go_num, by omega, HN⟩, by simp [RowKit.intOf]; omega⟩
    · have a1 : ¬ (i : Int) < (others.length : Int) := by omega
      have hie : i = others.length := Nat.le_antisymm hi (Nat.le_of_not_lt hil)
      have HW1 : Hid ((∀ x, (ifind A x).isSome = hasI (others ++ wo others (l.take 0)) x) ∧ WO w wz p b (others.length + 0) A (.slice none 0 0) (wo others (l.take 0))) := Lib.hid ⟨fun x => by rw [hs.out.1 x, hie, List.take_length]; simp [wo, hasI], by have := hs.out.2; rw [hie] at this; exact this⟩
      clear hs hie hil hi
      go_wp2_with fail
      go_loopw [9, 11, 26] (fun s9 s11 s26 wr => ∃ (k : Nat) (A : List (Int × Unit)) (Av : Option Addr) (cv : Nat), s26 = .int .i64 (k : Int) ∧ s9 = .slice Av (wo others (l.take k)).length cv ∧ k ≤ l.length ∧ Hid ((∀ x, (ifind A x).isSome = hasI (others ++ wo others (l.take k)) x) ∧ WO w wr p b (others.length + k) A (.slice Av (wo others (l.take k)).length cv) (wo others (l.take k)))) (fun _ _ s26 _ => l.length - (RowKit.intOf s26).toNat)
      case atStart => exact ⟨0, A, none, 0, rfl, rfl, Nat.zero_le _, HW1⟩
      case round =>
        clear HW1
        obtain ⟨k, A, Av, cv, rfl, rfl, hk, hs⟩ := hrel
        obtain ⟨wz, hwz⟩ : ∃ wz : World, wz = wr := ⟨_, rfl⟩
        subst hwz
        obtain ⟨r, hr⟩ : ∃ r, r = wo others (l.take k) := ⟨_, rfl⟩
        rw [← hr] at hs ⊢
        have HR := Lib.hid hr
        clear hr
        by_cases hkl : k < l.length
        · have a1 : (k : Int) < (l.length : Int) := by omega
          have a0 : (0 : Int) ≤ (k : Int) := by omega
          obtain ⟨x, hx⟩ : ∃ x, l[k]? = some x := ⟨_, List.getElem?_eq_getElem hkl⟩
          obtain ⟨g, o, rfl, y0⟩ := in_cell (HA.out.grow hs.out.2.bel) hx
          have cC := counts_any hs.out.2 x (HWL.out x (List.mem_of_getElem? hx)) (by omega)
          have hin := hs.out.1 x
          have HX := Lib.hid hx
          have HS1 := Lib.hid hs.out.1
          have hrl : r.length ≤ 1000 := by rw [HR.out]; exact Nat.le_trans (wo_len _ _) (by rw [List.length_take]; omega)
          clear hx hs
          rw [hin, hasI_app] at cC
          clear hin
          go_wp2_with fail
          refine cC.mono ?_
          rintro e w' ⟨rfl, hW⟩
          clear cC
          cases hc : (hasI others x || hasI r x)
          · -- it is left
            have hr2 : wo others (l.take (k + 1)) = r ++ [x] := by rw [HR.out]; exact wo_no HX.out (by rw [← HR.out]; exact hc)
            obtain ⟨A7, c7, w7, hap, hW7⟩ := hW.push x (by omega)
            have HN : Hid ((∀ y, (ifind (iput A x ()) y).isSome = hasI (others ++ wo others (l.take (k + 1))) y) ∧ WO w w7 p b (others.length + (k + 1)) (iput A x ()) (.slice A7 (wo others (l.take (k + 1))).length c7) (wo others (l.take (k + 1)))) := Lib.hid ⟨fun y => by
              rw [hr2, has_put HS1.out y, List.append_assoc], by rw [hr2, show (r ++ [x]).length = r.length + 1 by simp]; exact hW7⟩
            have HL : Hid ((wo others (l.take (k + 1))).length = r.length + 1) := Lib.hid (by rw [hr2]; simp)
            have HAP := Lib.hid hap
            clear hW hW7 hc hr2 hap
            go_wp2_with (at_builtin; go_must (refine Lib.wpList_append_run _ rfl (.tmp 33) (.tmp 35) 32 32 rfl _ _ rfl rfl _ _ HAP.out ?_))
            exact ⟨⟨k + 1, _, A7, c7, by go_num, by rw [HL.out], by omega, HN⟩, by simp [RowKit.intOf]; omega⟩
          · -- it is not
            have hr2 : wo others (l.take (k + 1)) = r := by rw [HR.out]; exact wo_yes HX.out (by rw [← HR.out]; exact hc)
            have HN : Hid ((∀ y, (ifind (iput A x ()) y).isSome = hasI (others ++ wo others (l.take (k + 1))) y) ∧ WO w w' p b (others.length + (k + 1)) (iput A x ()) (.slice Av (wo others (l.take (k + 1))).length cv) (wo others (l.take (k + 1)))) := Lib.hid ⟨fun y => by
              rw [hr2, has_put HS1.out y, hasI_app, hasI_app]
              by_cases hxy : y = x
              · subst hxy; rw [hc]; rfl
              · simp [hasI, hxy], by rw [hr2]; exact hW⟩
            have HL := Lib.hid hr2
            clear hW hc hr2
            go_wp2_with fail
            exact ⟨⟨k + 1, _, Av, cv, by go_num, by rw [HL.out], by omega, HN⟩, by simp [RowKit.intOf]; omega⟩
        · have a1 : ¬ (k : Int) < (l.length : Int) := by omega
          have HF : Hid (inR.Own wz w.heap.size 3 (.slice Av r.length cv) (wo others l) ∧ Below w.heap.size w wz) := Lib.hid (by
            have e : r = wo others l := by rw [HR.out, List.take_of_length_le (by omega)]
            rw [← e]
            exact ⟨hs.out.2.row, hs.out.2.bel⟩)
          clear hs
          go_wp2_with fail
          go_ret
          exact ⟨_, rfl, HF.out.1, HF.out.2⟩
end Go.Proofs.Ytblbcoknefgcaaa
