/-
  The laws' own helper 'alike', walked. No condition.
-/
import Derived.Test.YthchnnddnjibmaaMix
namespace Go.Proofs.Ythchnnddnjibmaa
open Go.RowKit Go.Maps

theorem read_length {D : DS} (hok : D.ok) (i : Int) : (D.read i).2.length ≤ 512 := by
  unfold DS.read
  split
  · exact Nat.zero_le _
  · split
    · rename_i h
      unfold inside at h
      simp only [Bool.and_eq_true, decide_eq_true_eq] at h
      exact Nat.le_of_eq (look_length hok (by omega))
    · exact Nat.zero_le _

set_option maxHeartbeats 4000000 in
set_option maxRecDepth 100000 in
theorem alike_any (N : Nat → Prop) (B : Nat) (d x : Nat) (D : DS) (w : World) (h : Mix N B w d x D D) (hF : Fine D) :
    Calls Try.prog 24 #[.pointer (some ⟨d, 0, none⟩), .pointer (some ⟨x, 0, none⟩)] w fun e w' => e = .returned (.bool true) ∧ Below w.heap.size w w' := by
  have hq : ∀ q, Mix N B (w.drewN q) d x D D := fun q => h.grow (Joins.below_draws _ _ _)
  have hlen : ∀ q, Calls Try.prog 19 #[.pointer (some ⟨d, 0, none⟩)] (w.drewN q) fun e w' => e = .returned (.int .i64 (D.lasts.length : Int)) ∧ w' = w.drewN q := fun q => (mix_len (hq q)).mono fun e w' h => ⟨h.1, h.2.symm⟩
  have hwait : ∀ q, Calls Try.prog 20 #[.pointer (some ⟨d, 0, none⟩)] (w.drewN q) fun e w' => e = .returned (.int .i64 (D.waits.length : Int)) ∧ w' = w.drewN q := fun q => (mix_waits (hq q)).mono fun e w' h => ⟨h.1, h.2.symm⟩
  have hdone : ∀ q, Calls Try.prog 21 #[.pointer (some ⟨d, 0, none⟩)] (w.drewN q) fun e w' => e = .returned (.int .i64 (D.done : Int)) ∧ w' = w.drewN q := fun q => (mix_done (hq q)).mono fun e w' h => ⟨h.1, h.2.symm⟩
  have hdead : ∀ q, Calls Try.prog 18 #[.pointer (some ⟨d, 0, none⟩)] (w.drewN q) fun e w' => e = .returned (.bool D.dead) ∧ w' = w.drewN q := fun q => (mix_dead (hq q)).mono fun e w' h => ⟨h.1, h.2.symm⟩
  obtain ⟨vl, vw, vk, left, hxr⟩ : ∃ vl vw vk left, XR w (fun _ => True) x D vl vw vk left := by
    obtain ⟨hB, G, S, F, h1, ⟨vl, vw, vk, left, h2⟩, _⟩ := h
    exact ⟨vl, vw, vk, left, h2.mono fun _ _ => trivial⟩
  obtain ⟨_, _, hvl, -⟩ := RowAt.of_own hxr.lasts
  have hvl' : ∃ Al cl, vl = .slice Al D.lasts.length cl := ⟨_, _, hvl⟩
  clear hvl
  obtain ⟨Al, cl, rfl⟩ := hvl'
  obtain ⟨_, _, hvw, -⟩ := RowAt.of_own hxr.waits
  have hvw' : ∃ Aw cw, vw = .slice Aw D.waits.length cw := ⟨_, _, hvw⟩
  clear hvw
  obtain ⟨Aw, cw, rfl⟩ := hvw'
  have hc0 : ∀ q, (w.drewN q).cell? ⟨x, 0, none⟩ = some (.slice Al D.lasts.length cl) := fun q => (row7 (w := w.drewN q) hxr.cells).1 0
  have hc1 : ∀ q, (w.drewN q).cell? ⟨x, 1, none⟩ = some (.slice Aw D.waits.length cw) := fun q => (row7 (w := w.drewN q) hxr.cells).1 1
  have hc2 : ∀ q, (w.drewN q).cell? ⟨x, 2, none⟩ = some (.int .i64 (D.done : Int)) := fun q => (row7 (w := w.drewN q) hxr.cells).1 2
  have hc3 : ∀ q, (w.drewN q).cell? ⟨x, 3, none⟩ = some (.bool D.dead) := fun q => (row7 (w := w.drewN q) hxr.cells).1 3
  have hxlt := hxr.lt
  have HLEN := Lib.hid hlen
  have HWAIT := Lib.hid hwait
  have HDONE := Lib.hid hdone
  have HDEAD := Lib.hid hdead
  have HC0 := Lib.hid hc0
  have H := Lib.hid h
  clear hlen hwait hdone hdead hq h hxr
  go_enter Try.func24, Try.ntmps24
  go_upto_region 1 with fail
  go_cut [46] (fun s wx => s = .bool false ∧ ∃ q, wx = w.drewN q)
  case first =>
    go_quiet ((first | (go_at_call 19; exact Calls.quiet_of_same (HLEN.out _)) | (go_at_call 20; exact Calls.quiet_of_same (HWAIT.out _)) | (go_at_call 21; exact Calls.quiet_of_same (HDONE.out _)) | (go_at_call 18; exact Calls.quiet_of_same (HDEAD.out _))))
    all_goals
      go_wp2_with fail
      go_meet
      exact ⟨by simp, _, rfl⟩
  case rest =>
    obtain ⟨rfl, q, rfl⟩ := hcut
    have hbq : Below w.heap.size w (w.drewN q) := Joins.below_draws _ _ _
    obtain ⟨wz, hwz⟩ : ∃ wz, wz = w.drewN q := ⟨_, rfl⟩
    rw [← hwz] at hbq ⊢
    clear hwz hc1 hc2 hc3 HLEN HWAIT HDONE HDEAD
    go_wp2_with fail
    go_loopw [5, 6, 7, 8, 9, 10] (fun i _ _ _ _ _ wr => ∃ t : Nat, i = .int .i64 ((t : Int) - 1) ∧ t ≤ 13 ∧ Below w.heap.size w wr) (fun i _ _ _ _ _ _ => 13 - ((intOf i) + 1).toNat)
    case atStart => exact ⟨0, rfl, by omega, hbq⟩
    case round =>
      obtain ⟨t, rfl, ht, hbr⟩ := hrel
      have hsr := hbr.size
      have c0 : wr.cell? ⟨x, 0, none⟩ = some (.slice Al D.lasts.length cl) := (hbr.cell (p := ⟨x, 0, none⟩) hxlt).trans (HC0.out 0)
      clear hbq
      by_cases hin : (t : Int) - 1 ≤ (D.lasts.length : Int) ∧ (t : Int) - 1 < 12
      · obtain ⟨i1, i2⟩ := hin
        have hMr := H.out.grow hbr
        have c1 := mix_read hMr ((t : Int) - 1) hF
        obtain ⟨R, hR⟩ : ∃ R, R = D.read ((t : Int) - 1) := ⟨_, rfl⟩
        rw [← hR] at c1
        have HR := Lib.hid hR
        have hrt : R.2.length ≤ 512 := by rw [hR]; exact read_length hF.ok _
        obtain ⟨rc, rt⟩ := R
        have hrt' : rt.length ≤ 512 := hrt
        clear hrt
        clear hMr hR
        go_wp2_with fail
        refine c1.mono ?_
        rintro e w5 ⟨A5, c5, rfl, ho5, hb5, hM5⟩
        have hs5 := hb5.size
        have c2 := mixX_read hM5 ((t : Int) - 1) hF
        rw [← HR.out] at c2
        have hrd := Rd.own ho5
        have hconv := run_str (P := Try.prog) 27 5 9 Try.underlying27 Try.underlying5 Try.underlying9 hrd
        have hbel5 : Below w.heap.size w w5 := hbr.trans (Joins.below_le hb5 hsr)
        have ho5' : Hid (w5.ownsRow w.heap.size 66 1 (.slice A5 rt.length c5) rt.length (BS rt)) := own_eq ho5 rfl rfl hsr
        clear c1 ho5 hM5 hrd
        go_wp2_with fail
        refine c2.mono ?_
        rintro e w6 ⟨rfl, rfl⟩
        clear c2
        go_wp2_with fail
        go_loopw [10] (fun k wy => ∃ (r : Nat) (xs : List Value), k = .int .i64 r ∧ r ≤ rt.length ∧ Hid (wy.ownsRow w.heap.size 66 1 (.slice A5 rt.length c5) rt.length xs) ∧ Below w.heap.size w wy) (fun k _ => rt.length - (intOf k).toNat)
        case atStart => exact ⟨0, _, rfl, by omega, ho5', hbel5⟩
        case round =>
          obtain ⟨r, xs, rfl, hr, hown, hby⟩ := hrel
          clear ho5' hbel5
          by_cases hrl : r < rt.length
          · have r1 : (r : Int) < (rt.length : Int) := by omega
            have r0 : (0 : Int) ≤ (r : Int) := by omega
            obtain ⟨g, cap, hform, hg1, hg2⟩ := hown.out.form (by omega)
            injection hform with e1 _ e3
            subst e1
            subst e3
            have hlx : xs.length = rt.length := by simpa using hown.out.1
            obtain ⟨u, hu⟩ : ∃ u, wr.cell? ⟨g, r, none⟩ = some u := by
              rw [hown.out.cellAt r (by omega)]
              exact ⟨_, List.getElem?_eq_getElem (by omega)⟩
            have hz : wr.frozen? ⟨g, r, none⟩ = false := hown.out.frozenAt r
            have hst := (hown.out.stored r (.int .u8 77)).1
            have hbs := hby.setCell (p := ⟨g, r, none⟩) hg1 (.int .u8 77)
            have HST := Lib.hid hst
            clear hst hown hlx
            go_wp2_with fail
            exact ⟨⟨r + 1, _, by go_num, hrl, HST, hbs⟩, by simp [intOf]; omega⟩
          · have r1 : ¬ (r : Int) < (rt.length : Int) := by omega
            clear hown
            go_wp2_with fail
            refine ⟨⟨t + 1, ?_, by omega, hby⟩, ?_⟩
            · exact congrArg (Value.int .i64) (by omega)
            · simp [intOf]; omega
      · have key : (¬ (t : Int) - 1 ≤ (D.lasts.length : Int)) ∨ ((t : Int) - 1 ≤ (D.lasts.length : Int) ∧ ¬ (t : Int) - 1 < 12) := by omega
        clear hin
        rcases key with i1 | ⟨i1, i2⟩
        all_goals
          go_wp2_with fail
          go_ret
          exact ⟨rfl, hbr⟩
end Go.Proofs.Ythchnnddnjibmaa
