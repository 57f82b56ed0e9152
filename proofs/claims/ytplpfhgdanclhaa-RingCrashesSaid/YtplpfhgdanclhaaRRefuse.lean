/-
  The program's ring: what it refuses; Sync, Empty. No statement is proved here. No condition.
-/
import Derived.Test.YtplpfhgdanclhaaRRing
namespace Go.Proofs.Ytplpfhgdanclhaa
open Go.RowKit

def refuseOf (dead : Bool) (R : RG) (n : Nat) : Int := if dead then 20 else if R.count < n then 40 else if R.last < R.top then 50 else if R.room' < n then 3 else if 4611686018427387904 < R.last + n then 70 else 0

theorem prefuse_nil (n : Int) (w : World) : Calls Try.prog 39 #[.pointer none, .int .i64 n] w fun e w' => e = .returned (.int .i64 2) ∧ w = w' := by
  go_enter Try.func39, Try.ntmps39
  go_wp2_with fail
  go_ret
  exact ⟨rfl, rfl⟩

set_option maxHeartbeats 1000000 in
theorem prefuse_any {w : World} {G S : Nat → Prop} {r q : Nat} {R : RG} {D : DS} (h : RgAt w r q R) (hR : R.fine) (hD : PD w G S q D) (n : Nat) :
    Calls Try.prog 39 #[.pointer (some ⟨r, 0, none⟩), .int .i64 (n : Int)] w fun e w' => e = .returned (.int .i64 (refuseOf D.dead R n)) ∧ ∃ k, w' = w.drewN k := by
  have hd := pDead_any G S q D w hD
  have ht := ptorn_any h
  have c0 := h.c0
  have c2 := h.c2
  have i1 := hR.room
  have i2 := hR.most
  have i3 := hR.up
  have H := Lib.hid h
  have HR := Lib.hid hR
  obtain ⟨X, hX⟩ : ∃ X, X = refuseOf D.dead R n := ⟨_, rfl⟩
  have hrr : X = if D.dead then 20 else if R.count < n then 40 else if R.last < R.top then 50 else if R.room' < n then 3 else if 4611686018427387904 < R.last + n then 70 else 0 := hX
  rw [← hX]
  have HRR := Lib.hid hrr
  clear h hR hD hX hrr
  go_enter Try.func39, Try.ntmps39
  go_wp2_with fail
  refine hd.mono ?_
  rintro e w1 ⟨rfl, rfl⟩
  cases hdd : D.dead with
  | true =>
    rw [hdd] at HRR
    go_wp2_with fail
    go_ret
    exact ⟨ret_int HRR.out.symm, 0, rfl⟩
  | false =>
    rw [hdd] at HRR
    have h1 : X = if R.count < n then 40 else if R.last < R.top then 50 else if R.room' < n then 3 else if 4611686018427387904 < R.last + n then 70 else 0 := HRR.out
    clear HRR hd hdd
    by_cases a1 : R.count < n
    · rw [if_pos a1] at h1
      have b1 : (R.count : Int) < (n : Int) := by omega
      subst h1
      go_wp2_with fail
      go_ret
      exact ⟨rfl, 0, rfl⟩
    · rw [if_neg a1] at h1
      have b1 : ¬ (R.count : Int) < (n : Int) := by omega
      go_wp2_with fail
      refine ht.mono ?_
      rintro e w1 ⟨rfl, k, rfl⟩
      obtain ⟨wd, hwd⟩ : ∃ wd, wd = w.drewN k := ⟨_, rfl⟩
      have hx : RgAt wd r q R := by rw [hwd]; exact H.out.drew k
      rw [← hwd]
      have HWD := Lib.hid hwd
      clear hwd ht c0 c2
      by_cases a2 : R.last < R.top
      · rw [if_pos a2] at h1
        rw [decide_eq_true a2]
        subst h1
        go_wp2_with fail
        go_ret
        exact ⟨rfl, k, HWD.out⟩
      · rw [if_neg a2] at h1
        rw [decide_eq_false a2]
        have hr := proom_any hx HR.out
        have c4 := hx.c4
        go_wp2_with fail
        refine hr.mono ?_
        rintro e w1 ⟨rfl, k2, rfl⟩
        have hx2 := hx.drew k2
        obtain ⟨we, hwe⟩ : ∃ we, we = wd.drewN k2 := ⟨_, rfl⟩
        rw [← hwe] at hx2 ⊢
        have HWE : Hid (we = w.drewN (k + k2)) := by rw [hwe, HWD.out]; exact Lib.hid (by simp [World.drewN, Nat.add_assoc])
        clear hwe hr c4
        have c4 := hx2.c4
        have hroom : R.room' ≤ R.count := by unfold RG.room'; split <;> omega
        by_cases a3 : R.room' < n
        · rw [if_pos a3] at h1
          have b3 : (R.room' : Int) < (n : Int) := by omega
          subst h1
          go_wp2_with fail
          go_ret
          exact ⟨rfl, _, HWE.out⟩
        · rw [if_neg a3] at h1
          have b3 : ¬ (R.room' : Int) < (n : Int) := by omega
          by_cases a4 : 4611686018427387904 < R.last + n
          · rw [if_pos a4] at h1
            have b4 : (4611686018427387904 : Int) < (R.last : Int) + (n : Int) := by omega
            subst h1
            go_wp2_with fail
            go_ret
            exact ⟨rfl, _, HWE.out⟩
          · rw [if_neg a4] at h1
            have b4 : ¬ (4611686018427387904 : Int) < (R.last : Int) + (n : Int) := by omega
            subst h1
            go_wp2_with fail
            go_ret
            exact ⟨rfl, _, HWE.out⟩

theorem psync_nil (w : World) : Calls Try.prog 15 #[.pointer none] w fun e w' => e = .returned (.int .i64 2) ∧ w = w' := by
  go_enter Try.func15, Try.ntmps15
  go_wp2_with fail
  go_ret
  exact ⟨rfl, rfl⟩
theorem psync_any {w : World} {G S : Nat → Prop} {r q : Nat} {R : RG} {D : DS} (h : RgAt w r q R) (hD : PD w G S q D) (hF : Fine D) :
    Calls Try.prog 15 #[.pointer (some ⟨r, 0, none⟩)] w fun e w' => e = .returned (.int .i64 D.flush.1) ∧ Kept w w' (Mut G w) ∧ PD w' (More G w w') (More S w w') q D.flush.2 := by
  have c0 := h.c0
  have hf := pFlush_any G S q D w hD hF
  obtain ⟨X, hX⟩ : ∃ X, X = D.flush := ⟨_, rfl⟩
  rw [← hX] at hf ⊢
  clear h hD hX
  go_enter Try.func15, Try.ntmps15
  go_wp2_with fail
  refine hf.mono ?_
  rintro e w1 ⟨rfl, h1, h2⟩
  go_wp2_with fail
  go_ret
  exact ⟨rfl, h1, h2⟩
theorem pempty_nil (w : World) : Calls Try.prog 17 #[.pointer none] w fun e w' => e = .returned (.int .i64 0) ∧ w = w' := by
  go_enter Try.func17, Try.ntmps17
  go_wp2_with fail
  go_ret
  exact ⟨rfl, rfl⟩
theorem pempty_any {w : World} {r q : Nat} {R : RG} (h : RgAt w r q R) :
    Calls Try.prog 17 #[.pointer (some ⟨r, 0, none⟩)] w fun e w' => e = .returned (.int .i64 (R.top : Int)) ∧ Kept w w' (fun b => b = r) ∧ RgAt w' r q { R with base := R.top, last := R.top } := by
  have c3 := h.c3
  have c4 := h.c4
  have c5 := h.c5
  have z3 := h.fz 3
  have z4 := h.fz 4
  have H := Lib.hid h
  have h2 : RgAt ((w.drew.setCell ⟨r, 3, none⟩ (.int .i64 (R.top : Int))).setCell ⟨r, 4, none⟩ (.int .i64 (R.top : Int))) r q { R with base := R.top, last := R.top } := ((show RgAt w.drew r q R from h).base R.top).last R.top
  have h3 : Kept w ((w.drew.setCell ⟨r, 3, none⟩ (.int .i64 (R.top : Int))).setCell ⟨r, 4, none⟩ (.int .i64 (R.top : Int))) (fun b => b = r) := ((Kept.drew w (fun b => b = r)).trans (Kept.setCell _ ⟨r, 3, none⟩ _ (fun b => b = r) rfl) (fun _ h => .inl h)).trans (Kept.setCell _ ⟨r, 4, none⟩ _ (fun b => b = r) rfl) (fun _ h => .inl h)
  have H2 := Lib.hid h2
  have H3 := Lib.hid h3
  clear h h2 h3
  go_enter Try.func17, Try.ntmps17
  go_wp2_with fail
  go_region
  all_goals go_wp2_with fail
  all_goals go_ret
  all_goals exact ⟨rfl, H3.out, H2.out⟩
end Go.Proofs.Ytplpfhgdanclhaa
