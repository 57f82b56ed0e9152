/-
  The walk of the law CodeOnly: what is read and done was written by just these bytes. Condition: the bytes lie in memory.
-/
import Derived.Test.YtfpammdpnccciaaWorks
import Derived.Test.YtfpammdpnccciaaPlainD
import Derived.Deep.DeepCutAuto
import Derived.Deep.RegionWith
namespace Go.Proofs.Ytfpammdpnccciaa
open Go.RowKit

theorem told_done {α : Type} {z : α} {g : List UInt8 → Option (α × List UInt8)} {l : List UInt8} {a : α} (h : (a, some []) = told z g (some l)) : g l = some (a, []) := by
  unfold told at h
  simp only [] at h
  cases hg : g l with
  | none => rw [hg] at h; cases h
  | some p =>
    rw [hg] at h
    simp only [Prod.mk.injEq, Option.some.injEq] at h
    rw [h.1, h.2]
theorem below_n {B : Nat} {a w : World} (h : Below B a w) (n : Nat) : Below B a (w.drewN n) := ⟨h.os, h.tape, h.output, h.size, h.block⟩

set_option maxRecDepth 100000 in
set_option maxHeartbeats 2000000 in
theorem only_walk (l : List UInt8) (b : Value) (w : World) (hr : Rd w w.heap.size b l) (hl : l.length ≤ 140737488351232) :
    Calls Try.prog 7 #[b] w fun e w' => e = .returned (.bool true) ∧ Below w.heap.size w w' := by
  have HR := Lib.hid hr
  obtain ⟨A, c, rfl, -⟩ := hr
  have hcb : ∀ W, Below w.heap.size w W → (convert 23 9 (.slice A l.length c)).run Try.prog W = .ok (.string ⟨l.toArray⟩) W := fun W h => conv_str (HR.out.below h h.size)
  have HCB := Lib.hid hcb
  clear hcb
  go_enter Try.func7, Try.ntmps7
  go_wp2_with fail
  refine (works_any _).mono ?_
  rintro e w0 ⟨rfl, hb0⟩
  go_wp2_with fail
  refine (New_any l _ _ (HR.out.below hb0 hb0.size) (by omega)).mono ?_
  rintro e x0 ⟨R, rfl, hR, hd, hx⟩
  have hbx := hb0.trans (hx.mono hb0.size)
  have hRw : w.heap.size ≤ R := Nat.le_trans hb0.size hR
  clear hb0 hx hR
  go_wp2_with fail
  refine (Num_any R _ _ hd).mono ?_
  obtain ⟨p, hp⟩ : ∃ p, p = told 0 gNum (some l) := ⟨_, rfl⟩
  rw [← hp]
  rintro e w3 ⟨rfl, hg3, hd3⟩
  have hb3 := hbx.grown hg3 hbx.size (fun k hk => by injection hk with hk; omega)
  have HP := Lib.hid hp
  clear hp hbx hg3 hd
  go_upto_region 5 with fail
  go_cut [23] (fun s wx => s = .bool false ∧ Below w.heap.size w wx)
  case first =>
    by_cases hdone : p.2 = some []
    · obtain ⟨n, st⟩ := p
      obtain rfl : st = some [] := hdone
      obtain ⟨hl2, hn⟩ := gNum_is (told_done HP.out)
      rw [List.append_nil] at hl2
      have hcb' : ∀ W, Below w.heap.size w W → (convert 23 9 (.slice A l.length c)).run Try.prog W = .ok (.string ⟨(uv (zz n)).toArray⟩) W := fun W h => (HCB.out W h).trans (congrArg (fun x : List UInt8 => Result.ok (Value.string ⟨x.toArray⟩) W) hl2)
      clear hl2
      have hd3' : Rdr 56 w3.drew R (some []) := hd3
      have hb3' : Below w.heap.size w w3.drew := hb3.drew
      have hc0 := hcb' _ hb3'
      have HCB2 := Lib.hid hcb'
      clear hcb'
      go_region_with (first | (go_at_call 19; refine (done_any R _ _ hd3').mono ?_; rintro e wy ⟨rfl, rfl⟩) | (go_at_call 11; refine (num_any [] _ n _ (Rd.nil _ _) hn (by simp)).mono ?_; rintro e wy ⟨vy, rfl, hoy, hby⟩; have hc1 := HCB2.out _ (hb3'.trans (hby.mono hb3'.size)); have hc2 := conv_str (Rd.own hoy); have hb4 := hb3'.trans (hby.mono hb3'.size)))
      all_goals
        go_wp2_with fail
        go_meet
        exact ⟨rfl, hb4⟩
    · have hd3' : ∀ n, Rdr 56 (w3.drewN n) R p.2 := fun _ => hd3
      have hnd : (p.2 == some []) = false := by simpa using hdone
      clear hdone
      go_quiet ((go_at_call 19; exact Calls.quiet_of_same ((done_any R p.2 _ (hd3' _)).mono fun e w' h => ⟨h.1.trans (by rw [hnd]), h.2.symm⟩)))
      all_goals
        go_wp2_with fail
        go_meet
        exact ⟨rfl, below_n hb3 _⟩
  case rest =>
    obtain ⟨rfl, hb1⟩ := hcut
    go_wp2_with fail
    refine (New_any l _ _ (HR.out.below hb1 hb1.size) (by omega)).mono ?_
    rintro e x1 ⟨R, rfl, hR, hd, hx⟩
    have hbx := hb1.trans (hx.mono hb1.size)
    have hRw : w.heap.size ≤ R := Nat.le_trans hb1.size hR
    clear hb1 hx hR
    go_wp2_with fail
    refine (Count_any R 2147483647 _ _ hd).mono ?_
    obtain ⟨p, hp⟩ : ∃ p, p = told 0 (gCount 2147483647) (some l) := ⟨_, rfl⟩
    rw [← hp]
    rintro e w3 ⟨rfl, hg3, hd3⟩
    have hb3 := hbx.grown hg3 hbx.size (fun k hk => by injection hk with hk; omega)
    have HP := Lib.hid hp
    clear hp hbx hg3 hd
    go_upto_region 9 with fail
    go_cut [37] (fun s wx => s = .bool false ∧ Below w.heap.size w wx)
    case first =>
      by_cases hdone : p.2 = some []
      · obtain ⟨n, st⟩ := p
        obtain rfl : st = some [] := hdone
        have hl2 := gCount_is (told_done HP.out)
        rw [List.append_nil] at hl2
        obtain ⟨k, hk, hk1, _⟩ := gCount_nat (told_done HP.out)
        have hn0 : 0 ≤ n := by omega
        have hn1 : n ≤ 2147483647 := by omega
        clear hk hk1
        have hcb' : ∀ W, Below w.heap.size w W → (convert 23 9 (.slice A l.length c)).run Try.prog W = .ok (.string ⟨(uv n.toNat).toArray⟩) W := fun W h => (HCB.out W h).trans (congrArg (fun x : List UInt8 => Result.ok (Value.string ⟨x.toArray⟩) W) hl2)
        clear hl2
        have hd3' : Rdr 56 w3.drew R (some []) := hd3
        have hb3' : Below w.heap.size w w3.drew := hb3.drew
        have hc0 := hcb' _ hb3'
        have HCB2 := Lib.hid hcb'
        clear hcb'
        go_region_with (first | (go_at_call 19; refine (done_any R _ _ hd3').mono ?_; rintro e wy ⟨rfl, rfl⟩) | (go_at_call 10; refine (count_any [] _ n _ (Rd.nil _ _) hn0 hn1 (by simp)).mono ?_; rintro e wy ⟨vy, rfl, hoy, hby⟩; have hc1 := HCB2.out _ (hb3'.trans (hby.mono hb3'.size)); have hc2 := conv_str (Rd.own hoy); have hb4 := hb3'.trans (hby.mono hb3'.size)))
        all_goals
          go_wp2_with fail
          go_meet
          exact ⟨rfl, hb4⟩
      · have hd3' : ∀ n, Rdr 56 (w3.drewN n) R p.2 := fun _ => hd3
        have hnd : (p.2 == some []) = false := by simpa using hdone
        clear hdone
        go_quiet ((go_at_call 19; exact Calls.quiet_of_same ((done_any R p.2 _ (hd3' _)).mono fun e w' h => ⟨h.1.trans (by rw [hnd]), h.2.symm⟩)))
        all_goals
          go_wp2_with fail
          go_meet
          exact ⟨rfl, below_n hb3 _⟩
    case rest =>
      obtain ⟨rfl, hb2⟩ := hcut
      go_wp2_with fail
      refine (New_any l _ _ (HR.out.below hb2 hb2.size) (by omega)).mono ?_
      rintro e x2 ⟨R, rfl, hR, hd, hx⟩
      have hbx := hb2.trans (hx.mono hb2.size)
      have hRw : w.heap.size ≤ R := Nat.le_trans hb2.size hR
      clear hb2 hx hR
      go_wp2_with fail
      refine (Str_any R (l.length : Int) _ _ hd).mono ?_
      obtain ⟨p, hp⟩ : ∃ p, p = told [] (gStr (l.length : Int)) (some l) := ⟨_, rfl⟩
      rw [← hp]
      rintro e w3 ⟨rfl, hg3, hd3⟩
      have hb3 := hbx.grown hg3 hbx.size (fun k hk => by injection hk with hk; omega)
      have HP := Lib.hid hp
      clear hp hbx hg3 hd
      go_upto_region 13 with fail
      go_cut [53] (fun s wx => s = .bool false ∧ Below w.heap.size w wx)
      case first =>
        by_cases hdone : p.2 = some []
        · obtain ⟨n, st⟩ := p
          obtain rfl : st = some [] := hdone
          obtain ⟨hl2, hn⟩ := gStr_is (told_done HP.out)
          rw [List.append_nil] at hl2
          have hn2 : (⟨n.toArray⟩ : ByteArray).size ≤ 2147483647 := hn
          have hcb' : ∀ W, Below w.heap.size w W → (convert 23 9 (.slice A l.length c)).run Try.prog W = .ok (.string ⟨(tv n).toArray⟩) W := fun W h => (HCB.out W h).trans (congrArg (fun x : List UInt8 => Result.ok (Value.string ⟨x.toArray⟩) W) hl2)
          clear hl2
          have hd3' : Rdr 56 w3.drew R (some []) := hd3
          have hb3' : Below w.heap.size w w3.drew := hb3.drew
          have hc0 := hcb' _ hb3'
          have HCB2 := Lib.hid hcb'
          clear hcb'
          go_region_with (first | (go_at_call 19; refine (done_any R _ _ hd3').mono ?_; rintro e wy ⟨rfl, rfl⟩) | (go_at_call 20; refine (str_any [] _ ⟨n.toArray⟩ _ (Rd.nil _ _) hn2 (by simp only [List.length_nil]; omega)).mono ?_; rintro e wy ⟨vy, rfl, hoy, hby⟩; have hc1 := HCB2.out _ (hb3'.trans (hby.mono hb3'.size)); have hc2 := conv_str (Rd.own hoy); have hb4 := hb3'.trans (hby.mono hb3'.size)))
          all_goals
            go_wp2_with fail
            go_meet
            exact ⟨rfl, hb4⟩
        · have hd3' : ∀ n, Rdr 56 (w3.drewN n) R p.2 := fun _ => hd3
          have hnd : (p.2 == some []) = false := by simpa using hdone
          clear hdone
          go_quiet ((go_at_call 19; exact Calls.quiet_of_same ((done_any R p.2 _ (hd3' _)).mono fun e w' h => ⟨h.1.trans (by rw [hnd]), h.2.symm⟩)))
          all_goals
            go_wp2_with fail
            go_meet
            exact ⟨rfl, below_n hb3 _⟩
      case rest =>
        obtain ⟨rfl, hb3⟩ := hcut
        go_wp2_with fail
        refine (New_any l _ _ (HR.out.below hb3 hb3.size) (by omega)).mono ?_
        rintro e x3 ⟨R, rfl, hR, hd, hx⟩
        have hbx := hb3.trans (hx.mono hb3.size)
        have hRw : w.heap.size ≤ R := Nat.le_trans hb3.size hR
        clear hb3 hx hR
        go_wp2_with fail
        refine (Flag_any R _ _ hd).mono ?_
        obtain ⟨p, hp⟩ : ∃ p, p = told false gFlag (some l) := ⟨_, rfl⟩
        rw [← hp]
        rintro e w3 ⟨rfl, hg3, hd3⟩
        have hb3 := hbx.grown hg3 hbx.size (fun k hk => by injection hk with hk; omega)
        have HP := Lib.hid hp
        clear hp hbx hg3 hd
        go_wp2_with fail
        by_cases hdone : p.2 = some []
        · obtain ⟨n, st⟩ := p
          obtain rfl : st = some [] := hdone
          have hl2 := gFlag_is (told_done HP.out)
          rw [List.append_nil] at hl2
          have hcb' : ∀ W, Below w.heap.size w W → (convert 23 9 (.slice A l.length c)).run Try.prog W = .ok (.string ⟨(fv n).toArray⟩) W := fun W h => (HCB.out W h).trans (congrArg (fun x : List UInt8 => Result.ok (Value.string ⟨x.toArray⟩) W) hl2)
          clear hl2
          have hd3' : Rdr 56 w3.drew R (some []) := hd3
          have hb3' : Below w.heap.size w w3.drew := hb3.drew
          have hc0 := hcb' _ hb3'
          have HCB2 := Lib.hid hcb'
          clear hcb'
          go_region_with (first | (go_at_call 19; refine (done_any R _ _ hd3').mono ?_; rintro e wy ⟨rfl, rfl⟩) | (go_at_call 21; refine (flag_any [] _ n _ (Rd.nil _ _) (by simp)).mono ?_; rintro e wy ⟨vy, rfl, hoy, hby⟩; have hc1 := HCB2.out _ (hb3'.trans (hby.mono hb3'.size)); have hc2 := conv_str (Rd.own hoy); have hb4 := hb3'.trans (hby.mono hb3'.size)))
          all_goals
            go_wp2_with fail
            go_ret
            exact ⟨rfl, hb4⟩
        · have hd3' : ∀ n, Rdr 56 (w3.drewN n) R p.2 := fun _ => hd3
          have hnd : (p.2 == some []) = false := by simpa using hdone
          clear hdone
          go_quiet ((go_at_call 19; exact Calls.quiet_of_same ((done_any R p.2 _ (hd3' _)).mono fun e w' h => ⟨h.1.trans (by rw [hnd]), h.2.symm⟩)))
          all_goals
            go_wp2_with fail
            go_ret
            exact ⟨rfl, below_n hb3 _⟩
end Go.Proofs.Ytfpammdpnccciaa
