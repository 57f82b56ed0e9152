/-
  The program's own disk: Crash, Fuse. No statement is proved here. No condition.
-/
import Derived.Test.YtplpfhgdanclhaaPDoes
namespace Go.Proofs.Ytplpfhgdanclhaa
open Go.RowKit Go.Maps

theorem elem_bools : Try.prog.underlying 57 = some (.slice (Try.prog.elem 57)) := by kernel_rfl
theorem size_bools (W : World) : (sizeOf (Try.prog.elem 57)).run Try.prog W = .ok 1 W := by kernel_rfl
theorem bools_till (W : World) (a : Option Addr) (len c : Nat) (h : Int) (k : Nat) (hk : h = (k : Int)) (hc : k ≤ c) :
    (Instr.slice 57 (.slice a len c) none (some (.int .i64 h)) none).run Try.prog W = .ok (.slice a k c) W := by
  subst hk
  rw [run_slice_h _ _ _ _ _ elem_bools .i64 (k : Int) (by omega) (by omega), size_bools]
  simp only [Result.andThen, sliced, Int.toNat_natCast, Nat.sub_zero, Nat.zero_mul]
  split
  · rfl
  · cases a <;> simp [Addr.add]
theorem RowAt.till {w : World} {A : Option Addr} {c : Nat} {kl : List Bool} (h : RowAt w (.slice A kl.length c) kl.length 1 (KS kl)) (k : Nat) (hk : k ≤ kl.length) : RowAt w (.slice A k c) (kl.take k).length 1 (KS (kl.take k)) := by
  obtain ⟨A', c', he, h1, h2, h3, h4, h5⟩ := h
  injection he with e1 _ e2
  subst e1
  subst e2
  have hl : (kl.take k).length = k := by rw [List.length_take]; omega
  rw [hl]
  refine ⟨A, c, rfl, ?_, by omega, h3, h4, fun hn => ?_⟩
  · unfold KS; rw [List.length_map, hl, Nat.mul_one]
  · obtain ⟨b, o, rfl, hc⟩ := h5 (by omega)
    refine ⟨b, o, rfl, fun j u hu => hc j u ?_⟩
    unfold KS at hu ⊢
    rw [List.getElem?_map, List.getElem?_take] at hu
    rw [List.getElem?_map]
    by_cases hj : j < k
    · rw [if_pos hj] at hu; exact hu
    · rw [if_neg hj] at hu; cases hu
theorem keptOf_till (ws : List (Nat × List UInt8)) (kl : List Bool) {k : Nat} (hk : k = min kl.length ws.length) : keptOf ws (kl.take k) = keptOf ws kl := by
  have h0 := keptOf_all ws kl (k := k) (by omega)
  have h1 := keptOf_all ws (kl.take k) (k := k) (by rw [List.length_take]; omega)
  rw [List.take_take, Nat.min_self] at h1
  rw [← h1, h0]

set_option maxHeartbeats 2000000 in
theorem pCrash_any (G S : Nat → Prop) (q : Nat) (D : DS) (v : Value) (kl : List Bool) (w : World) (h : PD w G S q D) (hv : RowAt w v kl.length 1 (KS kl)) (hkl : kl.length ≤ 140737488355328) (hF : Fine D) :
    Calls Try.prog 31 #[.pointer (some ⟨q, 0, none⟩), v] w fun e w' => e = .returned (.int .i64 (D.crashed kl).1) ∧ Kept w w' (Mut G w) ∧ PD w' (More G w w') (More S w w') q (D.crashed kl).2 := by
  have h0 := h
  obtain ⟨vl, vw, m, st, left, ks, pl, pw, h, hm, hM⟩ := h
  have c4 : w.cell? ⟨q, 4, none⟩ = some (.bool D.dead) := (row7 h.cells).1 4
  have hlv := p_live q D.dead w c4
  obtain ⟨_, _, hvw, -⟩ := RowAt.of_own h.waits
  have hvw' : ∃ Aw cw, vw = .slice Aw D.waits.length cw := ⟨_, _, hvw⟩
  clear hvw
  obtain ⟨Aw, cw, rfl⟩ := hvw'
  have c1 : w.cell? ⟨q, 1, none⟩ = some (.slice Aw D.waits.length cw) := (row7 h.cells).1 1
  have hv0 := hv
  obtain ⟨A, c, rfl, -, h2, -⟩ := hv
  have H0 := Lib.hid h0
  have H := Lib.hid h
  have HM := Lib.hid hM
  have HGM := Lib.hid hm
  clear c4 h hm hM
  cases hd : D.dead with
  | true =>
    have hr : D.crashed kl = (20, D) := by unfold DS.crashed; rw [hd]; rfl
    rw [hr]
    rw [hd] at hlv
    clear hr hd h0 hv0
    go_enter Try.func31, Try.ntmps31
    go_wp2_with fail
    refine hlv.mono ?_
    rintro e w1 ⟨rfl, rfl⟩
    go_wp2_with fail
    go_ret
    exact ⟨rfl, Kept.refl _ _, H0.out.mono More.here More.here⟩
  | false =>
    have hr : D.crashed kl = (0, D.crash kl) := by unfold DS.crashed; rw [hd]; rfl
    rw [hr]
    rw [hd] at hlv
    have hwl : D.waits.length ≤ 1000000 := Nat.le_of_lt hF.waits
    have hin : ∀ x ∈ D.waits, x.1 < D.lasts.length := fun x hx => (hF.ok.1 x hx).1
    obtain ⟨k, hk⟩ : ∃ k, k = min kl.length D.waits.length := ⟨_, rfl⟩
    have hkk : min ((kl.length : Nat) : Int) ((D.waits.length : Nat) : Int) = (k : Int) := by omega
    have hrow := RowAt.till hv0 k (by omega)
    have hsl := bools_till w A kl.length c (k : Int) k rfl (by omega)
    have hmk := p_mark _ _ w hrow (by rw [List.length_take]; omega)
    have hkept : D.crash (kl.take k) = D.crash kl := by unfold DS.crash; rw [keptOf_till _ _ hk]
    have HK := Lib.hid hk
    have hcase : ((D.waits.length : Int) < (kl.length : Int) ∧ k = D.waits.length) ∨ (¬ (D.waits.length : Int) < (kl.length : Int) ∧ k = kl.length) := by omega
    clear hr hd h0 hv0 hk hrow HK hkk
    rw [← hkept]
    clear hkept
    obtain ⟨kt, hkt⟩ : ∃ kt, kt = kl.take k := ⟨_, rfl⟩
    rw [← hkt] at hmk ⊢
    clear hkt
    rcases hcase with ⟨hcs, rfl⟩ | ⟨hcs, rfl⟩
    all_goals
      go_enter Try.func31, Try.ntmps31
      go_wp2_with fail
      refine hlv.mono ?_
      rintro e w1 ⟨rfl, rfl⟩
      go_wp2_with fail
      refine hmk.mono ?_
      rintro e w2 ⟨rfl, hb2⟩
      have hx2 : PR w2 G S q D vl (.slice Aw D.waits.length cw) (.map (some m)) st left ks pl pw := H.out.kept (fun _ h => h) (fun _ h => h) (fun b hb _ => hb2.block b hb) (fun b _ _ hb => hb2.block b hb)
      go_wp2_with fail
      refine (p_crash G S q D vl _ _ st left ks pl pw _ w2 hx2 hin hwl hF.lasts).mono ?_
      rintro e w3 ⟨rfl, hk3, hx3⟩
      have hz2 := hb2.size
      have hz3 := hk3.size
      go_wp2_with fail
      go_ret
      exact ⟨rfl, (Kept.ofBelow (F := Mut G w) hb2).transM hk3 (fun _ h _ => h), hx3.mono (fun b hb => hb.elim .inl fun hb => .inr ⟨by omega, hb.2⟩) More.here⟩
set_option maxHeartbeats 2000000 in
theorem pFuse_any (G S : Nat → Prop) (q : Nat) (D : DS) (k : Int) (v : Value) (kl : List Bool) (w : World) (h : PD w G S q D) (hk : k < 9223372036854775808) (hv : RowAt w v kl.length 1 (KS kl)) (hkl : kl.length ≤ 140737488355328) :
    Calls Try.prog 29 #[.pointer (some ⟨q, 0, none⟩), .int .i64 k, v] w fun e w' => e = .returned (.int .i64 (D.lit k kl).1) ∧ Kept w w' (Mut G w) ∧ PD w' (More G w w') (More S w w') q (D.lit k kl).2 := by
  have h0 := h
  obtain ⟨vl, vw, m, st, left, ks, pl, pw, h, hm, hM⟩ := h
  have c4 : w.cell? ⟨q, 4, none⟩ = some (.bool D.dead) := (row7 h.cells).1 4
  have hlv := p_live q D.dead w c4
  have hmk := p_mark _ _ w hv hkl
  have H0 := Lib.hid h0
  have H := Lib.hid h
  have HM := Lib.hid hM
  have HGM := Lib.hid hm
  obtain ⟨A, c, rfl, -⟩ := hv
  clear c4 h hm hM h0
  cases hd : D.dead with
  | true =>
    have hr : D.lit k kl = (20, D) := by unfold DS.lit; rw [hd]; rfl
    rw [hr]
    rw [hd] at hlv
    clear hr hd
    go_enter Try.func29, Try.ntmps29
    go_wp2_with fail
    refine hlv.mono ?_
    rintro e w1 ⟨rfl, rfl⟩
    go_wp2_with fail
    go_ret
    exact ⟨rfl, Kept.refl _ _, H0.out.mono More.here More.here⟩
  | false =>
    rw [hd] at hlv
    by_cases hk0 : k < 0
    · have hr : D.lit k kl = (1, D) := by unfold DS.lit; rw [hd]; simp [hk0]
      rw [hr]
      clear hr hd
      go_enter Try.func29, Try.ntmps29
      go_wp2_with fail
      refine hlv.mono ?_
      rintro e w1 ⟨rfl, rfl⟩
      go_wp2_with fail
      go_ret
      exact ⟨rfl, Kept.refl _ _, H0.out.mono More.here More.here⟩
    · have hr : D.lit k kl = (0, { D with fuse := some k.toNat, keep := kl }) := by unfold DS.lit; rw [hd]; simp [hk0]
      rw [hr]
      have hfz : FuseIs { D with fuse := some k.toNat, keep := kl } true k (marks kl) := by
        intro _
        refine ⟨(fun hn => by cases hn), fun k' hk' => ?_⟩
        injection hk' with hk'
        exact ⟨rfl, by omega, by omega, rfl⟩
      have HFZ := Lib.hid hfz
      clear hr hd hfz
      go_enter Try.func29, Try.ntmps29
      go_wp2_with fail
      refine hlv.mono ?_
      rintro e w1 ⟨rfl, rfl⟩
      go_wp2_with fail
      refine hmk.mono ?_
      rintro e w2 ⟨rfl, hb2⟩
      have hx2 : PR w2 G S q D vl vw (.map (some m)) st left ks pl pw := H.out.kept (fun _ h => h) (fun _ h => h) (fun b hb _ => hb2.block b hb) (fun b _ _ hb => hb2.block b hb)
      have hM2 : MapAt w2 m D.waits.length pw := HM.out.same (hb2.block m HM.out.lt)
      obtain ⟨hc2, hzz⟩ := row7 hx2.cells
      have e5 : w2.cell? ⟨q, 5, none⟩ = some (.bool st) := hc2 5
      have e6 : w2.cell? ⟨q, 6, none⟩ = some (.int .i64 left) := hc2 6
      have e7 : w2.cell? ⟨q, 7, none⟩ = some (.string ks) := hc2 7
      have y5 := hzz 5
      have y6 := hzz 6
      have y7 := hzz 7
      have HX2 := Lib.hid hx2
      have HM2 := Lib.hid hM2
      clear hc2 hzz hx2 hM2 hmk
      go_wp2_with fail
      go_ret
      have hoth : ∀ b, b ≠ q → (((w2.setCell ⟨q, 5, none⟩ (.bool true)).setCell ⟨q, 6, none⟩ (.int .i64 k)).setCell ⟨q, 7, none⟩ (.string (marks kl))).heap[b]? = w2.heap[b]? := fun b hb => ((set_other hb).trans (set_other hb)).trans (set_other hb)
      have hcf := Joins.block_setCell (i := 7) (Joins.block_setCell (i := 6) (Joins.block_setCell (i := 5) HX2.out.cells (.bool true)) (.int .i64 k)) (.string (marks kl))
      have hmq : m ≠ q := HM2.out.other HX2.out.cells
      have hk := (((Kept.ofBelow (F := Mut G w) hb2).trans (Kept.setCell w2 ⟨q, 5, none⟩ (.bool true) (Mut G w) H.out.headMut) (fun _ h => .inl h)).trans (Kept.setCell _ ⟨q, 6, none⟩ (.int .i64 k) (Mut G w) H.out.headMut) (fun _ h => .inl h)).trans (Kept.setCell _ ⟨q, 7, none⟩ (.string (marks kl)) (Mut G w) H.out.headMut) (fun _ h => .inl h)
      refine ⟨rfl, hk, vl, vw, m, true, k, marks kl, pl, pw, (HX2.out.head hoth ?_ HFZ.out rfl rfl).mono More.here More.here, .inl HGM.out, HM2.out.same (hoth m hmq)⟩
      rw [hcf]
      simp
end Go.Proofs.Ytplpfhgdanclhaa
