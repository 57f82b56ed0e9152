/-
  The program's own disk: Write, Flush. No statement is proved here. No condition.
-/
import Derived.Test.YtplpfhgdanclhaaPRead
namespace Go.Proofs.Ytplpfhgdanclhaa
open Go.RowKit Go.Maps

theorem More.both {G : Nat → Prop} {a b c : World} (h1 : a.heap.size ≤ b.heap.size) (h2 : b.heap.size ≤ c.heap.size) : ∀ n, More (More G a b) b c n → More G a c n := by
  intro n h
  rcases h with (h | h) | h
  · exact .inl h
  · exact .inr ⟨h.1, by omega⟩
  · exact .inr ⟨by omega, h.2⟩
theorem More.trans {G : Nat → Prop} {a b : World} : ∀ n, More G a b n → n < a.heap.size → G n := fun n h hs => h.elim id fun h => absurd h.1 (by omega)

set_option maxHeartbeats 2000000 in
theorem pWrite_any (G S : Nat → Prop) (q : Nat) (D : DS) (i : Int) (v : Value) (s : List UInt8) (w : World) (h : PD w G S q D) (hv : Rd w w.heap.size v s) (hF : Fine D) :
    Calls Try.prog 21 #[.pointer (some ⟨q, 0, none⟩), .int .i64 i, v] w fun e w' => e = .returned (.int .i64 (D.write i s).1) ∧ Kept w w' (Mut G w) ∧ PD w' (More G w w') (More S w w') q (D.write i s).2 := by
  have h0 := h
  obtain ⟨vl, vw, m, st, left, ks, pl, pw, h, hm, hM⟩ := h
  obtain ⟨_, _, hvl, -⟩ := RowAt.of_own h.lasts
  have hvl' : ∃ Al cl, vl = .slice Al D.lasts.length cl := ⟨_, _, hvl⟩
  clear hvl
  obtain ⟨Al, cl, rfl⟩ := hvl'
  have c0 : w.cell? ⟨q, 0, none⟩ = some (.slice Al D.lasts.length cl) := (row7 h.cells).1 0
  have c4 : w.cell? ⟨q, 4, none⟩ = some (.bool D.dead) := (row7 h.cells).1 4
  have hf := p_find q D i Al cl w c4 c0
  clear c0 c4 h hm hM
  have hv0 := hv
  obtain ⟨A, c, rfl, h1, h2, h3, -⟩ := hv
  have H0 := Lib.hid h0
  by_cases hbad : D.dead = true ∨ inside D i = false
  · obtain ⟨r, hrr⟩ : ∃ r : Int, r = if D.dead then 20 else if inside D i then 0 else 1 := ⟨_, rfl⟩
    have hr : D.write i s = (r, D) := by
      unfold DS.write
      rw [hrr]
      rcases hbad with h1 | h1
      · rw [h1]; rfl
      · rw [h1]
        cases D.dead <;> rfl
    rw [hr]
    rw [← hrr] at hf
    have hne : (r != 0) = true := by
      rw [hrr]
      rcases hbad with h1 | h1
      · rw [h1]; rfl
      · rw [h1]
        cases D.dead <;> rfl
    clear hr hrr hbad h0 hv0
    go_enter Try.func21, Try.ntmps21
    go_wp2_with fail
    refine hf.mono ?_
    rintro e w1 ⟨rfl, rfl⟩
    go_wp2_with fail
    go_ret
    exact ⟨rfl, Kept.refl _ _, H0.out.mono More.here More.here⟩
  · have hd : D.dead = false := by
      cases hh : D.dead
      · rfl
      · exact absurd (.inl hh) hbad
    have hi : inside D i = true := by
      cases hh : inside D i
      · exact absurd (.inr hh) hbad
      · rfl
    clear hbad
    by_cases hl : s.length = 512
    · have hr : D.write i s = (if D.fuse = some 0 then (20, (D.wrote i.toNat s).crash D.keep) else (0, (D.wrote i.toNat s).tick)) := by
        unfold DS.write
        rw [hd, hi, decide_eq_true hl]
        rfl
      rw [hd, hi] at hf
      unfold inside at hi
      simp only [Bool.and_eq_true, decide_eq_true_eq] at hi
      obtain ⟨a, rfl⟩ := Int.eq_ofNat_of_zero_le hi.1
      have ha : a < D.lasts.length := by omega
      rw [Int.toNat_natCast] at hr
      have hwt := p_wait G S q D a _ s w h0 hl hv0 ha hF.waits hF.lasts
      have hne : ((s.length : Int) != 512) = false := by rw [hl]; rfl
      have hok1 := DS.ok_wrote hF.ok ha hl
      obtain ⟨R, hR⟩ : ∃ R, R = D.write (a : Int) s := ⟨_, rfl⟩
      rw [← hR] at hr ⊢
      have HR := Lib.hid hr
      have HOK := Lib.hid hok1
      have HD := Lib.hid hd
      have hwl : (D.wrote a s).waits.length ≤ 1000000 := by
        have := hF.waits
        show (D.waits ++ [(a, s)]).length ≤ 1000000
        rw [List.length_append]
        simp
        omega
      clear hR hr hd hi h0 hv0 hok1 hl
      go_enter Try.func21, Try.ntmps21
      go_wp2_with fail
      refine hf.mono ?_
      rintro e w1 ⟨rfl, rfl⟩
      go_wp2_with fail
      refine hwt.mono ?_
      rintro e w2 ⟨rfl, hk2, hx2⟩
      go_wp2_with fail
      refine (p_step (More G w w2) (More S w w2) q (D.wrote a s) w2 hx2 HD.out (fun x hx => (HOK.out.1 x hx).1) hF.done hwl hF.lasts).mono ?_
      rintro e w3 ⟨rfl, hk3, hx3⟩
      have hk2s := hk2.size
      have hk3s := hk3.size
      have hk := hk2.transM hk3 More.trans
      have hwf : (D.wrote a s).fuse = D.fuse := rfl
      have hwk : (D.wrote a s).keep = D.keep := rfl
      rw [hwf, hwk] at hx3
      rw [hwf]
      by_cases hfu : D.fuse = some 0
      · rw [if_pos hfu] at hx3 ⊢
        have HFU := Lib.hid hfu
        clear hfu
        go_wp2_with fail
        go_ret
        rw [HR.out, if_pos HFU.out]
        exact ⟨rfl, hk, hx3.mono (More.both hk2s hk3s) (fun b hb => hb.elim .inl fun hb => .inr ⟨hb.1, by omega⟩)⟩
      · rw [if_neg hfu] at hx3 ⊢
        have HFU := Lib.hid hfu
        clear hfu
        go_wp2_with fail
        go_ret
        rw [HR.out, if_neg HFU.out]
        exact ⟨rfl, hk, hx3.mono (More.both hk2s hk3s) (fun b hb => hb.elim .inl fun hb => .inr ⟨hb.1, by omega⟩)⟩
    · have hr : D.write i s = (1, D) := by
        unfold DS.write
        rw [hd, hi, decide_eq_false hl]
        rfl
      rw [hr]
      rw [hd, hi] at hf
      have hne : ((s.length : Int) != 512) = true := by simp; omega
      clear hr hd hi h0 hv0 hl
      go_enter Try.func21, Try.ntmps21
      go_wp2_with fail
      refine hf.mono ?_
      rintro e w1 ⟨rfl, rfl⟩
      go_wp2_with fail
      go_ret
      exact ⟨rfl, Kept.refl _ _, H0.out.mono More.here More.here⟩

set_option maxHeartbeats 2000000 in
theorem pFlush_any (G S : Nat → Prop) (q : Nat) (D : DS) (w : World) (h : PD w G S q D) (hF : Fine D) :
    Calls Try.prog 44 #[.pointer (some ⟨q, 0, none⟩)] w fun e w' => e = .returned (.int .i64 D.flush.1) ∧ Kept w w' (Mut G w) ∧ PD w' (More G w w') (More S w w') q D.flush.2 := by
  have h0 := h
  obtain ⟨vl, vw, m, st, left, ks, pl, pw, h, hm, hM⟩ := h
  have c4 : w.cell? ⟨q, 4, none⟩ = some (.bool D.dead) := (row7 h.cells).1 4
  have hlv := p_live q D.dead w c4
  clear c4 h hm hM
  have H0 := Lib.hid h0
  cases hd : D.dead with
  | true =>
    have hr : D.flush = (20, D) := by unfold DS.flush; rw [hd]; rfl
    rw [hr]
    rw [hd] at hlv
    clear hr hd h0
    go_enter Try.func44, Try.ntmps44
    go_wp2_with fail
    refine hlv.mono ?_
    rintro e w1 ⟨rfl, rfl⟩
    go_wp2_with fail
    go_ret
    exact ⟨rfl, Kept.refl _ _, H0.out.mono More.here More.here⟩
  | false =>
    have hr : D.flush = (if D.fuse = some 0 then (20, D.crash D.keep) else (0, D.tick.flushed)) := by unfold DS.flush; rw [hd]; rfl
    rw [hd] at hlv
    have hwl : D.waits.length ≤ 1000000 := Nat.le_of_lt hF.waits
    have hin : ∀ x ∈ D.waits, x.1 < D.lasts.length := fun x hx => (hF.ok.1 x hx).1
    have hstep := p_step G S q D w h0 hd hin hF.done hwl hF.lasts
    obtain ⟨R, hR⟩ : ∃ R, R = D.flush := ⟨_, rfl⟩
    rw [← hR] at hr ⊢
    have HR := Lib.hid hr
    clear hR hr hd h0
    go_enter Try.func44, Try.ntmps44
    go_wp2_with fail
    refine hlv.mono ?_
    rintro e w1 ⟨rfl, rfl⟩
    go_wp2_with fail
    refine hstep.mono ?_
    rintro e w2 ⟨rfl, hk2, hx2⟩
    have hk2s := hk2.size
    by_cases hfu : D.fuse = some 0
    · rw [if_pos hfu] at hx2 ⊢
      have HFU := Lib.hid hfu
      clear hfu
      go_wp2_with fail
      go_ret
      rw [HR.out, if_pos HFU.out]
      exact ⟨rfl, hk2, hx2.mono (fun _ h => h) More.here⟩
    · rw [if_neg hfu] at hx2 ⊢
      have HFU := Lib.hid hfu
      obtain ⟨vl2, vw2, m2, st2, l2, ks2, pl2, pw2, hx2, hm2, hM2⟩ := hx2
      clear hfu
      go_wp2_with fail
      refine (p_settle (More G w w2) S q D.tick vl2 vw2 _ st2 l2 ks2 pl2 pw2 w2 hx2 hin hwl hF.lasts).mono ?_
      rintro e w3 ⟨rfl, hk3, hx3⟩
      have hk3s := hk3.size
      go_wp2_with fail
      go_ret
      rw [HR.out, if_neg HFU.out]
      exact ⟨rfl, hk2.transM hk3 More.trans, hx3.mono (More.both hk2s hk3s) More.here⟩
end Go.Proofs.Ytplpfhgdanclhaa
