/-
  The program's own disk: reads, Read. No statement is proved here. No condition.
-/
import Derived.Test.YtplpfhgdanclhaaPWait
namespace Go.Proofs.Ytplpfhgdanclhaa
open Go.RowKit Go.Maps

theorem look_length {D : DS} (hok : D.ok) {a : Nat} (ha : a < D.lasts.length) : (look D.lasts D.waits a).length = 512 := by
  suffices H : ∀ (ws : List (Nat × List UInt8)) (t : List UInt8), (∀ x ∈ ws, x.2.length = 512) → t.length = 512 → (ws.foldl (fun s x => if x.1 = a then x.2 else s) t).length = 512 by
    refine H D.waits _ (fun x hx => (hok.1 x hx).2) ?_
    have : D.lasts.getD a [] = D.lasts[a] := by simp [List.getD, ha]
    rw [this]
    exact hok.2 _ (List.getElem_mem ha)
  intro ws
  induction ws with
  | nil => intro t _ ht; exact ht
  | cons x ws ih =>
    intro t hx ht
    refine ih _ (fun y hy => hx y (by simp [hy])) ?_
    by_cases hxa : x.1 = a
    · simp only [if_pos hxa]; exact hx x (by simp)
    · simp only [if_neg hxa]; exact ht

set_option maxHeartbeats 2000000 in
theorem p_reads (G S : Nat → Prop) (q : Nat) (D : DS) (a : Nat) (w : World) (h : PD w G S q D) (ha : a < D.lasts.length) (hll : D.lasts.length ≤ 1000000) :
    Calls Try.prog 55 #[.pointer (some ⟨q, 0, none⟩), .int .i64 (a : Int)] w fun e w' => e = .returned (.agg (sec (look D.lasts D.waits a))) ∧ Below w.heap.size w w' := by
  obtain ⟨vl, vw, m, st, left, ks, pl, pw, h, hm, hM⟩ := h
  have hq := h.lt
  have hzero := sec_zero
  have hpz : ∀ W, (zeroValue 95).run Try.prog W = .ok (.pointer none) W := fun W => by
    obtain ⟨i, h1, h2, _⟩ := info_parts info_P
    simp [zeroValue, typeInfo, h1, h2]
  obtain ⟨Z, hZ⟩ : ∃ Z, Z = sec (List.replicate 512 0) := ⟨_, rfl⟩
  have hZs : Z.size = 512 := by rw [hZ, sec_size, List.length_replicate]
  simp only [← hZ] at hzero
  have hnewb := heap_alloc_new w (.cells Z 99)
  have hb1 := Below.alloc (Below.refl w.heap.size w) (Nat.le_refl _) (.cells Z 99)
  have HZ := Lib.hid hZ
  have hlk := h.wts.look D.lasts a
  obtain ⟨_, _, hvl, -⟩ := RowAt.of_own h.lasts
  have hvl' : ∃ Al cl, vl = .slice Al D.lasts.length cl := ⟨_, _, hvl⟩
  clear hvl
  obtain ⟨Al, cl, rfl⟩ := hvl'
  obtain ⟨gl, cl', hvl, -, hgl⟩ := h.lasts.form (by omega)
  injection hvl with e1 _ e2
  subst e1
  subst e2
  have hpll := h.secs.1
  have hpa : pl[a]? = some (pl[a]'(by omega)) := List.getElem?_eq_getElem (by omega)
  have hLa : D.lasts[a]? = some D.lasts[a] := List.getElem?_eq_getElem ha
  have hsl := h.secs.2 a _ _ hpa hLa
  have hgd : D.lasts.getD a [] = D.lasts[a] := by simp [List.getD, ha]
  obtain ⟨ol, hol⟩ : ∃ ol, ol = pl[a]'(by omega) := ⟨_, rfl⟩
  rw [← hol] at hpa hsl
  rw [← hgd] at hsl
  have k0 : w.cell? ⟨gl, a, none⟩ = some (ptr ol) := (h.lasts.cellAt a (by omega)).trans (PS_get hpa)
  clear hZ hol hpa hLa hgd hpll
  have a0 : (0 : Int) ≤ (a : Int) := by omega
  have a1 : (a : Int) < (D.lasts.length : Int) := by omega
  obtain ⟨T, hT⟩ : ∃ T, T = look D.lasts D.waits a := ⟨_, rfl⟩
  rw [← hT] at hlk ⊢
  clear hT
  go_enter Try.func55, Try.ntmps55
  go_upto_region 1 with fail
  obtain ⟨g, hg⟩ : ∃ g, g = w.heap.size := ⟨_, rfl⟩
  have hgw : w.heap.size ≤ g := by omega
  rw [← hg] at hnewb ⊢
  obtain ⟨w1, hw1⟩ : ∃ w1, w1 = w.alloc (.cells Z 99) := ⟨_, rfl⟩
  rw [← hw1] at hb1 hnewb ⊢
  have hx1 : PR w1 G S q D (.slice (some ⟨gl, 0, none⟩) D.lasts.length cl) vw (.map (some m)) st left ks pl pw := h.kept (fun _ h => h) (fun _ h => h) (fun b hb _ => hb1.block b hb) (fun b _ _ hb => hb1.block b hb)
  have hM1 : MapAt w1 m D.waits.length pw := hM.same (hb1.block m hM.lt)
  have k1 : w1.cell? ⟨gl, a, none⟩ = some (ptr ol) := (hb1.cell (p := ⟨gl, a, none⟩) hgl).trans k0
  have c0 : w1.cell? ⟨q, 0, none⟩ = some (.slice (some ⟨gl, 0, none⟩) D.lasts.length cl) := (row7 hx1.cells).1 0
  have c2 : w1.cell? ⟨q, 2, none⟩ = some (.map (some m)) := (row7 hx1.cells).1 2
  obtain ⟨Dm, hown, hism, hat⟩ := hM1
  have hll' : a < 9223372036854775808 := by omega
  have hkey := key_i64 hll'
  obtain ⟨v, ps, hrun, hv⟩ := hown.lookup law_int Try.underlying85 (hpz w1) (zd := .nil) (zp := []) rfl hkey
  obtain ⟨o, rfl, ho⟩ := Rp_inv hv
  have hol : o = lastOf pw a := encp_inj (ho.symm.trans (hat a hll'))
  rw [← hol] at hlk
  have hsl1 : SecAt w1 S ol (D.lasts.getD a []) := hsl.kept (fun _ h => h) (fun b _ _ hb => hb1.block b hb)
  clear hsl hx1 h hM hown hism hat hv ho hol hw1 hg hkey
  cases o with
  | some gs =>
    have hls : SecAt w S (some gs) T := hlk
    have hsa : SecAt w1 S (some gs) T := hls.kept (fun _ h => h) (fun b _ _ hb => hb1.block b hb)
    obtain ⟨-, hgs, hln⟩ := hsa
    have hts : (sec T).size = 512 := by rw [sec_size, hln]
    have hrun' : (Instr.lookup 85 (.map (some m)) (.int .i64 (a : Int)) false).run Try.prog w1 = .ok (.pointer (some ⟨gs, 0, none⟩)) w1 := hrun
    clear hlk hls hrun
    go_wp2_with (first
      | (refine wpList_load_row rfl 99 (.tmp 16) rfl gs rfl 99 (sec T) (0, 0) _ hgs Try.underlying99 rfl (by rw [hts]; exact sec_info) ?_)
      | (refine wpList_store_row rfl 99 (.tmp 4) (.tmp 17) rfl g (sec T) rfl rfl 99 Z hnewb (by rw [hts]; exact sec_info) (by rw [hts]; exact hZs) (sec_one T) ?_))
    have hfin := setRow_heap w1 g Z (sec T) _ _ hnewb
    refine bodyPost_ret (v := .agg (sec T)) ?_ rfl ⟨rfl, below_setRow hb1 hgw _⟩
    exact results_cell_row rfl _ _ g 99 (sec T) (0, 0) _ rfl hfin Try.underlying99 rfl (by rw [hts]; exact sec_info)
  | none =>
    have hls : T = D.lasts.getD a [] := hlk
    have hrun' : (Instr.lookup 85 (.map (some m)) (.int .i64 (a : Int)) false).run Try.prog w1 = .ok (.pointer none) w1 := hrun
    rw [← hls] at hsl1
    clear hlk hls hrun
    cases ol with
    | some gs =>
      obtain ⟨-, hgs, hln⟩ := hsl1
      have hts : (sec T).size = 512 := by rw [sec_size, hln]
      have k1' : w1.cell? ⟨gl, a, none⟩ = some (.pointer (some ⟨gs, 0, none⟩)) := k1
      clear k0 k1
      go_wp2_with (first
        | (refine wpList_load_row rfl 99 (.tmp 28) rfl gs rfl 99 (sec T) (0, 0) _ hgs Try.underlying99 rfl (by rw [hts]; exact sec_info) ?_)
        | (refine wpList_store_row rfl 99 (.tmp 4) (.tmp 29) rfl g (sec T) rfl rfl 99 Z hnewb (by rw [hts]; exact sec_info) (by rw [hts]; exact hZs) (sec_one T) ?_))
      have hfin := setRow_heap w1 g Z (sec T) _ _ hnewb
      refine bodyPost_ret (v := .agg (sec T)) ?_ rfl ⟨rfl, below_setRow hb1 hgw _⟩
      exact results_cell_row rfl _ _ g 99 (sec T) (0, 0) _ rfl hfin Try.underlying99 rfl (by rw [hts]; exact sec_info)
    | none =>
      have hT : T = List.replicate 512 0 := hsl1
      have hZT : Z = sec T := by rw [hT]; exact HZ.out
      have k1' : w1.cell? ⟨gl, a, none⟩ = some (.pointer none) := k1
      have hZone : Z.all (·.oneCell') = true := by rw [hZT]; exact sec_one T
      have HZT := Lib.hid hZT
      clear k0 k1 hsl1 hT hZT
      go_wp2_with (first
        | (refine wpList_store_row rfl 99 (.tmp 4) (.tmp 30) rfl g Z rfl rfl 99 Z hnewb (by rw [hZs]; exact sec_info) rfl hZone ?_))
      have hfin := setRow_heap w1 g Z Z _ _ hnewb
      refine bodyPost_ret (v := .agg Z) ?_ rfl ⟨by rw [HZT.out], below_setRow hb1 hgw _⟩
      exact results_cell_row rfl _ _ g 99 Z (0, 0) _ rfl hfin Try.underlying99 rfl (by rw [hZs]; exact sec_info)

set_option maxHeartbeats 2000000 in
/-- Read -/
theorem pRead_any (G S : Nat → Prop) (q : Nat) (D : DS) (i : Int) (w : World) (h : PD w G S q D) (hok : D.ok) (hll : D.lasts.length ≤ 1000000) :
    Calls Try.prog 37 #[.pointer (some ⟨q, 0, none⟩), .int .i64 i] w fun e w' => ∃ v n, e = .returned (.tuple #[v, .int .i64 (D.read i).1]) ∧ n = (D.read i).2.length ∧ w'.ownsRow w.heap.size 99 1 v n (BS (D.read i).2) ∧ Below w.heap.size w w' := by
  have h0 := h
  obtain ⟨vl, vw, m, st, left, ks, pl, pw, h, hm, hM⟩ := h
  obtain ⟨_, _, hvl, -⟩ := RowAt.of_own h.lasts
  have hvl' : ∃ Al cl, vl = .slice Al D.lasts.length cl := ⟨_, _, hvl⟩
  clear hvl
  obtain ⟨Al, cl, rfl⟩ := hvl'
  have c0 : w.cell? ⟨q, 0, none⟩ = some (.slice Al D.lasts.length cl) := (row7 h.cells).1 0
  have c4 : w.cell? ⟨q, 4, none⟩ = some (.bool D.dead) := (row7 h.cells).1 4
  have hf := p_find q D i Al cl w c4 c0
  clear c0 c4 h hm hM
  by_cases hbad : D.dead = true ∨ inside D i = false
  · have hr : D.read i = (if D.dead then 20 else if inside D i then 0 else 1, []) := by
      unfold DS.read
      rcases hbad with h1 | h1
      · rw [h1]; rfl
      · rw [h1]
        cases D.dead <;> rfl
    obtain ⟨R, hR⟩ : ∃ R, R = D.read i := ⟨_, rfl⟩
    rw [← hR] at hr ⊢
    obtain ⟨r, hrr⟩ : ∃ r : Int, r = if D.dead then 20 else if inside D i then 0 else 1 := ⟨_, rfl⟩
    rw [← hrr] at hr hf
    have hne : (r != 0) = true := by
      rw [hrr]
      rcases hbad with h1 | h1
      · rw [h1]; rfl
      · rw [h1]
        cases D.dead <;> rfl
    have HR := Lib.hid hr
    clear hR hr hrr hbad
    go_enter Try.func37, Try.ntmps37
    go_wp2_with fail
    refine hf.mono ?_
    rintro e w1 ⟨rfl, rfl⟩
    go_wp2_with fail
    go_ret2
    rw [HR.out]
    exact ⟨_, _, rfl, rfl, World.ownsRow_nil _ _ _ _, Below.refl _ _⟩
  · have hd : D.dead = false := by
      cases hh : D.dead
      · rfl
      · exact absurd (.inl hh) hbad
    have hi : inside D i = true := by
      cases hh : inside D i
      · exact absurd (.inr hh) hbad
      · rfl
    clear hbad
    have hr : D.read i = (0, look D.lasts D.waits i.toNat) := by unfold DS.read; rw [hd, hi]; rfl
    rw [hd, hi] at hf
    unfold inside at hi
    simp only [Bool.and_eq_true, decide_eq_true_eq] at hi
    obtain ⟨a, rfl⟩ := Int.eq_ofNat_of_zero_le hi.1
    have ha : a < D.lasts.length := by omega
    rw [Int.toNat_natCast] at hr
    have hrd := p_reads G S q D a w h0 ha hll
    have hlen : (look D.lasts D.waits a).length = 512 := look_length hok ha
    obtain ⟨T, hT⟩ : ∃ T, T = look D.lasts D.waits a := ⟨_, rfl⟩
    rw [← hT] at hr hrd hlen
    obtain ⟨R, hR⟩ : ∃ R, R = D.read (a : Int) := ⟨_, rfl⟩
    rw [← hR] at hr ⊢
    have HR := Lib.hid hr
    have hts : (sec T).size = 512 := by rw [sec_size, hlen]
    have hzero := sec_zero
    obtain ⟨Z, hZ⟩ : ∃ Z, Z = sec (List.replicate 512 0) := ⟨_, rfl⟩
    have hZs : Z.size = 512 := by rw [hZ, sec_size, List.length_replicate]
    simp only [← hZ] at hzero
    clear hT hR hr hd hi h0 hZ
    obtain ⟨st, hst⟩ : ∃ st, st = sec T := ⟨_, rfl⟩
    rw [← hst] at hrd hts
    have hst1 : st.all (·.oneCell') = true := by rw [hst]; exact sec_one T
    have HST := Lib.hid hst
    clear hst
    go_enter Try.func37, Try.ntmps37
    go_wp2_with fail
    refine hf.mono ?_
    rintro e w1 ⟨rfl, rfl⟩
    go_wp2_with fail
    refine hrd.mono ?_
    rintro e w1 ⟨rfl, hb1⟩
    have hnewb := heap_alloc_new w1 (.cells Z 99)
    have hb2 := hb1.alloc hb1.size (.cells Z 99)
    have hb1s := hb1.size
    go_wp2_with (first
      | (refine wpList_store_row rfl 99 (.tmp 7) (.tmp 16) rfl w1.heap.size st rfl rfl 99 Z hnewb (by rw [hts]; exact sec_info) (by rw [hts]; exact hZs) hst1 ?_))
    go_ret2
    rw [HR.out]
    have hfin := setRow_heap (w1.alloc (.cells Z 99)) w1.heap.size Z st _ _ hnewb
    refine ⟨_, 512, rfl, hlen.symm, ⟨by rw [BS_length, hlen], .inr ⟨w1.heap.size, 512, st, rfl, hb1s, hfin, Nat.le_refl _, by unfold maxLen; omega, by rw [hts], ?_⟩⟩, below_setRow hb2 hb1s _⟩
    rw [HST.out]
    unfold sec
    rw [List.toList_toArray]
    exact List.take_of_length_le (by rw [BS_length, hlen]; exact Nat.le_refl _)
end Go.Proofs.Ytplpfhgdanclhaa
