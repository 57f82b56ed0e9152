/-
  PRead: The program's own disk: reads, Read. No statement is proved here. No condition.
  PDoes: The program's own disk: Write, Flush. No statement is proved here. No condition.
  PMore: The program's own disk: Crash, Fuse. No statement is proved here. No condition.
  PNew: The program's own disk: New, the clones, Reopen, Copy. No statement is proved here. No condition.
  PCopy: The program's own disk: Copy. No statement is proved here. No condition.
  POne: One disk of the program's own, all of it above some block: each call in a form that the laws take. No statement is proved here. No condition.
-/
import Derived.Test.YtlokehekkllbeaaPA
import Derived.Lib.SliceRun
namespace Go.Proofs.Ytlokehekkllbeaa
open Go.RowKit Go.Maps

theorem look_length {D : DS} (hok : D.ok) {a : Nat} (ha : a < D.lasts.length) : (look D.lasts D.waits a).length = 512 := by
  suffices H : ∀ (ws : List (Nat × List UInt8)) (t : List UInt8), (∀ x ∈ ws, x.2.length = 512) → t.length = 512 → (ws.foldl (fun s x => if x.1 = a then x.2 else s) t).length = 512 by
    refine H D.waits _ (fun x hx => (hok.1 x hx).2) ?_
    have : D.lasts.getD a [] = D.lasts[a] := by simp [List.getD, ha]
    rw [this]
    exact hok.2 _ (List.getElem_mem ha)
  intro ws
  induction ws with
  | nil => intro t _ ht; exact ht
  | cons x ws ih =>
    intro t hx ht
    refine ih _ (fun y hy => hx y (by simp [hy])) ?_
    by_cases hxa : x.1 = a
    · simp only [if_pos hxa]; exact hx x (by simp)
    · simp only [if_neg hxa]; exact ht

set_option maxHeartbeats 2000000 in
theorem p_reads (G S : Nat → Prop) (q : Nat) (D : DS) (a : Nat) (w : World) (h : PD w G S q D) (ha : a < D.lasts.length) (hll : D.lasts.length ≤ 1000000) :
    Calls Try.prog 43 #[.pointer (some ⟨q, 0, none⟩), .int .i64 (a : Int)] w fun e w' => e = .returned (.agg (sec (look D.lasts D.waits a))) ∧ Below w.heap.size w w' := by
  obtain ⟨vl, vw, m, st, left, ks, pl, pw, h, hm, hM⟩ := h
  have hq := h.lt
  have hzero := sec_zero
  have hpz : ∀ W, (zeroValue 90).run Try.prog W = .ok (.pointer none) W := fun W => by
    obtain ⟨i, h1, h2, _⟩ := info_parts info_P
    simp [zeroValue, typeInfo, h1, h2]
  obtain ⟨Z, hZ⟩ : ∃ Z, Z = sec (List.replicate 512 0) := ⟨_, rfl⟩
  have hZs : Z.size = 512 := by rw [hZ, sec_size, List.length_replicate]
  simp only [← hZ] at hzero
  have hnewb := heap_alloc_new w (.cells Z 85)
  have hb1 := Below.alloc (Below.refl w.heap.size w) (Nat.le_refl _) (.cells Z 85)
  have HZ := Lib.hid hZ
  have hlk := h.wts.look D.lasts a
  obtain ⟨_, _, hvl, -⟩ := RowAt.of_own h.lasts
  have hvl' : ∃ Al cl, vl = .slice Al D.lasts.length cl := ⟨_, _, hvl⟩
  clear hvl
  obtain ⟨Al, cl, rfl⟩ := hvl'
  obtain ⟨gl, cl', hvl, -, hgl⟩ := h.lasts.form (by omega)
  injection hvl with e1 _ e2
  subst e1
  subst e2
  have hpll := h.secs.1
  have hpa : pl[a]? = some (pl[a]'(by omega)) := List.getElem?_eq_getElem (by omega)
  have hLa : D.lasts[a]? = some D.lasts[a] := List.getElem?_eq_getElem ha
  have hsl := h.secs.2 a _ _ hpa hLa
  have hgd : D.lasts.getD a [] = D.lasts[a] := by simp [List.getD, ha]
  obtain ⟨ol, hol⟩ : ∃ ol, ol = pl[a]'(by omega) := ⟨_, rfl⟩
  rw [← hol] at hpa hsl
  rw [← hgd] at hsl
  have k0 : w.cell? ⟨gl, a, none⟩ = some (ptr ol) := (h.lasts.cellAt a (by omega)).trans (PS_get hpa)
  clear hZ hol hpa hLa hgd hpll
  have a0 : (0 : Int) ≤ (a : Int) := by omega
  have a1 : (a : Int) < (D.lasts.length : Int) := by omega
  obtain ⟨T, hT⟩ : ∃ T, T = look D.lasts D.waits a := ⟨_, rfl⟩
  rw [← hT] at hlk ⊢
  clear hT
  go_enter Try.func43, Try.ntmps43
  go_upto_region 1 with fail
  obtain ⟨g, hg⟩ : ∃ g, g = w.heap.size := ⟨_, rfl⟩
  have hgw : w.heap.size ≤ g := by omega
  rw [← hg] at hnewb ⊢
  obtain ⟨w1, hw1⟩ : ∃ w1, w1 = w.alloc (.cells Z 85) := ⟨_, rfl⟩
  rw [← hw1] at hb1 hnewb ⊢
  have hx1 : PR w1 G S q D (.slice (some ⟨gl, 0, none⟩) D.lasts.length cl) vw (.map (some m)) st left ks pl pw := h.kept (fun _ h => h) (fun _ h => h) (fun b hb _ => hb1.block b hb) (fun b _ _ hb => hb1.block b hb)
  have hM1 : MapAt w1 m D.waits.length pw := hM.same (hb1.block m hM.lt)
  have k1 : w1.cell? ⟨gl, a, none⟩ = some (ptr ol) := (hb1.cell (p := ⟨gl, a, none⟩) hgl).trans k0
  have c0 : w1.cell? ⟨q, 0, none⟩ = some (.slice (some ⟨gl, 0, none⟩) D.lasts.length cl) := (row7 hx1.cells).1 0
  have c2 : w1.cell? ⟨q, 2, none⟩ = some (.map (some m)) := (row7 hx1.cells).1 2
  obtain ⟨Dm, hown, hism, hat⟩ := hM1
  have hll' : a < 9223372036854775808 := by omega
  have hkey := key_i64 hll'
  obtain ⟨v, ps, hrun, hv⟩ := hown.lookup law_int Try.underlying75 (hpz w1) (zd := .nil) (zp := []) rfl hkey
  obtain ⟨o, rfl, ho⟩ := Rp_inv hv
  have hol : o = lastOf pw a := encp_inj (ho.symm.trans (hat a hll'))
  rw [← hol] at hlk
  have hsl1 : SecAt w1 S ol (D.lasts.getD a []) := hsl.kept (fun _ h => h) (fun b _ _ hb => hb1.block b hb)
  clear hsl hx1 h hM hown hism hat hv ho hol hw1 hg hkey
  cases o with
  | some gs =>
    have hls : SecAt w S (some gs) T := hlk
    have hsa : SecAt w1 S (some gs) T := hls.kept (fun _ h => h) (fun b _ _ hb => hb1.block b hb)
    obtain ⟨-, hgs, hln⟩ := hsa
    have hts : (sec T).size = 512 := by rw [sec_size, hln]
    have hrun' : (Instr.lookup 75 (.map (some m)) (.int .i64 (a : Int)) false).run Try.prog w1 = .ok (.pointer (some ⟨gs, 0, none⟩)) w1 := hrun
    clear hlk hls hrun
    go_wp2_with (first
      | (refine wpList_load_row rfl 85 (.tmp 16) rfl gs rfl 85 (sec T) (0, 0) _ hgs Try.underlying85 rfl (by rw [hts]; exact sec_info) ?_)
      | (refine wpList_store_row rfl 85 (.tmp 4) (.tmp 17) rfl g (sec T) rfl rfl 85 Z hnewb (by rw [hts]; exact sec_info) (by rw [hts]; exact hZs) (sec_one T) ?_))
    have hfin := setRow_heap w1 g Z (sec T) _ _ hnewb
    refine bodyPost_ret (v := .agg (sec T)) ?_ rfl ⟨rfl, below_setRow hb1 hgw _⟩
    exact results_cell_row rfl _ _ g 85 (sec T) (0, 0) _ rfl hfin Try.underlying85 rfl (by rw [hts]; exact sec_info)
  | none =>
    have hls : T = D.lasts.getD a [] := hlk
    have hrun' : (Instr.lookup 75 (.map (some m)) (.int .i64 (a : Int)) false).run Try.prog w1 = .ok (.pointer none) w1 := hrun
    rw [← hls] at hsl1
    clear hlk hls hrun
    cases ol with
    | some gs =>
      obtain ⟨-, hgs, hln⟩ := hsl1
      have hts : (sec T).size = 512 := by rw [sec_size, hln]
      have k1' : w1.cell? ⟨gl, a, none⟩ = some (.pointer (some ⟨gs, 0, none⟩)) := k1
      clear k0 k1
      go_wp2_with (first
        | (refine wpList_load_row rfl 85 (.tmp 28) rfl gs rfl 85 (sec T) (0, 0) _ hgs Try.underlying85 rfl (by rw [hts]; exact sec_info) ?_)
        | (refine wpList_store_row rfl 85 (.tmp 4) (.tmp 29) rfl g (sec T) rfl rfl 85 Z hnewb (by rw [hts]; exact sec_info) (by rw [hts]; exact hZs) (sec_one T) ?_))
      have hfin := setRow_heap w1 g Z (sec T) _ _ hnewb
      refine bodyPost_ret (v := .agg (sec T)) ?_ rfl ⟨rfl, below_setRow hb1 hgw _⟩
      exact results_cell_row rfl _ _ g 85 (sec T) (0, 0) _ rfl hfin Try.underlying85 rfl (by rw [hts]; exact sec_info)
    | none =>
      have hT : T = List.replicate 512 0 := hsl1
      have hZT : Z = sec T := by rw [hT]; exact HZ.out
      have k1' : w1.cell? ⟨gl, a, none⟩ = some (.pointer none) := k1
      have hZone : Z.all (·.oneCell') = true := by rw [hZT]; exact sec_one T
      have HZT := Lib.hid hZT
      clear k0 k1 hsl1 hT hZT
      go_wp2_with (first
        | (refine wpList_store_row rfl 85 (.tmp 4) (.tmp 30) rfl g Z rfl rfl 85 Z hnewb (by rw [hZs]; exact sec_info) rfl hZone ?_))
      have hfin := setRow_heap w1 g Z Z _ _ hnewb
      refine bodyPost_ret (v := .agg Z) ?_ rfl ⟨by rw [HZT.out], below_setRow hb1 hgw _⟩
      exact results_cell_row rfl _ _ g 85 Z (0, 0) _ rfl hfin Try.underlying85 rfl (by rw [hZs]; exact sec_info)

set_option maxHeartbeats 2000000 in
/-- Read -/
theorem pRead_any (G S : Nat → Prop) (q : Nat) (D : DS) (i : Int) (w : World) (h : PD w G S q D) (hok : D.ok) (hll : D.lasts.length ≤ 1000000) :
    Calls Try.prog 26 #[.pointer (some ⟨q, 0, none⟩), .int .i64 i] w fun e w' => ∃ v n, e = .returned (.tuple #[v, .int .i64 (D.read i).1]) ∧ n = (D.read i).2.length ∧ w'.ownsRow w.heap.size 85 1 v n (BS (D.read i).2) ∧ Below w.heap.size w w' := by
  have h0 := h
  obtain ⟨vl, vw, m, st, left, ks, pl, pw, h, hm, hM⟩ := h
  obtain ⟨_, _, hvl, -⟩ := RowAt.of_own h.lasts
  have hvl' : ∃ Al cl, vl = .slice Al D.lasts.length cl := ⟨_, _, hvl⟩
  clear hvl
  obtain ⟨Al, cl, rfl⟩ := hvl'
  have c0 : w.cell? ⟨q, 0, none⟩ = some (.slice Al D.lasts.length cl) := (row7 h.cells).1 0
  have c4 : w.cell? ⟨q, 4, none⟩ = some (.bool D.dead) := (row7 h.cells).1 4
  have hf := p_find q D i Al cl w c4 c0
  clear c0 c4 h hm hM
  by_cases hbad : D.dead = true ∨ inside D i = false
  · have hr : D.read i = (if D.dead then 20 else if inside D i then 0 else 1, []) := by
      unfold DS.read
      rcases hbad with h1 | h1
      · rw [h1]; rfl
      · rw [h1]
        cases D.dead <;> rfl
    obtain ⟨R, hR⟩ : ∃ R, R = D.read i := ⟨_, rfl⟩
    rw [← hR] at hr ⊢
    obtain ⟨r, hrr⟩ : ∃ r : Int, r = if D.dead then 20 else if inside D i then 0 else 1 := ⟨_, rfl⟩
    rw [← hrr] at hr hf
    have hne : (r != 0) = true := by
      rw [hrr]
      rcases hbad with h1 | h1
      · rw [h1]; rfl
      · rw [h1]
        cases D.dead <;> rfl
    have HR := Lib.hid hr
    clear hR hr hrr hbad
    go_enter Try.func26, Try.ntmps26
    go_wp2_with fail
    refine hf.mono ?_
    rintro e w1 ⟨rfl, rfl⟩
    go_wp2_with fail
    go_ret2
    rw [HR.out]
    exact ⟨_, _, rfl, rfl, World.ownsRow_nil _ _ _ _, Below.refl _ _⟩
  · have hd : D.dead = false := by
      cases hh : D.dead
      · rfl
      · exact absurd (.inl hh) hbad
    have hi : inside D i = true := by
      cases hh : inside D i
      · exact absurd (.inr hh) hbad
      · rfl
    clear hbad
    have hr : D.read i = (0, look D.lasts D.waits i.toNat) := by unfold DS.read; rw [hd, hi]; rfl
    rw [hd, hi] at hf
    unfold inside at hi
    simp only [Bool.and_eq_true, decide_eq_true_eq] at hi
    obtain ⟨a, rfl⟩ := Int.eq_ofNat_of_zero_le hi.1
    have ha : a < D.lasts.length := by omega
    rw [Int.toNat_natCast] at hr
    have hrd := p_reads G S q D a w h0 ha hll
    have hlen : (look D.lasts D.waits a).length = 512 := look_length hok ha
    obtain ⟨T, hT⟩ : ∃ T, T = look D.lasts D.waits a := ⟨_, rfl⟩
    rw [← hT] at hr hrd hlen
    obtain ⟨R, hR⟩ : ∃ R, R = D.read (a : Int) := ⟨_, rfl⟩
    rw [← hR] at hr ⊢
    have HR := Lib.hid hr
    have hts : (sec T).size = 512 := by rw [sec_size, hlen]
    have hzero := sec_zero
    obtain ⟨Z, hZ⟩ : ∃ Z, Z = sec (List.replicate 512 0) := ⟨_, rfl⟩
    have hZs : Z.size = 512 := by rw [hZ, sec_size, List.length_replicate]
    simp only [← hZ] at hzero
    clear hT hR hr hd hi h0 hZ
    obtain ⟨st, hst⟩ : ∃ st, st = sec T := ⟨_, rfl⟩
    rw [← hst] at hrd hts
    have hst1 : st.all (·.oneCell') = true := by rw [hst]; exact sec_one T
    have HST := Lib.hid hst
    clear hst
    go_enter Try.func26, Try.ntmps26
    go_wp2_with fail
    refine hf.mono ?_
    rintro e w1 ⟨rfl, rfl⟩
    go_wp2_with fail
    refine hrd.mono ?_
    rintro e w1 ⟨rfl, hb1⟩
    have hnewb := heap_alloc_new w1 (.cells Z 85)
    have hb2 := hb1.alloc hb1.size (.cells Z 85)
    have hb1s := hb1.size
    go_wp2_with (first
      | (refine wpList_store_row rfl 85 (.tmp 7) (.tmp 16) rfl w1.heap.size st rfl rfl 85 Z hnewb (by rw [hts]; exact sec_info) (by rw [hts]; exact hZs) hst1 ?_))
    go_ret2
    rw [HR.out]
    have hfin := setRow_heap (w1.alloc (.cells Z 85)) w1.heap.size Z st _ _ hnewb
    refine ⟨_, 512, rfl, hlen.symm, ⟨by rw [BS_length, hlen], .inr ⟨w1.heap.size, 512, st, rfl, hb1s, hfin, Nat.le_refl _, by unfold maxLen; omega, by rw [hts], ?_⟩⟩, below_setRow hb2 hb1s _⟩
    rw [HST.out]
    unfold sec
    rw [List.toList_toArray]
    exact List.take_of_length_le (by rw [BS_length, hlen]; exact Nat.le_refl _)
end Go.Proofs.Ytlokehekkllbeaa
namespace Go.Proofs.Ytlokehekkllbeaa
open Go.RowKit Go.Maps

theorem More.both {G : Nat → Prop} {a b c : World} (h1 : a.heap.size ≤ b.heap.size) (h2 : b.heap.size ≤ c.heap.size) : ∀ n, More (More G a b) b c n → More G a c n := by
  intro n h
  rcases h with (h | h) | h
  · exact .inl h
  · exact .inr ⟨h.1, by omega⟩
  · exact .inr ⟨by omega, h.2⟩
theorem More.trans {G : Nat → Prop} {a b : World} : ∀ n, More G a b n → n < a.heap.size → G n := fun n h hs => h.elim id fun h => absurd h.1 (by omega)

set_option maxHeartbeats 2000000 in
theorem pWrite_any (G S : Nat → Prop) (q : Nat) (D : DS) (i : Int) (v : Value) (s : List UInt8) (w : World) (h : PD w G S q D) (hv : Rd w w.heap.size v s) (hF : Fine D) :
    Calls Try.prog 18 #[.pointer (some ⟨q, 0, none⟩), .int .i64 i, v] w fun e w' => e = .returned (.int .i64 (D.write i s).1) ∧ Kept w w' (Mut G w) ∧ PD w' (More G w w') (More S w w') q (D.write i s).2 := by
  have h0 := h
  obtain ⟨vl, vw, m, st, left, ks, pl, pw, h, hm, hM⟩ := h
  obtain ⟨_, _, hvl, -⟩ := RowAt.of_own h.lasts
  have hvl' : ∃ Al cl, vl = .slice Al D.lasts.length cl := ⟨_, _, hvl⟩
  clear hvl
  obtain ⟨Al, cl, rfl⟩ := hvl'
  have c0 : w.cell? ⟨q, 0, none⟩ = some (.slice Al D.lasts.length cl) := (row7 h.cells).1 0
  have c4 : w.cell? ⟨q, 4, none⟩ = some (.bool D.dead) := (row7 h.cells).1 4
  have hf := p_find q D i Al cl w c4 c0
  clear c0 c4 h hm hM
  have hv0 := hv
  obtain ⟨A, c, rfl, h1, h2, h3, -⟩ := hv
  have H0 := Lib.hid h0
  by_cases hbad : D.dead = true ∨ inside D i = false
  · obtain ⟨r, hrr⟩ : ∃ r : Int, r = if D.dead then 20 else if inside D i then 0 else 1 := ⟨_, rfl⟩
    have hr : D.write i s = (r, D) := by
      unfold DS.write
      rw [hrr]
      rcases hbad with h1 | h1
      · rw [h1]; rfl
      · rw [h1]
        cases D.dead <;> rfl
    rw [hr]
    rw [← hrr] at hf
    have hne : (r != 0) = true := by
      rw [hrr]
      rcases hbad with h1 | h1
      · rw [h1]; rfl
      · rw [h1]
        cases D.dead <;> rfl
    clear hr hrr hbad h0 hv0
    go_enter Try.func18, Try.ntmps18
    go_wp2_with fail
    refine hf.mono ?_
    rintro e w1 ⟨rfl, rfl⟩
    go_wp2_with fail
    go_ret
    exact ⟨rfl, Kept.refl _ _, H0.out.mono More.here More.here⟩
  · have hd : D.dead = false := by
      cases hh : D.dead
      · rfl
      · exact absurd (.inl hh) hbad
    have hi : inside D i = true := by
      cases hh : inside D i
      · exact absurd (.inr hh) hbad
      · rfl
    clear hbad
    by_cases hl : s.length = 512
    · have hr : D.write i s = (if D.fuse = some 0 then (20, (D.wrote i.toNat s).crash D.keep) else (0, (D.wrote i.toNat s).tick)) := by
        unfold DS.write
        rw [hd, hi, decide_eq_true hl]
        rfl
      rw [hd, hi] at hf
      unfold inside at hi
      simp only [Bool.and_eq_true, decide_eq_true_eq] at hi
      obtain ⟨a, rfl⟩ := Int.eq_ofNat_of_zero_le hi.1
      have ha : a < D.lasts.length := by omega
      rw [Int.toNat_natCast] at hr
      have hwt := p_wait G S q D a _ s w h0 hl hv0 ha hF.waits hF.lasts
      have hne : ((s.length : Int) != 512) = false := by rw [hl]; rfl
      have hok1 := DS.ok_wrote hF.ok ha hl
      obtain ⟨R, hR⟩ : ∃ R, R = D.write (a : Int) s := ⟨_, rfl⟩
      rw [← hR] at hr ⊢
      have HR := Lib.hid hr
      have HOK := Lib.hid hok1
      have HD := Lib.hid hd
      have hwl : (D.wrote a s).waits.length ≤ 1000000 := by
        have := hF.waits
        show (D.waits ++ [(a, s)]).length ≤ 1000000
        rw [List.length_append]
        simp
        omega
      clear hR hr hd hi h0 hv0 hok1 hl
      go_enter Try.func18, Try.ntmps18
      go_wp2_with fail
      refine hf.mono ?_
      rintro e w1 ⟨rfl, rfl⟩
      go_wp2_with fail
      refine hwt.mono ?_
      rintro e w2 ⟨rfl, hk2, hx2⟩
      go_wp2_with fail
      refine (p_step (More G w w2) (More S w w2) q (D.wrote a s) w2 hx2 HD.out (fun x hx => (HOK.out.1 x hx).1) hF.done hwl hF.lasts).mono ?_
      rintro e w3 ⟨rfl, hk3, hx3⟩
      have hk2s := hk2.size
      have hk3s := hk3.size
      have hk := hk2.transM hk3 More.trans
      have hwf : (D.wrote a s).fuse = D.fuse := rfl
      have hwk : (D.wrote a s).keep = D.keep := rfl
      rw [hwf, hwk] at hx3
      rw [hwf]
      by_cases hfu : D.fuse = some 0
      · rw [if_pos hfu] at hx3 ⊢
        have HFU := Lib.hid hfu
        clear hfu
        go_wp2_with fail
        go_ret
        rw [HR.out, if_pos HFU.out]
        exact ⟨rfl, hk, hx3.mono (More.both hk2s hk3s) (fun b hb => hb.elim .inl fun hb => .inr ⟨hb.1, by omega⟩)⟩
      · rw [if_neg hfu] at hx3 ⊢
        have HFU := Lib.hid hfu
        clear hfu
        go_wp2_with fail
        go_ret
        rw [HR.out, if_neg HFU.out]
        exact ⟨rfl, hk, hx3.mono (More.both hk2s hk3s) (fun b hb => hb.elim .inl fun hb => .inr ⟨hb.1, by omega⟩)⟩
    · have hr : D.write i s = (1, D) := by
        unfold DS.write
        rw [hd, hi, decide_eq_false hl]
        rfl
      rw [hr]
      rw [hd, hi] at hf
      have hne : ((s.length : Int) != 512) = true := by simp; omega
      clear hr hd hi h0 hv0 hl
      go_enter Try.func18, Try.ntmps18
      go_wp2_with fail
      refine hf.mono ?_
      rintro e w1 ⟨rfl, rfl⟩
      go_wp2_with fail
      go_ret
      exact ⟨rfl, Kept.refl _ _, H0.out.mono More.here More.here⟩

set_option maxHeartbeats 2000000 in
theorem pFlush_any (G S : Nat → Prop) (q : Nat) (D : DS) (w : World) (h : PD w G S q D) (hF : Fine D) :
    Calls Try.prog 34 #[.pointer (some ⟨q, 0, none⟩)] w fun e w' => e = .returned (.int .i64 D.flush.1) ∧ Kept w w' (Mut G w) ∧ PD w' (More G w w') (More S w w') q D.flush.2 := by
  have h0 := h
  obtain ⟨vl, vw, m, st, left, ks, pl, pw, h, hm, hM⟩ := h
  have c4 : w.cell? ⟨q, 4, none⟩ = some (.bool D.dead) := (row7 h.cells).1 4
  have hlv := p_live q D.dead w c4
  clear c4 h hm hM
  have H0 := Lib.hid h0
  cases hd : D.dead with
  | true =>
    have hr : D.flush = (20, D) := by unfold DS.flush; rw [hd]; rfl
    rw [hr]
    rw [hd] at hlv
    clear hr hd h0
    go_enter Try.func34, Try.ntmps34
    go_wp2_with fail
    refine hlv.mono ?_
    rintro e w1 ⟨rfl, rfl⟩
    go_wp2_with fail
    go_ret
    exact ⟨rfl, Kept.refl _ _, H0.out.mono More.here More.here⟩
  | false =>
    have hr : D.flush = (if D.fuse = some 0 then (20, D.crash D.keep) else (0, D.tick.flushed)) := by unfold DS.flush; rw [hd]; rfl
    rw [hd] at hlv
    have hwl : D.waits.length ≤ 1000000 := Nat.le_of_lt hF.waits
    have hin : ∀ x ∈ D.waits, x.1 < D.lasts.length := fun x hx => (hF.ok.1 x hx).1
    have hstep := p_step G S q D w h0 hd hin hF.done hwl hF.lasts
    obtain ⟨R, hR⟩ : ∃ R, R = D.flush := ⟨_, rfl⟩
    rw [← hR] at hr ⊢
    have HR := Lib.hid hr
    clear hR hr hd h0
    go_enter Try.func34, Try.ntmps34
    go_wp2_with fail
    refine hlv.mono ?_
    rintro e w1 ⟨rfl, rfl⟩
    go_wp2_with fail
    refine hstep.mono ?_
    rintro e w2 ⟨rfl, hk2, hx2⟩
    have hk2s := hk2.size
    by_cases hfu : D.fuse = some 0
    · rw [if_pos hfu] at hx2 ⊢
      have HFU := Lib.hid hfu
      clear hfu
      go_wp2_with fail
      go_ret
      rw [HR.out, if_pos HFU.out]
      exact ⟨rfl, hk2, hx2.mono (fun _ h => h) More.here⟩
    · rw [if_neg hfu] at hx2 ⊢
      have HFU := Lib.hid hfu
      obtain ⟨vl2, vw2, m2, st2, l2, ks2, pl2, pw2, hx2, hm2, hM2⟩ := hx2
      clear hfu
      go_wp2_with fail
      refine (p_settle (More G w w2) S q D.tick vl2 vw2 _ st2 l2 ks2 pl2 pw2 w2 hx2 hin hwl hF.lasts).mono ?_
      rintro e w3 ⟨rfl, hk3, hx3⟩
      have hk3s := hk3.size
      go_wp2_with fail
      go_ret
      rw [HR.out, if_neg HFU.out]
      exact ⟨rfl, hk2.transM hk3 More.trans, hx3.mono (More.both hk2s hk3s) More.here⟩
end Go.Proofs.Ytlokehekkllbeaa
namespace Go.Proofs.Ytlokehekkllbeaa
open Go.RowKit Go.Maps

theorem RowAt.till {w : World} {A : Option Addr} {c : Nat} {kl : List Bool} (h : RowAt w (.slice A kl.length c) kl.length 1 (KS kl)) (k : Nat) (hk : k ≤ kl.length) : RowAt w (.slice A k c) (kl.take k).length 1 (KS (kl.take k)) := by
  obtain ⟨A', c', he, h1, h2, h3, h4, h5⟩ := h
  injection he with e1 _ e2
  subst e1
  subst e2
  have hl : (kl.take k).length = k := by rw [List.length_take]; omega
  rw [hl]
  refine ⟨A, c, rfl, ?_, by omega, h3, h4, fun hn => ?_⟩
  · unfold KS; rw [List.length_map, hl, Nat.mul_one]
  · obtain ⟨b, o, rfl, hc⟩ := h5 (by omega)
    refine ⟨b, o, rfl, fun j u hu => hc j u ?_⟩
    unfold KS at hu ⊢
    rw [List.getElem?_map, List.getElem?_take] at hu
    rw [List.getElem?_map]
    by_cases hj : j < k
    · rw [if_pos hj] at hu; exact hu
    · rw [if_neg hj] at hu; cases hu
theorem keptOf_till (ws : List (Nat × List UInt8)) (kl : List Bool) {k : Nat} (hk : k = min kl.length ws.length) : keptOf ws (kl.take k) = keptOf ws kl := by
  have h0 := keptOf_all ws kl (k := k) (by omega)
  have h1 := keptOf_all ws (kl.take k) (k := k) (by rw [List.length_take]; omega)
  rw [List.take_take, Nat.min_self] at h1
  rw [← h1, h0]

end Go.Proofs.Ytlokehekkllbeaa
namespace Go.Proofs.Ytlokehekkllbeaa
open Go.RowKit Go.Maps

theorem RowAt.grow {w w' : World} {v : Value} {n size : Nat} {xs : List Value} (h : RowAt w v n size xs) (hb : Below w.heap.size w w') : RowAt w' v n size xs := by
  obtain ⟨A, c, rfl, h1, h2, h3, h4, h5⟩ := h
  refine ⟨A, c, rfl, h1, h2, h3, h4, fun hn => ?_⟩
  obtain ⟨b, o, rfl, hc⟩ := h5 hn
  exact ⟨b, o, rfl, fun j u hu => (hb.cell (p := ⟨b, o + j, none⟩) (World.block_lt_of_cell? w _ (hc j u hu))).trans (hc j u hu)⟩

/-- a new disk's head -/
def headOf (v : Value) (m : Nat) : Obj := .cells #[v, .slice none 0 0, .map (some m), .int .i64 0, .bool false, .bool false, .int .i64 0, .string ByteArray.empty] 80 (0, 0)
theorem p_of (A : Option Addr) (n c : Nat) (w : World) :
    Calls Try.prog 20 #[.slice A n c] w fun e w' => e = .returned (.pointer (some ⟨w.heap.size + 1, 0, none⟩)) ∧ w' = (w.alloc (.map #[] 0)).alloc (headOf (.slice A n c) w.heap.size) := by
  have hmm := run_makeMap (P := Try.prog) 75 w
  go_enter Try.func20, Try.ntmps20
  go_wp2_with fail
  go_ret
  exact ⟨by first | rfl | simp, by unfold headOf; first | rfl | simp⟩

/-- what lies behind of: a disk -/
theorem PD.of {w : World} {S : Nat → Prop} {base : Nat} {v : Value} {L : List (List UInt8)} {pl : List (Option Nat)} (h : w.ownsRow base 90 1 v L.length (PS pl)) (hs : Secs w S pl L) :
    PD ((w.alloc (.map #[] 0)).alloc (headOf v w.heap.size)) (fun b => (base ≤ b ∧ b < w.heap.size) ∨ (w.heap.size ≤ b ∧ b < w.heap.size + 2)) S (w.heap.size + 1) ⟨L, [], 0, false, none, []⟩ := by
  have hb : Below w.heap.size w ((w.alloc (.map #[] 0)).alloc (headOf v w.heap.size)) := ((Below.refl _ _).alloc (Nat.le_refl _) _).alloc (by simp) _
  have hz : (w.alloc (.map #[] 0)).heap.size = w.heap.size + 1 := by simp
  refine ⟨v, .slice none 0 0, w.heap.size, false, 0, ByteArray.empty, pl, [], ⟨.inr ⟨by omega, by omega⟩, ?_, fun _ => ⟨fun _ => ⟨rfl, rfl, rfl⟩, fun k hk => by cases hk⟩, own_eq (row_same h fun b hb' => hb.block b (h.lt b hb').2) rfl rfl (Nat.zero_le _), fun b hb' => .inl (h.lt b hb'), World.ownsRow_nil _ _ _ _, (fun b hb' => by cases hb'), hs.kept (fun _ h => h) (fun b _ _ hb' => hb.block b hb'), Wts.nil _ _⟩, .inr ⟨Nat.le_refl _, by omega⟩, ?_⟩
  · have := heap_alloc_new (w.alloc (.map #[] 0)) (headOf v w.heap.size)
    rw [hz] at this
    exact this
  · exact (MapAt.made w).same (Below.heap_alloc _ _ _ (by omega))

theorem made_ptrs (n : Nat) (hn : n ≤ 65536) (w : World) : ∃ w', (Instr.makeSlice 55 (.int .i64 (n : Int)) (.int .i64 (n : Int))).run Try.prog w = .ok (.slice (some ⟨w.heap.size, 0, none⟩) n n) w' ∧ w'.ownsRow w.heap.size 90 1 (.slice (some ⟨w.heap.size, 0, none⟩) n n) n (PS (List.replicate n none)) ∧ Below w.heap.size w w' := by
  obtain ⟨i0, hi, hz0, hz1, hz2⟩ := info_parts info_P
  obtain ⟨w', h1, h2, h3⟩ := run_make_full (P := Try.prog) w w.heap.size 55 90 i0 _ 1 Try.underlying55 hi hz0 hz1 .i64 .i64 n (by rw [hz2]; omega) (by unfold maxLen; omega) (Nat.le_refl _)
  have hBS : (madeCells (Value.pointer none).cells (n * 1)).toList = PS (List.replicate n none) := by
    show (madeCells #[Value.pointer none] (n * 1)).toList = _
    rw [toList_madeCells_one]
    unfold PS
    rw [List.map_replicate, Nat.mul_one]
    rfl
  rw [hBS] at h2
  exact ⟨w', h1, h2, (Below.refl _ _).grown h3 (Nat.le_refl _) (fun k h => by cases h)⟩

/-- no block -/
def Nil : Nat → Prop := fun _ => False

theorem pNew_no (n : Int) (w : World) (hn : n < 1 ∨ (65536 : Int) < n) :
    Calls Try.prog 4 #[.int .i64 n] w fun e w' => e = .returned (.tuple #[.pointer none, .int .i64 1]) ∧ w = w' := by
  have key : n < 1 ∨ (¬ n < 1 ∧ (65536 : Int) < n) := by omega
  clear hn
  rcases key with n1 | ⟨n1, n2⟩
  all_goals
    go_enter Try.func4, Try.ntmps4
    go_wp2_with fail
    go_ret2
    exact ⟨rfl, rfl⟩

set_option maxHeartbeats 1000000 in
theorem pNew_yes (n : Nat) (w : World) (hn1 : 1 ≤ n) (hn2 : n ≤ 65536) :
    Calls Try.prog 4 #[.int .i64 (n : Int)] w fun e w' => Below w.heap.size w w' ∧ ∃ q, e = .returned (.tuple #[.pointer (some ⟨q, 0, none⟩), .int .i64 0]) ∧ PD w' (Made w w') Nil q (DS.new n) := by
  have n1 : ¬ (n : Int) < 1 := by omega
  have n2 : ¬ (65536 : Int) < (n : Int) := by omega
  obtain ⟨w1, hmk, ho1, hb1⟩ := made_ptrs n hn2 w
  obtain ⟨g, hg⟩ : ∃ g, g = w.heap.size := ⟨_, rfl⟩
  rw [← hg] at hmk ho1
  have HG := Lib.hid hg
  have HO1 := Lib.hid ho1
  clear hg ho1
  go_enter Try.func4, Try.ntmps4
  go_wp2_with fail
  refine (p_of (some ⟨g, 0, none⟩) n n w1).mono ?_
  rintro e w2 ⟨rfl, rfl⟩
  go_wp2_with fail
  go_ret2
  have hL : (List.replicate n (List.replicate 512 (0 : UInt8))).length = n := List.length_replicate
  have hs : Secs w1 Nil (List.replicate n none) (List.replicate n (List.replicate 512 (0 : UInt8))) := by
    refine ⟨by rw [List.length_replicate, List.length_replicate], fun i o s h1 h2 => ?_⟩
    have e1 := (List.mem_replicate.1 (List.mem_of_getElem? h1)).2
    have e2 := (List.mem_replicate.1 (List.mem_of_getElem? h2)).2
    rw [e1]
    exact e2
  have hpd := PD.of (own_eq HO1.out hL.symm rfl (Nat.le_refl _)) hs
  have hz := hb1.size
  have hG := HG.out
  refine ⟨(hb1.alloc hz _).alloc (by simp; omega) _, _, rfl, hpd.mono (fun b hb => ?_) (fun _ h => h)⟩
  show w.heap.size ≤ b ∧ b < _
  simp
  rcases hb with hb | hb <;> omega

end Go.Proofs.Ytlokehekkllbeaa
namespace Go.Proofs.Ytlokehekkllbeaa
open Go.RowKit Go.Maps

end Go.Proofs.Ytlokehekkllbeaa
namespace Go.Proofs.Ytlokehekkllbeaa
open Go.RowKit Go.Maps

/-- a disk that has seen at most k calls -/
structure Fit (D : DS) (k : Nat) : Prop where
  ok : D.ok
  done : D.done ≤ k
  waits : D.waits.length ≤ k
  lasts : D.lasts.length ≤ 65536
  keep : D.keep.length ≤ 140737488355328
theorem Fit.fine {D : DS} {k : Nat} (h : Fit D k) (hk : k < 1000000) : Fine D := ⟨h.ok, by have := h.done; omega, by have := h.waits; omega, by have := h.lasts; omega, h.keep⟩
theorem Fit.mono {D : DS} {k j : Nat} (h : Fit D k) (hk : k ≤ j) : Fit D j := ⟨h.ok, Nat.le_trans h.done hk, Nat.le_trans h.waits hk, h.lasts, h.keep⟩
theorem Fit.new {n : Nat} (hn : n ≤ 65536) : Fit (DS.new n) 0 := ⟨DS.ok_new n, Nat.le_refl _, Nat.le_refl _, by unfold DS.new; rw [List.length_replicate]; exact hn, by unfold DS.new; simp⟩
theorem Fit.crash {D : DS} {k : Nat} (h : Fit D k) (kl : List Bool) : Fit (D.crash kl) k := ⟨DS.ok_crash h.ok kl, h.done, Nat.zero_le _, by unfold DS.crash; rw [setAll_length]; exact h.lasts, h.keep⟩
theorem Fit.tick {D : DS} {k : Nat} (h : Fit D k) : Fit D.tick (k + 1) := ⟨h.ok, Nat.succ_le_succ h.done, Nat.le_succ_of_le h.waits, h.lasts, h.keep⟩
theorem Fit.wrote {D : DS} {k : Nat} (h : Fit D k) {i : Nat} {s : List UInt8} (hi : i < D.lasts.length) (hs : s.length = 512) : Fit (D.wrote i s) (k + 1) := ⟨DS.ok_wrote h.ok hi hs, Nat.le_succ_of_le h.done, by have := h.waits; unfold DS.wrote; simp; omega, h.lasts, h.keep⟩
theorem Fit.wroteTick {D : DS} {k : Nat} (h : Fit D k) {i : Nat} {s : List UInt8} (hi : i < D.lasts.length) (hs : s.length = 512) : Fit (D.wrote i s).tick (k + 1) := ⟨DS.ok_wrote h.ok hi hs, Nat.succ_le_succ h.done, (h.wrote hi hs).waits, h.lasts, h.keep⟩
theorem Fit.flushed {D : DS} {k : Nat} (h : Fit D k) : Fit D.flushed k := ⟨DS.ok_flushed h.ok, h.done, Nat.zero_le _, by unfold DS.flushed; rw [setAll_length]; exact h.lasts, h.keep⟩
theorem Fit.write {D : DS} {k : Nat} (h : Fit D k) (i : Int) (s : List UInt8) : Fit (D.write i s).2 (k + 1) := by
  unfold DS.write
  split
  · exact h.mono (Nat.le_succ _)
  · split
    · rename_i h1
      simp only [Bool.and_eq_true, decide_eq_true_eq] at h1
      obtain ⟨h1, h2⟩ := h1
      unfold inside at h1
      simp only [Bool.and_eq_true, decide_eq_true_eq] at h1
      split
      · exact (h.wrote (by omega) h2).crash _
      · exact h.wroteTick (by omega) h2
    · exact h.mono (Nat.le_succ _)
theorem Fit.flush {D : DS} {k : Nat} (h : Fit D k) : Fit D.flush.2 (k + 1) := by
  unfold DS.flush
  split
  · exact h.mono (Nat.le_succ _)
  · split
    · exact (h.crash _).mono (Nat.le_succ _)
    · exact h.tick.flushed
theorem Fit.crashed {D : DS} {k : Nat} (h : Fit D k) (kl : List Bool) : Fit (D.crashed kl).2 k := by
  unfold DS.crashed
  split
  · exact h
  · exact h.crash kl
theorem Fit.lit {D : DS} {k : Nat} (h : Fit D k) (z : Int) {kl : List Bool} (hl : kl.length ≤ 140737488355328) : Fit (D.lit z kl).2 k := by
  unfold DS.lit
  split
  · exact h
  · split
    · exact h
    · exact ⟨h.ok, h.done, h.waits, h.lasts, hl⟩
theorem Fit.again {D : DS} {k : Nat} (h : Fit D k) : Fit D.again k := ⟨⟨fun x hx => by simp [DS.again] at hx, h.ok.2⟩, Nat.zero_le _, Nat.zero_le _, h.lasts, by simp [DS.again]⟩

/-- blocks above B that are there -/
def In (B : Nat) (w : World) (G : Nat → Prop) : Prop := ∀ b, G b → B ≤ b ∧ b < w.heap.size
theorem In.more {B : Nat} {w w' : World} {G : Nat → Prop} (h : In B w G) (hB : B ≤ w.heap.size) (hs : w.heap.size ≤ w'.heap.size) : In B w' (More G w w') := fun b hb => hb.elim (fun hb => ⟨(h b hb).1, by have := (h b hb).2; omega⟩) fun hb => ⟨by omega, hb.2⟩
theorem In.made {B : Nat} {w w' : World} (hB : B ≤ w.heap.size) : In B w' (Made w w') := fun _ hb => ⟨Nat.le_trans hB hb.1, hb.2⟩
theorem In.grow {B : Nat} {w w' : World} {G : Nat → Prop} (h : In B w G) (hs : w.heap.size ≤ w'.heap.size) : In B w' G := fun b hb => ⟨(h b hb).1, by have := (h b hb).2; omega⟩
theorem Kept.belowIn {B : Nat} {w w' : World} {G : Nat → Prop} (h : Kept w w' (Mut G w)) (hG : In B w G) (hB : B ≤ w.heap.size) : Below B w w' := h.below hB fun b hb => (hG b hb.1).1

/-- One disk of the program's own, all above block B. -/
def One (B : Nat) (w : World) (q : Nat) (D : DS) : Prop := B ≤ w.heap.size ∧ ∃ G S, PD w G S q D ∧ In B w G
theorem One.step {B : Nat} {w w' : World} {G S : Nat → Prop} {q : Nat} {D' : DS} (hB : B ≤ w.heap.size) (hG : In B w G) (k : Kept w w' (Mut G w)) (h : PD w' (More G w w') (More S w w') q D') : Below B w w' ∧ One B w' q D' :=
  ⟨k.belowIn hG hB, Nat.le_trans hB k.size, _, _, h, hG.more hB k.size⟩
theorem One.grow {B : Nat} {w w' : World} {q : Nat} {D : DS} (h : One B w q D) (hb : Below w.heap.size w w') : One B w' q D := by
  obtain ⟨hB, G, S, hp, hG⟩ := h
  exact ⟨Nat.le_trans hB hb.size, G, S, hp.kept (fun _ h => h) (fun _ h => h) (fun b hs _ => hb.block b hs) (fun b _ _ hs => hb.block b hs), hG.grow hb.size⟩

variable {B : Nat} {w : World} {q : Nat} {D : DS} {k : Nat}
theorem one_new (B n : Nat) (z : Int) (w : World) (hz : z = (n : Int)) (hn1 : 1 ≤ n) (hn2 : n ≤ 65536) (hB : B ≤ w.heap.size) :
    Calls Try.prog 4 #[.int .i64 z] w fun e w' => ∃ q, e = .returned (.tuple #[.pointer (some ⟨q, 0, none⟩), .int .i64 0]) ∧ Below w.heap.size w w' ∧ One B w' q (DS.new n) := by
  subst hz
  exact (pNew_yes n w hn1 hn2).mono fun e w' ⟨h1, q, h2, h3⟩ => ⟨q, h2, h1, Nat.le_trans hB h1.size, _, _, h3, In.made hB⟩
theorem one_write (h : One B w q D) (i : Int) (v : Value) (s : List UInt8) (hv : Rd w w.heap.size v s) (hF : Fine D) :
    Calls Try.prog 18 #[.pointer (some ⟨q, 0, none⟩), .int .i64 i, v] w fun e w' => e = .returned (.int .i64 (D.write i s).1) ∧ Below B w w' ∧ One B w' q (D.write i s).2 := by
  obtain ⟨hB, G, S, hp, hG⟩ := h
  exact (pWrite_any G S q D i v s w hp hv hF).mono fun e w' ⟨h1, h2, h3⟩ => ⟨h1, One.step hB hG h2 h3⟩
theorem one_flush (h : One B w q D) (hF : Fine D) :
    Calls Try.prog 34 #[.pointer (some ⟨q, 0, none⟩)] w fun e w' => e = .returned (.int .i64 D.flush.1) ∧ Below B w w' ∧ One B w' q D.flush.2 := by
  obtain ⟨hB, G, S, hp, hG⟩ := h
  exact (pFlush_any G S q D w hp hF).mono fun e w' ⟨h1, h2, h3⟩ => ⟨h1, One.step hB hG h2 h3⟩
theorem one_read (h : One B w q D) (i : Int) (hF : Fine D) :
    Calls Try.prog 26 #[.pointer (some ⟨q, 0, none⟩), .int .i64 i] w fun e w' => ∃ v, e = .returned (.tuple #[v, .int .i64 (D.read i).1]) ∧ w'.ownsRow w.heap.size 85 1 v (D.read i).2.length (BS (D.read i).2) ∧ Below w.heap.size w w' ∧ One B w' q D := by
  obtain ⟨hB, G, S, hp, hG⟩ := h
  exact (pRead_any G S q D i w hp hF.ok hF.lasts).mono fun e w' ⟨v, n, h1, h2, h3, h4⟩ => by
    subst h2
    exact ⟨v, h1, h3, h4, One.grow ⟨hB, G, S, hp, hG⟩ h4⟩
theorem one_dead (h : One B w q D) : Calls Try.prog 44 #[.pointer (some ⟨q, 0, none⟩)] w fun e w' => e = .returned (.bool D.dead) ∧ w = w' := by
  obtain ⟨hB, G, S, hp, hG⟩ := h
  exact pDead_any G S q D w hp
theorem one_len (h : One B w q D) : Calls Try.prog 21 #[.pointer (some ⟨q, 0, none⟩)] w fun e w' => e = .returned (.int .i64 (D.lasts.length : Int)) ∧ w = w' := by
  obtain ⟨hB, G, S, hp, hG⟩ := h
  exact pLen_any G S q D w hp
theorem one_waits (h : One B w q D) : Calls Try.prog 13 #[.pointer (some ⟨q, 0, none⟩)] w fun e w' => e = .returned (.int .i64 (D.waits.length : Int)) ∧ w = w' := by
  obtain ⟨hB, G, S, hp, hG⟩ := h
  exact pWaits_any G S q D w hp
theorem all512_length (c : UInt8) : (all512 c).length = 512 := List.length_replicate
end Go.Proofs.Ytlokehekkllbeaa
