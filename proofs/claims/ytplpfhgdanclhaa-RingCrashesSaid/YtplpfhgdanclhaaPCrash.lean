/-
  The program's own disk: crash, step. No statement is proved here. No condition.
-/
import Derived.Test.YtplpfhgdanclhaaPSettle
namespace Go.Proofs.Ytplpfhgdanclhaa
open Go.RowKit Go.Maps

theorem keptOf_take {ws : List (Nat × List UInt8)} {kl : List Bool} {j : Nat} {x : Nat × List UInt8} (h : ws[j]? = some x) : keptOf (ws.take (j + 1)) kl = keptOf (ws.take j) kl ++ (if kl.getD j false then [x] else []) := by
  have hj := (List.getElem?_eq_some_iff.1 h).1
  by_cases hk : j < kl.length
  · have hb : kl[j]? = some kl[j] := List.getElem?_eq_getElem hk
    have h0 := keptOf_all (ws.take j) kl (k := j) (by rw [List.length_take]; omega)
    have h1 := keptOf_all (ws.take (j + 1)) kl (k := j + 1) (by rw [List.length_take]; omega)
    rw [List.take_take, Nat.min_self] at h0 h1
    rw [← h0, ← h1, keptOf_snoc h hb]
    simp [List.getD, hk]
  · have h0 := keptOf_all (ws.take j) kl (k := kl.length) (by rw [List.length_take]; omega)
    have h1 := keptOf_all (ws.take (j + 1)) kl (k := kl.length) (by rw [List.length_take]; omega)
    rw [List.take_take] at h0 h1
    rw [← h0, ← h1, show min kl.length (j + 1) = kl.length by omega, show min kl.length j = kl.length by omega]
    have : kl.getD j false = false := by simp [List.getD, List.getElem?_eq_none (Nat.le_of_not_lt hk)]
    rw [this]
    exact (List.append_nil _).symm
theorem keptOf_len (ws : List (Nat × List UInt8)) (kl : List Bool) : (keptOf ws kl).length ≤ ws.length := by
  unfold keptOf
  rw [List.length_map]
  refine Nat.le_trans (List.length_filter_le _ _) ?_
  rw [List.length_zip]
  omega

theorem info_PW : (Try.prog.info? 105).map (fun i => (i.zero, i.size, i.bytes)) = some (some (.agg #[.int .i64 0, .pointer none]), 2, 16) := by kernel_rfl
theorem info_P : (Try.prog.info? 95).map (fun i => (i.zero, i.size, i.bytes)) = some (some (.pointer none), 1, 8) := by kernel_rfl

set_option maxHeartbeats 2000000 in
theorem p_crash (G S : Nat → Prop) (q : Nat) (D : DS) (vl vw vm : Value) (st : Bool) (left : Int) (ks : ByteArray) (pl : List (Option Nat)) (pw : List (Nat × Nat)) (kl : List Bool) (w : World) (h : PR w G S q D vl vw vm st left ks pl pw)
    (hin : ∀ x ∈ D.waits, x.1 < D.lasts.length) (hlen : D.waits.length ≤ 1000000) (hll : D.lasts.length ≤ 1000000) :
    Calls Try.prog 51 #[.pointer (some ⟨q, 0, none⟩), .string (marks kl)] w fun e w' => e = .returned (.tuple #[]) ∧ Kept w w' (Mut G w) ∧ PD w' (More G w w') S q (D.crash kl) := by
  have hqs := h.lt
  have hc := (row7 h.cells).1
  have c1 : w.cell? ⟨q, 1, none⟩ = some vw := hc 1
  obtain ⟨_, _, hvw, -⟩ := RowAt.of_own h.waits
  have hvw' : ∃ Aw cw, vw = .slice Aw D.waits.length cw := ⟨_, _, hvw⟩
  clear hvw
  obtain ⟨Aw, cw, rfl⟩ := hvw'
  obtain ⟨i0, hi0, hz0, hz1, hz2⟩ := info_parts info_PW
  have H := Lib.hid h
  have HIN := Lib.hid hin
  clear h hc hin
  go_enter Try.func51, Try.ntmps51
  go_wp2_with fail
  go_loopw [4, 5, 6, 12] (fun kv _ _ i wr => ∃ (j : Nat) (pk : List (Nat × Nat)), i = .int .i64 j ∧ j ≤ D.waits.length ∧ Hid (Wts w S pk (keptOf (D.waits.take j) kl)) ∧ wr.ownsRow w.heap.size 105 2 kv (keptOf (D.waits.take j) kl).length (PW pk) ∧ Below w.heap.size w wr) (fun _ _ _ i _ => D.waits.length - (intOf i).toNat)
  case atStart => exact ⟨0, [], rfl, by omega, Wts.nil _ _, World.ownsRow_nil _ _ _ _, Below.refl _ _⟩
  case round =>
    obtain ⟨j, pk, rfl, hj1, hwt, hown, hb⟩ := hrel
    have hbs := hb.size
    by_cases hin1 : j < D.waits.length
    · have i1 : (j : Int) < (D.waits.length : Int) := by omega
      have i0' : (0 : Int) ≤ (j : Int) := by omega
      have hpwl := H.out.wts.1
      have hxj : D.waits[j]? = some D.waits[j] := List.getElem?_eq_getElem hin1
      have hyj : pw[j]? = some (pw[j]'(by omega)) := List.getElem?_eq_getElem (by omega)
      have hsn := keptOf_take (kl := kl) hxj
      obtain ⟨⟨a, sx⟩, hxx⟩ : ∃ x, x = D.waits[j] := ⟨_, rfl⟩
      obtain ⟨⟨a', gs⟩, hyy⟩ : ∃ y, y = pw[j]'(by omega) := ⟨_, rfl⟩
      rw [← hxx] at hxj hsn
      rw [← hyy] at hyj
      clear hxx hyy
      obtain ⟨haa, hsec⟩ := H.out.wts.2 j _ _ hyj hxj
      have haa' : a' = a := haa
      subst haa'
      have hwr : w.ownsRow 0 105 2 (.slice Aw D.waits.length cw) D.waits.length (PW pw) := H.out.waits
      obtain ⟨gw, cw', hvw, -, hgw⟩ := hwr.form (by omega)
      injection hvw with e1 _ e2
      subst e1
      subst e2
      obtain ⟨w1, w2⟩ := PW_get hyj
      have k1 : wr.cell? ⟨gw, j * 2, none⟩ = some (.int .i64 (a' : Int)) := (hb.cell (p := ⟨gw, j * 2, none⟩) hgw).trans ((hwr.cellAt (j * 2) (by omega)).trans w1)
      have k2 : wr.cell? ⟨gw, j * 2 + 1, none⟩ = some (.pointer (some ⟨gs, 0, none⟩)) := (hb.cell (p := ⟨gw, j * 2 + 1, none⟩) hgw).trans ((hwr.cellAt (j * 2 + 1) (by omega)).trans w2)
      have hb1 := hb.alloc hbs (.cells #[.int .i64 (a' : Int), .pointer (some ⟨gs, 0, none⟩)] 105)
      have hown1 := hown.alloc (.cells #[.int .i64 (a' : Int), .pointer (some ⟨gs, 0, none⟩)] 105)
      have hnewb := heap_alloc_new wr (.cells #[.int .i64 (a' : Int), .pointer (some ⟨gs, 0, none⟩)] 105)
      obtain ⟨g3, hg3⟩ : ∃ g3, g3 = wr.heap.size := ⟨_, rfl⟩
      go_upto_region 4 with fail
      rw [← hg3] at hnewb ⊢
      obtain ⟨wa, hwa⟩ : ∃ wa, wa = wr.alloc (.cells #[.int .i64 (a' : Int), .pointer (some ⟨gs, 0, none⟩)] 105) := ⟨_, rfl⟩
      rw [← hwa] at hb1 hnewb hown1 ⊢
      have hwas : wr.heap.size ≤ wa.heap.size := by rw [hwa]; simp
      have d1 : wa.cell? ⟨g3, 0, none⟩ = some (.int .i64 (a' : Int)) := (row7 hnewb).1 0
      have d2 : wa.cell? ⟨g3, 1, none⟩ = some (.pointer (some ⟨gs, 0, none⟩)) := (row7 hnewb).1 1
      have HOWN := Lib.hid hown1
      have HSEC := Lib.hid hsec
      clear hwa hg3 k1 k2 w1 w2 hown hsec hnewb hown1 hb
      go_wp2_with fail
      refine (p_has kl j wa).mono ?_
      rintro e w1 ⟨rfl, rfl⟩
      cases hkj : kl.getD j false with
      | false =>
        rw [hkj] at hsn
        have hsn' : keptOf (D.waits.take (j + 1)) kl = keptOf (D.waits.take j) kl := hsn.trans (List.append_nil _)
        rw [← hsn'] at hwt
        have hown2 : wa.ownsRow w.heap.size 105 2 u4 (keptOf (D.waits.take (j + 1)) kl).length (PW pk) := by rw [hsn']; exact HOWN.out
        clear hsn hsn' hkj
        go_wp2_with fail
        exact ⟨⟨j + 1, pk, by go_num, hin1, hwt, hown2, hb1⟩, by simp [intOf]; omega⟩
      | true =>
        rw [hkj] at hsn
        have hsn' : keptOf (D.waits.take (j + 1)) kl = keptOf (D.waits.take j) kl ++ [(a', sx)] := hsn
        have hwt2 : Hid (Wts w S (pk ++ [(a', gs)]) (keptOf (D.waits.take (j + 1)) kl)) := by
          rw [hsn']
          exact hwt.out.snoc a' gs HSEC.out
        have hkl2 := Nat.le_trans (keptOf_len (D.waits.take j) kl) (by rw [List.length_take]; omega : (D.waits.take j).length ≤ 1000000)
        have hrow : RowAt (wa.alloc (.cells #[.int .i64 (a' : Int), .pointer (some ⟨gs, 0, none⟩)] 105)) (.slice (some ⟨wa.heap.size, 0, none⟩) 1 1) 1 2 (PW [(a', gs)]) := by
          have ho := World.ownsRow_lit (base := 0) (e := 105) (size := 2) wa #[.int .i64 (a' : Int), .pointer (some ⟨gs, 0, none⟩)] 1 (Nat.zero_le _) (by unfold maxLen; omega) rfl
          exact RowAt.of_own ho
        have HSN := Lib.hid hsn'
        clear hsn hsn' hkj hwt
        go_wp2_with (at_builtin; go_must (refine wpList_appG rfl (.tmp 20) (.tmp 22) 84 rfl w.heap.size 105 i0 _ 2 16 Try.underlying84 hi0 hz0 hz1 hz2 rfl (by decide) u4 _ (keptOf (D.waits.take j) kl).length (PW pk) 1 (PW [(a', gs)]) rfl rfl (HOWN.out.alloc _) hrow (PW_one _) (by unfold maxLen; omega) (by omega) (by simp; omega) ?_; intro v2 w2 ho2 hg2; have hb2 : Below w.heap.size w w2 := (hb1.alloc hb1.size _).grown hg2 (by simp; omega) (fun k hk => (HOWN.out.lt k hk).1)))
        have hn : (keptOf (D.waits.take (j + 1)) kl).length = (keptOf (D.waits.take j) kl).length + 1 := by rw [HSN.out, List.length_append]; rfl
        have ho3 : w2.ownsRow w.heap.size 105 2 v2 (keptOf (D.waits.take (j + 1)) kl).length (PW (pk ++ [(a', gs)])) := own_eq ho2 hn.symm (PW_append _ _).symm (Nat.le_refl _)
        exact ⟨⟨j + 1, _, by go_num, hin1, hwt2, ho3, hb2⟩, by simp [intOf]; omega⟩
    · have i1 : ¬ (j : Int) < (D.waits.length : Int) := by omega
      rw [List.take_of_length_le (by omega)] at hwt hown
      have hkn := keptOf_len D.waits kl
      have hinK : ∀ x ∈ keptOf D.waits kl, x.1 < D.lasts.length := fun x hx => HIN.out x (keptOf_mem hx)
      obtain ⟨K, hK⟩ : ∃ K, K = keptOf D.waits kl := ⟨_, rfl⟩
      rw [← hK] at hwt hown hkn hinK
      obtain ⟨_, _, hkv, -⟩ := RowAt.of_own hown
      have hkv' : ∃ Ak ck, u4 = .slice Ak K.length ck := ⟨_, _, hkv⟩
      clear hkv
      obtain ⟨Ak, ck, rfl⟩ := hkv'
      have hxr : PR wr G S q D vl (.slice Aw D.waits.length cw) vm st left ks pl pw := H.out.kept (fun _ h => h) (fun _ h => h) (fun b hb' _ => hb.block b hb') (fun b _ _ hb' => hb.block b hb')
      have d1 : wr.cell? ⟨q, 1, none⟩ = some (.slice Aw D.waits.length cw) := (row7 hxr.cells).1 1
      have z1 : wr.frozen? ⟨q, 1, none⟩ = false := (row7 hxr.cells).2 1
      have hoth : ∀ b, b ≠ q → (wr.setCell ⟨q, 1, none⟩ (.slice Ak K.length ck)).heap[b]? = wr.heap[b]? := fun b hb => set_other hb
      have hcf := Joins.block_setCell (i := 1) hxr.cells (.slice Ak K.length ck)
      have hsec : ∀ b, S b → IsSec wr b → b < wr.heap.size → (wr.setCell ⟨q, 1, none⟩ (.slice Ak K.length ck)).heap[b]? = wr.heap[b]? := fun b _ hi _ => hoth b fun e => not_sec hxr.cells (by decide) (e ▸ hi)
      have hwtr : Wts wr S pk K := hwt.out.kept (fun _ h => h) (fun b _ _ hb' => hb.block b hb')
      have hx2 : PR (wr.setCell ⟨q, 1, none⟩ (.slice Ak K.length ck)) (More G w wr) S q { D with waits := K } vl (.slice Ak K.length ck) vm st left ks pl pk := by
        refine ⟨.inl hxr.inG, ?_, hxr.fz, row_same hxr.lasts fun b hb => hoth b (row_not hxr.cells hxr.lasts (by decide) b hb), fun b hb => .inl (hxr.lastsG b hb), own_eq (row_same hown fun b hb => hoth b (row_not hxr.cells hown (by decide) b hb)) rfl rfl (Nat.zero_le _), fun b hb => .inr (hown.lt b hb), hxr.secs.kept (fun _ h => h) hsec, hwtr.kept (fun _ h => h) hsec⟩
        rw [hcf]
        simp
      have hk2 : Kept w (wr.setCell ⟨q, 1, none⟩ (.slice Ak K.length ck)) (Mut G w) := (Kept.ofBelow hb).trans (Kept.setCell wr ⟨q, 1, none⟩ _ (Mut G w) H.out.headMut) (fun _ h => .inl h)
      have hz2' : (wr.setCell ⟨q, 1, none⟩ (.slice Ak K.length ck)).heap.size = wr.heap.size := by simp
      obtain ⟨w2, hw2⟩ : ∃ w2, w2 = wr.setCell ⟨q, 1, none⟩ (.slice Ak K.length ck) := ⟨_, rfl⟩
      have HX2 := Lib.hid hx2
      have HK2 := Lib.hid hk2
      have HKE := Lib.hid hK
      have HZ2 := Lib.hid hz2'
      clear hwt hown hxr hoth hcf hsec hwtr hx2 hk2 hK hb hz2'
      go_upto_region 8 with fail
      rw [← hw2] at HX2 HK2 HZ2 ⊢
      clear hw2 d1 z1 i1
      go_wp2_with fail
      refine (p_settle (More G w wr) S q { D with waits := K } vl (.slice Ak K.length ck) vm st left ks pl pk w2 HX2.out hinK (Nat.le_trans hkn hlen) hll).mono ?_
      rintro e w3 ⟨rfl, hk3, hx3⟩
      obtain ⟨vl3, vw3, m3, st3, l3, ks3, pl3, pw3, hx3, hm3, hM3⟩ := hx3
      have hc3 := (row7 hx3.cells).1
      have hzz := (row7 hx3.cells).2
      have e4 : w3.cell? ⟨q, 4, none⟩ = some (.bool D.dead) := hc3 4
      have e5 : w3.cell? ⟨q, 5, none⟩ = some (.bool st3) := hc3 5
      have e6 : w3.cell? ⟨q, 6, none⟩ = some (.int .i64 l3) := hc3 6
      have e7 : w3.cell? ⟨q, 7, none⟩ = some (.string ks3) := hc3 7
      have y4 := hzz 4
      have y5 := hzz 5
      have y6 := hzz 6
      have y7 := hzz 7
      have HX3 := Lib.hid hx3
      have HM3 := Lib.hid hM3
      have HG3 := Lib.hid hm3
      have HK3 := Lib.hid hk3
      clear hx3 hM3 hm3 hk3 hc3 hzz
      go_wp2_with fail
      go_end0
      have hoth : ∀ b, b ≠ q → ((((w3.setCell ⟨q, 4, none⟩ (.bool true)).setCell ⟨q, 5, none⟩ (.bool false)).setCell ⟨q, 6, none⟩ (.int .i64 0)).setCell ⟨q, 7, none⟩ (.string ByteArray.empty)).heap[b]? = w3.heap[b]? := fun b hb => (((set_other hb).trans (set_other hb)).trans (set_other hb)).trans (set_other hb)
      have hcf := Joins.block_setCell (i := 7) (Joins.block_setCell (i := 6) (Joins.block_setCell (i := 5) (Joins.block_setCell (i := 4) HX3.out.cells (.bool true)) (.bool false)) (.int .i64 0)) (.string ByteArray.empty)
      have hKE := HKE.out
      have hfin : PR ((((w3.setCell ⟨q, 4, none⟩ (.bool true)).setCell ⟨q, 5, none⟩ (.bool false)).setCell ⟨q, 6, none⟩ (.int .i64 0)).setCell ⟨q, 7, none⟩ (.string ByteArray.empty)) (More (More G w wr) w2 w3) S q (D.crash kl) vl3 vw3 (.map (some m3)) false 0 ByteArray.empty pl3 pw3 := by
        refine HX3.out.head hoth (D' := D.crash kl) ?_ (fun h => by cases h) ?_ rfl
        · rw [hcf]
          unfold DS.crash
          simp
          rfl
        · show setAll D.lasts (keptOf D.waits kl) = setAll D.lasts K
          rw [hKE]
      have hmq : m3 ≠ q := HM3.out.other HX3.out.cells
      have hk := ((HK2.out.transM HK3.out (fun n hn hs => hn.elim id fun h => absurd h.1 (by omega))).trans (Kept.setCell w3 ⟨q, 4, none⟩ (.bool true) (Mut G w) H.out.headMut) (fun _ h => .inl h)).trans (((Kept.setCell _ ⟨q, 5, none⟩ (.bool false) (Mut G w) H.out.headMut).trans (Kept.setCell _ ⟨q, 6, none⟩ (.int .i64 0) (Mut G w) H.out.headMut) (fun _ h => .inl h)).trans (Kept.setCell _ ⟨q, 7, none⟩ (.string ByteArray.empty) (Mut G w) H.out.headMut) (fun _ h => .inl h)) (fun _ h => .inl h)
      have hz4 : ((((w3.setCell ⟨q, 4, none⟩ (.bool true)).setCell ⟨q, 5, none⟩ (.bool false)).setCell ⟨q, 6, none⟩ (.int .i64 0)).setCell ⟨q, 7, none⟩ (.string ByteArray.empty)).heap.size = w3.heap.size := by simp
      have hz2 := HZ2.out
      have hk3s := HK3.out.size
      have hsub : ∀ b, More (More G w wr) w2 w3 b → More G w ((((w3.setCell ⟨q, 4, none⟩ (.bool true)).setCell ⟨q, 5, none⟩ (.bool false)).setCell ⟨q, 6, none⟩ (.int .i64 0)).setCell ⟨q, 7, none⟩ (.string ByteArray.empty)) b := by
        intro b hb
        rcases hb with (hb | hb) | hb
        · exact .inl hb
        · exact .inr ⟨hb.1, by rw [hz4]; omega⟩
        · exact .inr ⟨by omega, by rw [hz4]; exact hb.2⟩
      exact ⟨rfl, hk, vl3, vw3, m3, false, 0, ByteArray.empty, pl3, pw3, hfin.mono hsub (fun _ h => h), hsub m3 HG3.out, HM3.out.same (hoth m3 hmq)⟩
end Go.Proofs.Ytplpfhgdanclhaa
