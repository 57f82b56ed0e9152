/-
  CallMarks walked. No statement is proved here. No condition.
-/
import Derived.Test.YtcagmjmnpdpgoaaUMarksM
namespace Go.Proofs.Ytcagmjmnpdpgoaa
open Go.RowKit Go.Maps

theorem zero_wv (W : World) : (zeroValue 58).run Try.prog W = .ok (.agg #[.string ⟨#[]⟩, .bool false]) W := by kernel_rfl
theorem dec_eq (a b : ByteArray) : decide (a = b) = (a.toList == b.toList) := by
  by_cases h : a = b
  · subst h; simp
  · rw [decide_eq_false h]
    symm
    rw [beq_eq_false_iff_ne]
    exact fun e => h (toList_inj e)
theorem req_one {given : Int} {n : Int} (h : n = 1 * 1048576 + given + 1) (hg : 0 ≤ given ∧ given ≤ 1048575) : I6 n ∧ n = 1048576 + given + 1 := ⟨i6_of (by omega) (by omega), by omega⟩
theorem due_sync {M : List (Nat × WT)} {AK : List (Int × KM)} {now every : Int} (h : ∀ m ∈ M, ifind AK m.2.req = some (m.2.key, m.2.marked)) (hw : ∀ m ∈ M, I6 m.2.req) {y : WT} (hy : y ∈ (M.map (·.2)).filterMap (dueA now every)) : ifind AK y.req = some (y.key, y.marked) ∧ y.last = now ∧ I6 y.req := by
  obtain ⟨x, hx, he⟩ := List.mem_filterMap.1 hy
  obtain ⟨m, hm, rfl⟩ := List.mem_map.1 hx
  unfold dueA at he
  split at he
  · have he := Option.some.inj he
    rw [← he]
    exact ⟨h m hm, rfl, hw m hm⟩
  · cases he
theorem invK_i (key : Value) (kl : Lit) (h : keyOf Try.prog 3 key = some kl) : ∃ x, key = Value.int .i64 x := by
  obtain ⟨x, rfl, -, -⟩ := Maps.keyOf_i64 Try.underlying3 h
  exact ⟨x, rfl⟩
theorem fld1 (a : ByteArray) (m : Bool) (W : World) : (Instr.field 58 (.agg #[.string a, .bool m]) 1).run Try.prog W = .ok (.bool m) W := by kernel_rfl
theorem fld0 (a : ByteArray) (m : Bool) (W : World) : (Instr.field 58 (.agg #[.string a, .bool m]) 0).run Try.prog W = .ok (.string a) W := by kernel_rfl
theorem u64_len {n : Nat} (h : n ≤ 150) : IntKind.u64.wrap (n : Int) = (n : Int) := u64_small (by omega) (by omega)
set_option maxHeartbeats 16000000 in
set_option maxRecDepth 1000000 in
theorem marks_walk (l : List {s : ST // I6 s.n}) (v : Value) (w : World) (h : stR.N w Any v l) :
    Calls Try.prog 6 #[v] w fun e w' => e = .returned (.bool true) ∧ Below w.heap.size w w' := by
  obtain ⟨A, c, rfl, hlc, hcm⟩ := h.slice
  by_cases hl : 150 < l.length
  · have a1 : (150 : Int) < (l.length : Int) := by omega
    clear h hl hlc hcm
    go_enter Try.func6, Try.ntmps6
    go_wp2_with fail
    refine (awake_any w).mono ?_
    rintro e w1 ⟨rfl, hb1⟩
    have HB := Lib.hid hb1
    clear hb1
    go_wp2_with fail
    go_ret
    exact ⟨rfl, HB.out⟩
  · have a1 : ¬ (150 : Int) < (l.length : Int) := by omega
    have H := Lib.hid h
    have HLN := Lib.hid (Nat.le_of_not_lt hl)
    clear h hl hlc hcm
    go_enter Try.func6, Try.ntmps6
    go_wp2_with fail
    refine (awake_any w).mono ?_
    rintro e w1 ⟨rfl, hb1⟩
    have HB1 := Lib.hid hb1
    clear hb1
    go_wp2_with fail
    refine (pnew_ex 1 w1 (by decide) (by decide)).mono ?_
    rintro e w2 ⟨p, b, hp, hb, rfl, hs2, hb2⟩
    have hmm := run_makeMap (P := Try.prog) 56 w2
    obtain ⟨w3, hw3⟩ : ∃ w3, w3 = w2.alloc (.map #[] 0) := ⟨_, rfl⟩
    obtain ⟨g, hg⟩ : ∃ g, g = w2.heap.size := ⟨_, rfl⟩
    have hb3 : Below w2.heap.size w2 w3 := by rw [hw3]; exact (Below.refl _ _).alloc (Nat.le_refl _) _
    have hML : ML w w3 g p b 0 0 [] [] := by
      have z1 := HB1.out.size
      have z2 := hb2.size
      have z3 := hs2.ltb
      exact ⟨(HB1.out.trans (Joins.below_le hb2 z1)).trans (Joins.below_le hb3 (by omega)), by rw [hw3, hg]; exact MapI.made w2, hs2.below hb3, by omega, by omega, by omega, (fun m hm => by cases hm), by omega, by simp, (fun m hm => by cases hm)⟩
    have HM0 := Lib.hid hML
    have HW3 := Lib.hid hw3
    have HG := Lib.hid hg
    clear hML hw3 hg hb3 hs2 hb2 hp hb HB1
    go_upto_region 7 with fail
    rw [← HW3.out, ← HG.out]
    clear hmm HW3 HG
    go_wp2_with fail
    go_loopw [6] (fun s6 wr => ∃ (i : Nat) (given : Int) (M : List (Nat × WT)) (AK : List (Int × KM)), s6 = .int .i64 (i : Int) ∧ i ≤ l.length ∧ Hid (ML w wr g p b given i M AK)) (fun s6 _ => l.length - (intOf s6).toNat)
    case atStart => exact ⟨0, 0, [], [], rfl, Nat.zero_le _, HM0⟩
    case round =>
      clear HM0
      obtain ⟨i, given, M, AK, rfl, hi, hN⟩ := hrel
      obtain ⟨wx, hwx⟩ : ∃ wx : World, wx = wr := ⟨_, rfl⟩
      subst hwx
      have hln := HLN.out
      by_cases hil : i < l.length
      · have b1 : (i : Int) < (l.length : Int) := by omega
        have b0 : (0 : Int) ≤ (i : Int) := by omega
        obtain ⟨s, hs⟩ : ∃ s, l[i]? = some s := ⟨_, List.getElem?_eq_getElem hil⟩
        obtain ⟨sb, so, sn, sk, hv, -, ⟨d0, d1, d2, d3⟩, d4, d5, d6⟩ := st_cell (H.out.grow hN.out.bel) hs
        injection hv with v1 v2 v3
        subst v1 v2 v3
        obtain ⟨kk, hkk⟩ : ∃ kk, kk = s.1.kind := ⟨_, rfl⟩
        rw [← hkk] at d0
        obtain ⟨w3, hw3⟩ : ∃ w3, w3 = wx.alloc (.cells #[.int .u8 kk, .string s.1.key, .int .i64 s.1.client, .int .i64 s.1.id, .int .i64 s.1.now, .int .i64 s.1.n, .bool s.1.raw] 32) := ⟨_, rfl⟩
        have hb3 : Below wx.heap.size wx w3 := by rw [hw3]; exact (Below.refl _ _).alloc (Nat.le_refl _) _
        have hx3 : w3.heap[wx.heap.size]? = some (.cells #[.int .u8 kk, .string s.1.key, .int .i64 s.1.client, .int .i64 s.1.id, .int .i64 s.1.now, .int .i64 s.1.n, .bool s.1.raw] 32 (0, 0)) := by rw [hw3]; exact heap_alloc_new wx _
        have h3 := hN.out.below hb3
        obtain ⟨z, hz⟩ : ∃ z, z = wx.heap.size := ⟨_, rfl⟩
        have hpz : p < z := by rw [hz]; exact hN.out.sc.ltp
        have hbz : b < z := by rw [hz]; exact hN.out.sc.ltb
        have hgz : g < z := by rw [hz]; exact hN.out.km.lt
        have hmz : ∀ m ∈ M, m.1 < z := fun m hm => by rw [hz]; exact hN.out.sc.ltm hm
        have hTz : ¬ TC b M z := fun ht => by
          rcases ht with e | ⟨m, hm, e⟩
          · omega
          · have := hmz m hm; omega
        rw [← hz] at hx3
        obtain ⟨e0, e1, e2, e3, e4, e5⟩ : w3.cell? ⟨z, 0, none⟩ = some (.int .u8 kk) ∧ w3.cell? ⟨z, 1, none⟩ = some (.string s.1.key) ∧ w3.cell? ⟨z, 2, none⟩ = some (.int .i64 s.1.client) ∧ w3.cell? ⟨z, 3, none⟩ = some (.int .i64 s.1.id) ∧ w3.cell? ⟨z, 4, none⟩ = some (.int .i64 s.1.now) ∧ w3.cell? ⟨z, 5, none⟩ = some (.int .i64 s.1.n) := ⟨(blk_cells hx3).1 0, (blk_cells hx3).1 1, (blk_cells hx3).1 2, (blk_cells hx3).1 3, (blk_cells hx3).1 4, (blk_cells hx3).1 5⟩
        have HX3 := Lib.hid hx3
        have HN3 := Lib.hid h3
        have HW3 := Lib.hid hw3
        have HZ := Lib.hid hz
        have HPZ := Lib.hid (And.intro hpz (And.intro hbz (And.intro hgz hTz)))
        clear hw3 hb3 hx3 h3 hz hN hs hpz hbz hgz hmz hTz hkk
        go_upto_region 11 with fail
        rw [← HW3.out, ← HZ.out]
        clear HW3 HZ d0 d1 d2 d3 d4 d5 d6
        have hgi := HN3.out.giv
        have hn6 : i < maxLen := by unfold maxLen; omega
        by_cases q0 : kk = 0
        · as_aux_lemma =>
            subst q0
            by_cases hok : 0 ≤ s.1.now ∧ M.length < 64
            · have cA := pask_yes HN3.out.sc s.1.key s.1.client s.1.id s.1.now hok.1 hok.2 (by omega)
              obtain ⟨nn, hnn⟩ : ∃ nn : Int, nn = 1 * 1048576 + given + 1 := ⟨_, rfl⟩
              rw [← hnn] at cA
              have hi6 := req_one hnn HN3.out.sc.giv
              have HNI := Lib.hid hi6
              clear hnn hok hi6
              go_wp2_with fail
              refine cA.mono ?_
              rintro e w4 ⟨rfl, q, hq, hs4, hk4⟩
              clear cA
              have hgm4 : MapI mkK w4 g i AK := HN3.out.km.same (hk4.block g HN3.out.km.lt fun e => e.elim (sc_map HN3.out.sc HN3.out.km).1 HN3.out.gb)
              obtain ⟨w5, hput, hm5, ht5⟩ := hgm4.put HNI.out.1 hn6 (s.1.key, false)
              have hput : (Instr.mapUpdate 56 (.map (some g)) (.int .i64 nn) (.agg #[.string s.1.key, .bool false])).run Try.prog w4 = .ok () w5 := hput
              have hzw := zero_wv
              have hc1 : w4.cell? ⟨z, 1, none⟩ = some (.string s.1.key) := (hk4.cell (p := ⟨z, 1, none⟩) (lt_of_heap HX3.out) (fun e => by
                have h1 := HPZ.out.1
                have h2 := HPZ.out.2.1
                rcases e with e | e <;> (dsimp only at e; omega))).trans e1
              have HF := Lib.hid (HN3.out.asked (x := ⟨nn, s.1.key, s.1.client, s.1.id, s.1.now, s.1.now, false⟩) HNI.out.2 rfl hs4 hk4 hq hm5 ht5)
              clear hgm4 hm5 ht5 hs4 hk4 hq e0 e1 e2 e3 e4 e5
              go_wp2_with fail
              exact ⟨⟨i + 1, given + 1, _, _, by go_num, by omega, HF⟩, by simp [intOf]; omega⟩
            · have cA := pask_no HN3.out.sc s.1.key s.1.client s.1.id s.1.now (by
                by_cases h1 : s.1.now < 0
                · exact .inl h1
                · exact .inr (.inl (by omega)))
              obtain ⟨E, hE⟩ : ∃ E : Int, E = (if s.1.now < 0 then 1 else if 64 ≤ M.length then 3 else 70) := ⟨_, rfl⟩
              rw [← hE] at cA
              have hE0 : (E == 0) = false := by
                rw [hE]
                split
                · rfl
                · split <;> rfl
              clear hE hok
              go_wp2_with fail
              refine cA.mono ?_
              rintro e w4 ⟨rfl, rfl⟩
              clear cA
              have HF := Lib.hid HN3.out.next
              clear e0 e1 e2 e3 e4 e5
              go_wp2_with fail
              exact ⟨⟨i + 1, given, M, AK, by go_num, by omega, HF⟩, by simp [intOf]; omega⟩
        · have t0 : (kk == 0) = false := by simpa using q0
          by_cases q3 : kk = 3
          · as_aux_lemma =>
              subst q3
              have cM := pmark_any HN3.out.sc s.1.key
              go_wp2_with fail
              refine cM.mono ?_
              rintro e w4 ⟨rfl, hs4, hk4⟩
              clear cM
              obtain ⟨D, hD1, hD2, hD3, hD4⟩ := (HN3.out.km.same (w' := w4) (hk4.block g HN3.out.km.lt HN3.out.tg)).own
              have hz4 : z < w4.heap.size := Nat.lt_of_lt_of_le (lt_of_heap HX3.out) hk4.size
              have hx4 : w4.heap[z]? = w3.heap[z]? := hk4.block z (lt_of_heap HX3.out) HPZ.out.2.2.2
              have HX4 := Lib.hid (hx4.trans HX3.out)
              have HZ4 := Lib.hid hz4
              have HS4 := Lib.hid hs4
              have HK4 := Lib.hid hk4
              have HD := Lib.hid (And.intro hD2 (And.intro hD3 hD4))
              clear hs4 hk4 hD2 hD3 hD4 hx4 hz4 e0 e1 e2 e3 e4 e5
              go_wp2_with (first
                | (at_range; refine wpList_range_own _ rfl _ 56 rfl 3 58 int_key Try.underlying56 Rm g i D rfl hD1 ?_; intro w5 hrg5 hg5 hs5))
              go_frame
              have HR0 : Hid (∃ left cnt D, RM w5 g w4.heap.size i s.1.key AK D left cnt) := Lib.hid ⟨_, _, _, RM.start hrg5 HD.out.1 HD.out.2.1 HD.out.2.2⟩
              have HK0 : Hid (Kept w4 w5 (fun n => n = g ∨ w4.heap.size ≤ n)) := Lib.hid (Kept.grown hg5 fun _ hb => by cases hb)
              obtain ⟨r, hr⟩ : ∃ r, r = w4.heap.size := ⟨_, rfl⟩
              rw [← hr] at HR0 ⊢
              have HRE := Lib.hid hr
              clear hrg5 hg5 hs5 hD1 HD hr
              go_loopw [10] (fun _ wr => Hid (∃ left cnt D, RM wr g r i s.1.key AK D left cnt) ∧ Hid (Kept w4 wr (fun n => n = g ∨ w4.heap.size ≤ n))) (fun _ wr => wr.rangeLeft g r)
              case atStart => exact ⟨HR0, HK0⟩
              case round =>
                clear HR0 HK0
                obtain ⟨⟨left, cnt, D, hRM⟩, hKK⟩ := (⟨hrel.1.out, hrel.2.out⟩ : (∃ left cnt D, RM _ g r i s.1.key AK D left cnt) ∧ Kept w4 _ (fun n => n = g ∨ w4.heap.size ≤ n))
                obtain ⟨wv, hwv⟩ : ∃ wv : World, wv = wr := ⟨_, rfl⟩
                subst hwv
                clear hrel
                have HKK := Lib.hid hKK
                have HRM := Lib.hid hRM
                clear hKK hRM
                go_upto_region 33 with (first
                  | (at_next; refine wpList_next_ranges _ rfl _ rfl 3 int_key Rm (Value.int .i64) (fun c : KM => Value.agg #[.string c.1, .bool c.2]) invK_i (fun _ _ h => Rm_inv h) g r i D left cnt rfl HRM.out.rg (fun _ hl0 => ?_) (fun x c kl y w5 cnt1 hkx hlx hRc hat hrg1 hlt hg1 hs1 hen => ?_)))
                · skip
                  have hmap := HRM.out.done hl0 HN3.out.km.nodup HN3.out.km.wf
                  have HF := Lib.hid (HN3.out.marked HS4.out HK4.out HKK.out hmap).next
                  clear hl0 hmap HRM
                  go_wp2_with fail
                  exact ⟨⟨i + 1, given, _, _, by go_num, by omega, HF⟩, by simp [intOf]; omega⟩
                · skip
                  obtain ⟨x', hx', rfl, hxw⟩ := Maps.keyOf_i64 Try.underlying3 hkx
                  injection hx' with _ hx'
                  subst hx'
                  have hy : y = (kmE c, []) := (Option.some.inj (show some (kmE c, ([] : List MemPlace)) = some y from hRc)).symm
                  subst hy
                  obtain ⟨w6, hw6⟩ : ∃ w6, w6 = w5.alloc (.cells #[.string c.1, .bool c.2] 58) := ⟨_, rfl⟩
                  have hx6 : w6.heap[w5.heap.size]? = some (.cells #[.string c.1, .bool c.2] 58 (0, 0)) := by rw [hw6]; exact heap_alloc_new w5 _
                  obtain ⟨w7, hput, hRM7, ht7⟩ := HRM.out.step (w1 := w6) (w2 := w6) hxw hlx hat hn6 (by rw [hw6]; exact hrg1.alloc _)
                  have k6 : Kept w4 w6 (fun n => n = g ∨ w4.heap.size ≤ n) := (HKK.out.trans (Kept.grown hg1 (F := fun n => n = g ∨ w4.heap.size ≤ n) fun _ hb => .inr (by rw [← HRE.out]; exact Nat.le_of_eq (Option.some.inj hb))) fun n hn => .inl hn).trans (by rw [hw6]; exact Kept.alloc w5 _ _ : Kept w5 w6 (fun n => n = g ∨ w4.heap.size ≤ n)) fun n hn => .inl hn
                  have k7 : Kept w4 w7 (fun n => n = g ∨ w4.heap.size ≤ n) := k6.trans ((turned_kept ht7).mono fun n _ hn => .inl hn) fun n hn => .inl hn
                  have hz6 : w6.cell? ⟨z, 1, none⟩ = some (.string s.1.key) := (k6.cell (p := ⟨z, 1, none⟩) HZ4.out (fun e => by
                    have h1 := HPZ.out.2.2.1
                    have h2 := HZ4.out
                    rcases e with e | e <;> (dsimp only at e; omega))).trans ((blk_cells HX4.out).1 1)
                  obtain ⟨u, hu⟩ : ∃ u, u = wv.heap.size := ⟨_, rfl⟩
                  rw [hs1, ← hu] at hx6
                  obtain ⟨y0, y1⟩ : w6.cell? ⟨u, 0, none⟩ = some (.string c.1) ∧ w6.cell? ⟨u, 1, none⟩ = some (.bool c.2) := ⟨(blk_cells hx6).1 0, (blk_cells hx6).1 1⟩
                  have hzw := zero_wv
                  have HF := Lib.hid (And.intro hRM7 k7)
                  have hmeas : w7.rangeLeft g r < wv.rangeLeft g r := by rw [hRM7.rg.left_eq, HRM.out.rg.left_eq]; exact hlt
                  have HME := Lib.hid hmeas
                  have HW6 := Lib.hid hw6
                  have HU := Lib.hid hu
                  unfold updK kmV at hput
                  rw [dec_eq] at hput
                  clear hw6 hx6 hRM7 ht7 k6 k7 hu hmeas hrg1 hg1 hs1 hlt hat hRc hlx hkx hxw
                  try dsimp only at HW6
                  rw [← HW6.out, ← HU.out]
                  clear HW6 HU hen
                  obtain ⟨c1, c2⟩ := c
                  dsimp only at hput y0 y1 ⊢
                  cases c2 with
                  | true =>
                    rw [Bool.true_or] at hput
                    go_wp2_with fail
                    exact ⟨⟨Lib.hid ⟨_, _, _, HF.out.1⟩, Lib.hid HF.out.2⟩, HME.out⟩
                  | false =>
                    rw [Bool.false_or] at hput
                    go_wp2_with fail
                    exact ⟨⟨Lib.hid ⟨_, _, _, HF.out.1⟩, Lib.hid HF.out.2⟩, HME.out⟩
          · have t3 : (kk == 3) = false := by simpa using q3
            by_cases q4 : kk = 4
            · as_aux_lemma =>
                subst q4
                have cD := pdue_any HN3.out.sc s.1.now s.1.n
                obtain ⟨LD, hLD⟩ : ∃ LD, LD = (M.map (·.2)).filterMap (dueA s.1.now s.1.n) := ⟨_, rfl⟩
                rw [← hLD] at cD
                have HSY : Hid (∀ y ∈ LD, ifind AK y.req = some (y.key, y.marked) ∧ y.last = s.1.now ∧ I6 y.req) := Lib.hid fun y hy => by
                  rw [hLD] at hy
                  exact due_sync HN3.out.sync (fun m hm => HN3.out.sc.wf hm) hy
                have hl64 : LD.length ≤ 64 := by
                  rw [hLD]
                  refine Nat.le_trans (List.length_filterMap_le _ _) ?_
                  rw [List.length_map]
                  exact HN3.out.sc.few
                clear hLD
                go_wp2_with fail
                refine cD.mono ?_
                rintro e w4 ⟨A5, c5, rfl, hO4, hs4, hk4⟩
                clear cD
                have hz4 : z < w4.heap.size := Nat.lt_of_lt_of_le (lt_of_heap HX3.out) hk4.size
                have hx4 : w4.heap[z]? = w3.heap[z]? := hk4.block z (lt_of_heap HX3.out) HPZ.out.2.2.2
                have HX4 := Lib.hid (hx4.trans HX3.out)
                have HZ4 := Lib.hid hz4
                have HM4 := Lib.hid (HN3.out.due hs4 hk4)
                have HO4 := Lib.hid hO4
                have HB0 : Hid (Below w4.heap.size w4 w4) := Lib.hid (Below.refl _ _)
                clear hs4 hk4 hO4 hx4 hz4 e0 e1 e2 e3 e4 e5
                go_wp2_with fail
                go_loopw [168] (fun s0 wr => ∃ j : Nat, s0 = .int .i64 (j : Int) ∧ j ≤ LD.length ∧ Hid (Below w4.heap.size w4 wr)) (fun s0 _ => LD.length - (intOf s0).toNat)
                case atStart => exact ⟨0, rfl, Nat.zero_le _, HB0⟩
                case round =>
                  clear HB0
                  obtain ⟨j, rfl, hj, hB⟩ := hrel
                  obtain ⟨wv, hwv⟩ : ∃ wv : World, wv = wr := ⟨_, rfl⟩
                  subst hwv
                  by_cases hjl : j < LD.length
                  · have j1 : (j : Int) < (LD.length : Int) := by omega
                    have j0 : (0 : Int) ≤ (j : Int) := by omega
                    obtain ⟨y, hy⟩ : ∃ y, LD[j]? = some y := ⟨_, List.getElem?_eq_getElem hjl⟩
                    obtain ⟨hsy, hlast, hwf⟩ := HSY.out y (List.mem_of_getElem? hy)
                    obtain ⟨yb, yo, yn, yk, hv, -, hyl, hyc⟩ := (Rec.Own.n (HO4.out.below hB.out)).cell hy
                    injection hv with v1 v2 v3
                    subst v1 v2 v3
                    obtain ⟨x0, x1, x2, x3, x4, x5, x6⟩ : wv.cell? ⟨yb, yo + j * 7, none⟩ = some (.int .i64 y.req) ∧ wv.cell? ⟨yb, yo + j * 7 + 1, none⟩ = some (.string y.key) ∧ wv.cell? ⟨yb, yo + j * 7 + 2, none⟩ = some (.int .i64 y.client) ∧ wv.cell? ⟨yb, yo + j * 7 + 3, none⟩ = some (.int .i64 y.id) ∧ wv.cell? ⟨yb, yo + j * 7 + 4, none⟩ = some (.int .i64 y.first) ∧ wv.cell? ⟨yb, yo + j * 7 + 5, none⟩ = some (.int .i64 y.last) ∧ wv.cell? ⟨yb, yo + j * 7 + 6, none⟩ = some (.bool y.marked) := ⟨hyc 0 _ rfl, hyc 1 _ rfl, hyc 2 _ rfl, hyc 3 _ rfl, hyc 4 _ rfl, hyc 5 _ rfl, hyc 6 _ rfl⟩
                    obtain ⟨w6, hw6⟩ : ∃ w6, w6 = wv.alloc (.cells #[.int .i64 y.req, .string y.key, .int .i64 y.client, .int .i64 y.id, .int .i64 y.first, .int .i64 y.last, .bool y.marked] 37) := ⟨_, rfl⟩
                    have hb6 : Below wv.heap.size wv w6 := by rw [hw6]; exact (Below.refl _ _).alloc (Nat.le_refl _) _
                    have hx6 : w6.heap[wv.heap.size]? = some (.cells #[.int .i64 y.req, .string y.key, .int .i64 y.client, .int .i64 y.id, .int .i64 y.first, .int .i64 y.last, .bool y.marked] 37 (0, 0)) := by rw [hw6]; exact heap_alloc_new wv _
                    have hB6 := hB.out.trans (Joins.below_le hb6 hB.out.size)
                    have hlook := (HM4.out.below hB6).look hsy hwf
                    have hzn : w6.cell? ⟨z, 4, none⟩ = some (.int .i64 s.1.now) := (hB6.cell (p := ⟨z, 4, none⟩) HZ4.out).trans ((blk_cells HX4.out).1 4)
                    obtain ⟨u, hu⟩ : ∃ u, u = wv.heap.size := ⟨_, rfl⟩
                    rw [← hu] at hx6
                    obtain ⟨g0, g5, g6⟩ : w6.cell? ⟨u, 0, none⟩ = some (.int .i64 y.req) ∧ w6.cell? ⟨u, 5, none⟩ = some (.int .i64 s.1.now) ∧ w6.cell? ⟨u, 6, none⟩ = some (.bool y.marked) := ⟨(blk_cells hx6).1 0, by rw [← hlast]; exact (blk_cells hx6).1 5, (blk_cells hx6).1 6⟩
                    have hfd1 := fld1 y.key y.marked w6
                    have hfd0 := fld0 y.key y.marked w6
                    have HB6 := Lib.hid hB6
                    have HW6 := Lib.hid hw6
                    have HU := Lib.hid hu
                    clear hw6 hb6 hx6 hB6 hu hB hy hyc hyl hsy hlast hwf
                    go_upto_region 39 with fail
                    rw [← HW6.out, ← HU.out]
                    clear HW6 HU x0 x1 x2 x3 x4 x5 x6
                    go_wp2_with fail
                    exact ⟨⟨j + 1, by go_num, by omega, HB6⟩, by simp [intOf]; omega⟩
                  · have j1 : ¬ (j : Int) < (LD.length : Int) := by omega
                    have HF := Lib.hid (HM4.out.below hB.out).next
                    clear hB
                    go_wp2_with fail
                    exact ⟨⟨i + 1, given, _, _, by go_num, by omega, HF⟩, by simp [intOf]; omega⟩
            · have t4 : (kk == 4) = false := by simpa using q4
              by_cases q5 : kk = 5
              · as_aux_lemma =>
                  subst q5
                  have cD := pdue_any HN3.out.sc s.1.now s.1.n
                  obtain ⟨LD, hLD⟩ : ∃ LD, LD = (M.map (·.2)).filterMap (dueA s.1.now s.1.n) := ⟨_, rfl⟩
                  rw [← hLD] at cD
                  have HSY : Hid (∀ y ∈ LD, ifind AK y.req = some (y.key, y.marked) ∧ y.last = s.1.now ∧ I6 y.req) := Lib.hid fun y hy => by
                    rw [hLD] at hy
                    exact due_sync HN3.out.sync (fun m hm => HN3.out.sc.wf hm) hy
                  have hl64 : LD.length ≤ 64 := by
                    rw [hLD]
                    refine Nat.le_trans (List.length_filterMap_le _ _) ?_
                    rw [List.length_map]
                    exact HN3.out.sc.few
                  clear hLD
                  go_wp2_with fail
                  refine cD.mono ?_
                  rintro e w4 ⟨A5, c5, rfl, hO4, hs4, hk4⟩
                  clear cD
                  have hz4 : z < w4.heap.size := Nat.lt_of_lt_of_le (lt_of_heap HX3.out) hk4.size
                  have hx4 : w4.heap[z]? = w3.heap[z]? := hk4.block z (lt_of_heap HX3.out) HPZ.out.2.2.2
                  have HX4 := Lib.hid (hx4.trans HX3.out)
                  have HZ4 := Lib.hid hz4
                  have HM4 := Lib.hid (HN3.out.due hs4 hk4)
                  have HO4 := Lib.hid hO4
                  have HB0 : Hid (Below w4.heap.size w4 w4) := Lib.hid (Below.refl _ _)
                  clear hs4 hk4 hO4 hx4 hz4 e0 e1 e2 e3 e4 e5
                  go_wp2_with fail
                  go_loopw [168] (fun s0 wr => ∃ j : Nat, s0 = .int .i64 (j : Int) ∧ j ≤ LD.length ∧ Hid (Below w4.heap.size w4 wr)) (fun s0 _ => LD.length - (intOf s0).toNat)
                  case atStart => exact ⟨0, rfl, Nat.zero_le _, HB0⟩
                  case round =>
                    clear HB0
                    obtain ⟨j, rfl, hj, hB⟩ := hrel
                    obtain ⟨wv, hwv⟩ : ∃ wv : World, wv = wr := ⟨_, rfl⟩
                    subst hwv
                    by_cases hjl : j < LD.length
                    · have j1 : (j : Int) < (LD.length : Int) := by omega
                      have j0 : (0 : Int) ≤ (j : Int) := by omega
                      obtain ⟨y, hy⟩ : ∃ y, LD[j]? = some y := ⟨_, List.getElem?_eq_getElem hjl⟩
                      obtain ⟨hsy, hlast, hwf⟩ := HSY.out y (List.mem_of_getElem? hy)
                      obtain ⟨yb, yo, yn, yk, hv, -, hyl, hyc⟩ := (Rec.Own.n (HO4.out.below hB.out)).cell hy
                      injection hv with v1 v2 v3
                      subst v1 v2 v3
                      obtain ⟨x0, x1, x2, x3, x4, x5, x6⟩ : wv.cell? ⟨yb, yo + j * 7, none⟩ = some (.int .i64 y.req) ∧ wv.cell? ⟨yb, yo + j * 7 + 1, none⟩ = some (.string y.key) ∧ wv.cell? ⟨yb, yo + j * 7 + 2, none⟩ = some (.int .i64 y.client) ∧ wv.cell? ⟨yb, yo + j * 7 + 3, none⟩ = some (.int .i64 y.id) ∧ wv.cell? ⟨yb, yo + j * 7 + 4, none⟩ = some (.int .i64 y.first) ∧ wv.cell? ⟨yb, yo + j * 7 + 5, none⟩ = some (.int .i64 y.last) ∧ wv.cell? ⟨yb, yo + j * 7 + 6, none⟩ = some (.bool y.marked) := ⟨hyc 0 _ rfl, hyc 1 _ rfl, hyc 2 _ rfl, hyc 3 _ rfl, hyc 4 _ rfl, hyc 5 _ rfl, hyc 6 _ rfl⟩
                      obtain ⟨w6, hw6⟩ : ∃ w6, w6 = wv.alloc (.cells #[.int .i64 y.req, .string y.key, .int .i64 y.client, .int .i64 y.id, .int .i64 y.first, .int .i64 y.last, .bool y.marked] 37) := ⟨_, rfl⟩
                      have hb6 : Below wv.heap.size wv w6 := by rw [hw6]; exact (Below.refl _ _).alloc (Nat.le_refl _) _
                      have hx6 : w6.heap[wv.heap.size]? = some (.cells #[.int .i64 y.req, .string y.key, .int .i64 y.client, .int .i64 y.id, .int .i64 y.first, .int .i64 y.last, .bool y.marked] 37 (0, 0)) := by rw [hw6]; exact heap_alloc_new wv _
                      have hB6 := hB.out.trans (Joins.below_le hb6 hB.out.size)
                      have hlook := (HM4.out.below hB6).look hsy hwf
                      have hzn : w6.cell? ⟨z, 4, none⟩ = some (.int .i64 s.1.now) := (hB6.cell (p := ⟨z, 4, none⟩) HZ4.out).trans ((blk_cells HX4.out).1 4)
                      obtain ⟨u, hu⟩ : ∃ u, u = wv.heap.size := ⟨_, rfl⟩
                      rw [← hu] at hx6
                      obtain ⟨g0, g5, g6⟩ : w6.cell? ⟨u, 0, none⟩ = some (.int .i64 y.req) ∧ w6.cell? ⟨u, 5, none⟩ = some (.int .i64 s.1.now) ∧ w6.cell? ⟨u, 6, none⟩ = some (.bool y.marked) := ⟨(blk_cells hx6).1 0, by rw [← hlast]; exact (blk_cells hx6).1 5, (blk_cells hx6).1 6⟩
                      have hfd1 := fld1 y.key y.marked w6
                      have hfd0 := fld0 y.key y.marked w6
                      have HB6 := Lib.hid hB6
                      have HW6 := Lib.hid hw6
                      have HU := Lib.hid hu
                      clear hw6 hb6 hx6 hB6 hu hB hy hyc hyl hsy hlast hwf
                      go_upto_region 39 with fail
                      rw [← HW6.out, ← HU.out]
                      clear HW6 HU x0 x1 x2 x3 x4 x5 x6
                      go_wp2_with fail
                      exact ⟨⟨j + 1, by go_num, by omega, HB6⟩, by simp [intOf]; omega⟩
                    · have j1 : ¬ (j : Int) < (LD.length : Int) := by omega
                      have HF := Lib.hid (HM4.out.below hB.out).next
                      clear hB
                      go_wp2_with fail
                      exact ⟨⟨i + 1, given, _, _, by go_num, by omega, HF⟩, by simp [intOf]; omega⟩
              · as_aux_lemma =>
                  have t5 : (kk == 5) = false := by simpa using q5
                  have cA := pall_any HN3.out.sc
                  have HSY : Hid (∀ y ∈ M.map (·.2), ifind AK y.req = some (y.key, y.marked) ∧ I6 y.req) := Lib.hid fun y hy => by
                    obtain ⟨m, hm, rfl⟩ := List.mem_map.1 hy
                    exact ⟨HN3.out.sync m hm, HN3.out.sc.wf hm⟩
                  obtain ⟨LD, hLD⟩ : ∃ LD, LD = M.map (·.2) := ⟨_, rfl⟩
                  have hLl : LD.length = M.length := by rw [hLD, List.length_map]
                  rw [← hLD] at cA HSY
                  rw [← hLl] at cA
                  have HLD := Lib.hid hLD
                  have hl64 : LD.length ≤ 64 := by rw [hLl]; exact HN3.out.sc.few
                  have HLl := Lib.hid hLl
                  clear hLD hLl
                  go_wp2_with fail
                  refine cA.mono ?_
                  rintro e w4 ⟨A5, c5, rfl, hO4, hs4, hk4⟩
                  clear cA
                  have hz4 : z < w4.heap.size := Nat.lt_of_lt_of_le (lt_of_heap HX3.out) hk4.size
                  have hx4 : w4.heap[z]? = w3.heap[z]? := hk4.block z (lt_of_heap HX3.out) HPZ.out.2.2.2
                  have HX4 := Lib.hid (hx4.trans HX3.out)
                  have HZ4 := Lib.hid hz4
                  have HM4 := Lib.hid (HN3.out.all hs4 hk4)
                  have HO4 := Lib.hid hO4
                  have HB0 : Hid (Below w4.heap.size w4 w4) := Lib.hid (Below.refl _ _)
                  clear hs4 hk4 hO4 hx4 hz4 e0 e1 e2 e3 e4 e5
                  go_wp2_with fail
                  go_loopw [49] (fun s0 wr => ∃ j : Nat, s0 = .int .i64 (j : Int) ∧ j ≤ LD.length ∧ Hid (Below w4.heap.size w4 wr)) (fun s0 _ => LD.length - (intOf s0).toNat)
                  case atStart => exact ⟨0, rfl, Nat.zero_le _, HB0⟩
                  case round =>
                    clear HB0
                    obtain ⟨j, rfl, hj, hB⟩ := hrel
                    obtain ⟨wv, hwv⟩ : ∃ wv : World, wv = wr := ⟨_, rfl⟩
                    subst hwv
                    by_cases hjl : j < LD.length
                    · have j1 : (j : Int) < (LD.length : Int) := by omega
                      have j0 : (0 : Int) ≤ (j : Int) := by omega
                      obtain ⟨y, hy⟩ : ∃ y, LD[j]? = some y := ⟨_, List.getElem?_eq_getElem hjl⟩
                      obtain ⟨hsy, hwf⟩ := HSY.out y (List.mem_of_getElem? hy)
                      obtain ⟨yb, yo, yn, yk, hv, -, hyl, hyc⟩ := (Rec.Own.n (HO4.out.below hB.out)).cell hy
                      injection hv with v1 v2 v3
                      subst v1 v2 v3
                      obtain ⟨x0, x1, x2, x3, x4, x5, x6⟩ : wv.cell? ⟨yb, yo + j * 7, none⟩ = some (.int .i64 y.req) ∧ wv.cell? ⟨yb, yo + j * 7 + 1, none⟩ = some (.string y.key) ∧ wv.cell? ⟨yb, yo + j * 7 + 2, none⟩ = some (.int .i64 y.client) ∧ wv.cell? ⟨yb, yo + j * 7 + 3, none⟩ = some (.int .i64 y.id) ∧ wv.cell? ⟨yb, yo + j * 7 + 4, none⟩ = some (.int .i64 y.first) ∧ wv.cell? ⟨yb, yo + j * 7 + 5, none⟩ = some (.int .i64 y.last) ∧ wv.cell? ⟨yb, yo + j * 7 + 6, none⟩ = some (.bool y.marked) := ⟨hyc 0 _ rfl, hyc 1 _ rfl, hyc 2 _ rfl, hyc 3 _ rfl, hyc 4 _ rfl, hyc 5 _ rfl, hyc 6 _ rfl⟩
                      obtain ⟨w6, hw6⟩ : ∃ w6, w6 = wv.alloc (.cells #[.int .i64 y.req, .string y.key, .int .i64 y.client, .int .i64 y.id, .int .i64 y.first, .int .i64 y.last, .bool y.marked] 37) := ⟨_, rfl⟩
                      have hb6 : Below wv.heap.size wv w6 := by rw [hw6]; exact (Below.refl _ _).alloc (Nat.le_refl _) _
                      have hx6 : w6.heap[wv.heap.size]? = some (.cells #[.int .i64 y.req, .string y.key, .int .i64 y.client, .int .i64 y.id, .int .i64 y.first, .int .i64 y.last, .bool y.marked] 37 (0, 0)) := by rw [hw6]; exact heap_alloc_new wv _
                      have hB6 := hB.out.trans (Joins.below_le hb6 hB.out.size)
                      have hlook := (HM4.out.below hB6).look hsy hwf
                      obtain ⟨u, hu⟩ : ∃ u, u = wv.heap.size := ⟨_, rfl⟩
                      rw [← hu] at hx6
                      obtain ⟨g0, g1, g6⟩ : w6.cell? ⟨u, 0, none⟩ = some (.int .i64 y.req) ∧ w6.cell? ⟨u, 1, none⟩ = some (.string y.key) ∧ w6.cell? ⟨u, 6, none⟩ = some (.bool y.marked) := ⟨(blk_cells hx6).1 0, (blk_cells hx6).1 1, (blk_cells hx6).1 6⟩
                      have hfd1 := fld1 y.key y.marked w6
                      have hfd0 := fld0 y.key y.marked w6
                      have HB6 := Lib.hid hB6
                      have HW6 := Lib.hid hw6
                      have HU := Lib.hid hu
                      clear hw6 hb6 hx6 hB6 hu hB hy hyc hyl hsy hwf
                      go_upto_region 15 with fail
                      rw [← HW6.out, ← HU.out]
                      clear HW6 HU x0 x1 x2 x3 x4 x5 x6
                      go_wp2_with fail
                      exact ⟨⟨j + 1, by go_num, by omega, HB6⟩, by simp [intOf]; omega⟩
                    · have j1 : ¬ (j : Int) < (LD.length : Int) := by omega
                      have hM5 := HM4.out.below hB.out
                      have cA := pall_any hM5.sc
                      rw [← HLD.out, ← HLl.out] at cA
                      have HM5 := Lib.hid hM5
                      have HX5 := Lib.hid ((hB.out.block z HZ4.out).trans HX4.out)
                      have HZ5 := Lib.hid (Nat.lt_of_lt_of_le HZ4.out hB.out.size)
                      clear hM5 hB
                      go_wp2_with fail
                      refine cA.mono ?_
                      rintro e w7 ⟨A7, c7, rfl, hO7, hs7, hk7⟩
                      clear cA
                      have hx7 : w7.heap[z]? = wv.heap[z]? := hk7.block z HZ5.out HPZ.out.2.2.2
                      have hz5 : w7.cell? ⟨z, 5, none⟩ = some (.int .i64 s.1.n) := (blk_cells (hx7.trans HX5.out)).1 5
                      have HM7 := Lib.hid (HM5.out.all hs7 hk7)
                      have HO7 := Lib.hid hO7
                      clear hs7 hk7 hO7 hx7
                      by_cases hm0 : LD.length = 0
                      · have m1 : ¬ (0 : Int) < (LD.length : Int) := by omega
                        have HF := Lib.hid HM7.out.next
                        go_wp2_with fail
                        exact ⟨⟨i + 1, given, _, _, by go_num, by omega, HF⟩, by simp [intOf]; omega⟩
                      · have m1 : (0 : Int) < (LD.length : Int) := by omega
                        have m2 : ¬ (LD.length : Int) = 0 := by omega
                        obtain ⟨t, ht, hje, hjw⟩ := u64_rem s.1.n (n := LD.length) (by omega) (by omega)
                        have hun : IntKind.u64.wrap (LD.length : Int) = (LD.length : Int) := u64_len (Nat.le_trans hl64 (by decide))
                        have c8 : (t : Int) < (LD.length : Int) := Int.ofNat_lt.2 ht
                        have c9 : (0 : Int) ≤ (t : Int) := Int.natCast_nonneg t
                        obtain ⟨x, hxt⟩ : ∃ x, LD[t]? = some x := ⟨_, List.getElem?_eq_getElem ht⟩
                        obtain ⟨xb, xo, xn, xk, hv, -, -, hxc⟩ := (Rec.Own.n HO7.out).cell hxt
                        injection hv with v1 v2 v3
                        subst v1 v2 v3
                        have x0 : w7.cell? ⟨xb, xo + t * 7, none⟩ = some (.int .i64 x.req) := hxc 0 _ rfl
                        have hmem : x ∈ M.map (·.2) := by rw [← HLD.out]; exact List.mem_of_getElem? hxt
                        obtain ⟨hsy, hwf⟩ := HSY.out x (List.mem_of_getElem? hxt)
                        obtain ⟨⟨q, x'⟩, hmm', hxe⟩ := List.mem_map.1 hmem
                        have hxe : x' = x := hxe
                        subst hxe
                        obtain ⟨pre, post, hM⟩ := List.append_of_mem hmm'
                        have HM8 : Hid (ML w w7 g p b given i (pre ++ (q, x') :: post) AK) := Lib.hid (by rw [← hM]; exact HM7.out)
                        have cT := ptell_yes HM8.out.sc
                        have HSX := Lib.hid (And.intro hsy hwf)
                        clear hmm' hmem hxc hxt hM HM7 hsy hwf
                        go_wp2_with fail
                        clear hje hjw hun x0
                        refine cT.mono ?_
                        rintro e w8 ⟨he, hs8, hk8⟩
                        clear cT
                        have he : e = .returned (.tuple #[.agg #[.int .i64 x'.req, .string x'.key, .int .i64 x'.client, .int .i64 x'.id, .int .i64 x'.first, .int .i64 x'.last, .bool x'.marked], .bool true]) := he
                        subst he
                        obtain ⟨w9, hw9⟩ : ∃ w9, w9 = w8.alloc (.cells #[.int .i64 x'.req, .string x'.key, .int .i64 x'.client, .int .i64 x'.id, .int .i64 x'.first, .int .i64 x'.last, .bool x'.marked] 37) := ⟨_, rfl⟩
                        have hb9 : Below w8.heap.size w8 w9 := by rw [hw9]; exact (Below.refl _ _).alloc (Nat.le_refl _) _
                        have hx9 : w9.heap[w8.heap.size]? = some (.cells #[.int .i64 x'.req, .string x'.key, .int .i64 x'.client, .int .i64 x'.id, .int .i64 x'.first, .int .i64 x'.last, .bool x'.marked] 37 (0, 0)) := by rw [hw9]; exact heap_alloc_new w8 _
                        have hk9 : Kept w7 w9 (fun n => n = b) := hk8.trans (Kept.of_below hb9) fun n hn => .inr (Nat.le_trans hk8.size hn)
                        have hkm9 : MapI mkK w9 g i AK := HM8.out.km.same (hk9.block g HM8.out.km.lt HM8.out.gb)
                        have hlook := hkm9.look HSX.out.2
                        rw [HSX.out.1] at hlook
                        have hlook : (Instr.lookup 56 (.map (some g)) (.int .i64 x'.req) false).run Try.prog w9 = .ok (.agg #[.string x'.key, .bool x'.marked]) w9 := hlook
                        obtain ⟨w10, hdel, hm10, ht10⟩ := hkm9.del HSX.out.2 0
                        have hdel : (Builtin.delete_ #[56, 3] 0 #[.map (some g), .int .i64 x'.req]).run Try.prog w9 = .ok (.tuple #[]) w10 := hdel
                        have HF := Lib.hid (HM8.out.told (hs8.below hb9) hk9 hm10 ht10).next
                        obtain ⟨u, hu⟩ : ∃ u, u = w8.heap.size := ⟨_, rfl⟩
                        rw [← hu] at hx9
                        obtain ⟨g0, g6⟩ : w9.cell? ⟨u, 0, none⟩ = some (.int .i64 x'.req) ∧ w9.cell? ⟨u, 6, none⟩ = some (.bool x'.marked) := ⟨(blk_cells hx9).1 0, (blk_cells hx9).1 6⟩
                        have hfd1 := fld1 x'.key x'.marked w9
                        have HW9 := Lib.hid hw9
                        have HU := Lib.hid hu
                        clear hw9 hb9 hx9 hk9 hkm9 hm10 ht10 hu hs8 hk8 hz5
                        go_upto_region 21 with fail
                        rw [← HW9.out, ← HU.out]
                        clear HW9 HU
                        go_wp2_with fail
                        exact ⟨⟨i + 1, given, _, _, by go_num, by omega, HF⟩, by simp [intOf]; omega⟩
      · have hie : i = l.length := by omega
        subst hie
        have b1 : ¬ (l.length : Int) < (l.length : Int) := by omega
        go_wp2_with fail
        go_ret
        exact ⟨rfl, hN.out.bel⟩
end Go.Proofs.Ytcagmjmnpdpgoaa
