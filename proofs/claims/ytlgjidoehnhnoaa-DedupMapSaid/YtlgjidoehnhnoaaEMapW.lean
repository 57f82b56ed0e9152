/-
  DedupMap, walked. No statement is proved here. No condition.
-/
import Derived.Test.YtlgjidoehnhnoaaEMapR
import Derived.Test.YtlgjidoehnhnoaaEWorks
import Derived.Test.YtlgjidoehnhnoaaEDo
namespace Go.Proofs.Ytlgjidoehnhnoaa
open Go.RowKit Go.Maps

theorem mem_repl {eq : PP → Bool} {p q : PP} {l : List PP} (h : q ∈ repl eq p l) : q = p ∨ q ∈ l := by
  induction l with
  | nil => exact .inl (by simpa [repl] using h)
  | cons a l ih =>
    unfold repl at h
    split at h
    · rcases List.mem_cons.1 h with h | h
      · exact .inl h
      · exact .inr (List.mem_cons_of_mem _ h)
    · rcases List.mem_cons.1 h with h | h
      · exact .inr (by rw [h]; exact List.mem_cons_self)
      · rcases ih h with h | h
        · exact .inl h
        · exact .inr (List.mem_cons_of_mem _ h)
theorem MapP.mono {w : World} {b n m : Nat} {M : List PP} (h : MapP w b n M) (hn : n ≤ m) : MapP w b m M := by
  obtain ⟨D, h1, h2⟩ := h
  exact ⟨D, h1.mono hn, h2⟩
theorem find_at {M : List PP} (h : rise M) {i : Nat} {p : PP} (hp : M[i]? = some p) : findP M p.key = some p.val := by
  induction M generalizing i with
  | nil => simp at hp
  | cons q M ih =>
    unfold rise at h
    rw [List.map_cons, List.pairwise_cons] at h
    cases i with
    | zero =>
      rw [List.getElem?_cons_zero] at hp
      injection hp with hp
      subst hp
      unfold findP
      rw [if_pos rfl]
    | succ i =>
      rw [List.getElem?_cons_succ] at hp
      unfold findP
      rw [if_neg (bLt_ne (h.1 p.key (List.mem_map.2 ⟨p, List.mem_of_getElem? hp, rfl⟩)))]
      exact ih h.2 hp
theorem doP_keys {M : List PP} {o : PO} {fm : List PP} {fr : PR} (h : ∀ p ∈ M, p.key.size ≤ 1000) (hk : o.key.size ≤ 1000) (hd : (fm, fr) = doP M o) : ∀ p ∈ fm, p.key.size ≤ 1000 := by
  have hp : ∀ p ∈ putP M ⟨o.key, o.val⟩, p.key.size ≤ 1000 := fun p hp => by
    have hin : p = ⟨o.key, o.val⟩ ∨ p ∈ M := by
      unfold putP putBy at hp
      split at hp
      · exact mem_repl hp
      · exact mem_ins hp
    rcases hin with rfl | hin
    · exact hk
    · exact h p hin
  unfold doP at hd
  split at hd
  · injection hd with h1 _; rw [h1]; exact h
  · split at hd
    · injection hd with h1 _; rw [h1]; exact hp
    · split at hd
      · split at hd
        · injection hd with h1 _; rw [h1]; exact hp
        · injection hd with h1 _; rw [h1]; exact h
      · injection hd with h1 _
        rw [h1]
        intro p hp
        exact h p (List.mem_filter.1 hp).1
theorem turned_below {w0 w w' : World} {b : Nat} (h : Below w0.heap.size w0 w) (ht : w.mapTurned w' b) (hb : w0.heap.size ≤ b) : Below w0.heap.size w0 w' := h.grown ht.grown h.size fun k hk => by have := Option.some.inj hk; omega
theorem err_size {o : PO} (h : o.err = 0) : o.key.size ≤ 1000 ∧ ¬ (o.kind = 0 ∨ 4 < o.kind) := by
  unfold PO.err at h
  by_cases h1 : o.kind = 0 ∨ 4 < o.kind
  · rw [if_pos h1] at h; exact absurd h (by decide)
  · rw [if_neg h1] at h
    by_cases h2 : o.key.size < 1 ∨ 32 < o.key.size ∨ 2000 < o.val.size ∨ 2000 < o.old.size
    · rw [if_pos h2] at h; exact absurd h (by decide)
    · exact ⟨by omega, h1⟩
set_option maxHeartbeats 16000000 in
set_option maxRecDepth 1000000 in
theorem map_walk (l : List {o : PO // 0 ≤ o.kind ∧ o.kind ≤ 255}) (v : Value) (w : World) (h : opR.N w Any v l) :
    Calls Try.prog 6 #[v] w fun e w' => e = .returned (.bool true) ∧ Below w.heap.size w w' := by
  obtain ⟨AL0, cp, rfl, hlc, hcm⟩ := h.slice
  have cW := works_any w
  unfold maxLen at hcm
  have HL := Lib.hid h
  have hz := zero_res
  have hzk : ∀ W, (zeroValue 53).run Try.prog W = .ok (.agg #[.string ⟨#[]⟩]) W := fun W => by kernel_rfl
  clear h
  go_enter Try.func6, Try.ntmps6
  go_wp2_with fail
  refine cW.mono ?_
  rintro e w1 ⟨rfl, hb1⟩
  clear cW
  by_cases hlen : 300 < l.length
  · have j1 : (300 : Int) < (l.length : Int) := by omega
    have cW2 := works_any w1
    go_wp2_with fail
    refine cW2.mono ?_
    rintro e w2 ⟨rfl, hb2⟩
    clear cW2
    go_wp2_with fail
    go_ret
    exact ⟨rfl, hb1.trans (Joins.below_le hb2 hb1.size)⟩
  · have j1 : ¬ (300 : Int) < (l.length : Int) := by omega
    obtain ⟨mb, hmb⟩ : ∃ mb, mb = w1.heap.size := ⟨_, rfl⟩
    obtain ⟨w2, hw2⟩ : ∃ w2, w2 = w1.alloc (.map #[] 0) := ⟨_, rfl⟩
    have hb2 : Below w.heap.size w w2 := by rw [hw2]; exact hb1.alloc hb1.size _
    have hm2 : MapP w2 mb 0 [] := by rw [hw2, hmb]; exact MapP.made w1
    have hmw : w.heap.size ≤ mb := by rw [hmb]; exact hb1.size
    have HW2 := Lib.hid hw2
    have HB2 := Lib.hid hb2
    have HM2 := Lib.hid hm2
    clear hw2 hb2 hm2 hb1
    have hmm := run_makeMap (P := Try.prog) 51 w1
    go_upto_region 4 with fail
    rw [← HW2.out, ← hmb]
    clear hmb HW2 hmm
    go_wp2_with fail
    go_loopw [4, 5, 6, 7, 8, 9, 10, 11, 12] (fun s4 s5 _ _ _ _ _ _ _ wr => ∃ (i : Nat) (M : List PP), s5 = .int .i64 (i : Int) ∧ i ≤ l.length ∧ M.length ≤ i ∧ Hid (∀ p ∈ M, p.key.size ≤ 1000) ∧ Hid (rise M) ∧ Hid (MapP wr mb i M) ∧ Hid (pairR.N wr (fun b => b ≠ mb) s4 M) ∧ Hid (Below w.heap.size w wr)) (fun _ s5 _ _ _ _ _ _ _ _ => l.length - (intOf s5).toNat)
    case atStart => exact ⟨0, [], rfl, Nat.zero_le _, Nat.le_refl _, Lib.hid (fun p hp => by cases hp), Lib.hid List.Pairwise.nil, HM2, Lib.hid (Rec.N.nil _ _), HB2⟩
    case round =>
      clear HM2 HB2
      obtain ⟨i, M, rfl, hi, hml, hKS, hR, hMP, hN, hB⟩ := hrel
      obtain ⟨wz, hwz⟩ : ∃ wz : World, wz = wr := ⟨_, rfl⟩
      subst hwz
      obtain ⟨A4, c4, hs4, hc4, hm4⟩ := hN.out.slice
      subst hs4
      by_cases hil : i < l.length
      · as_aux_lemma =>
          have a1 : (i : Int) < (l.length : Int) := by omega
          have a0 : (0 : Int) ≤ (i : Int) := by omega
          obtain ⟨⟨o, hok⟩, hoi⟩ : ∃ o, l[i]? = some o := ⟨_, List.getElem?_eq_getElem hil⟩
          obtain ⟨bl, ol, n', k', hv, -, hbl, f0, f1, f2, f3, f4⟩ := op_cell (HL.out.grow hB.out) hoi
          dsimp only at f0 f1 f2 f3 f4
          injection hv with e1 e2 e3
          subst e1 e2 e3
          obtain ⟨w3, hw3⟩ : ∃ w3, w3 = wz.alloc (.cells #[.int .u8 o.kind, .string o.key, .string o.val, .string o.old, .bool o.had] 32) := ⟨_, rfl⟩
          have hb3 : Below wz.heap.size wz w3 := by rw [hw3]; exact (Below.refl _ _).alloc (Nat.le_refl _) _
          have hx3 : w3.heap[wz.heap.size]? = some (.cells #[.int .u8 o.kind, .string o.key, .string o.val, .string o.old, .bool o.had] 32 (0, 0)) := by rw [hw3]; exact heap_alloc_new wz _
          have hpf : ∀ W, Below w3.heap.size w3 W → W.cell? ⟨wz.heap.size, 0, none⟩ = some (.int .u8 o.kind) ∧ W.cell? ⟨wz.heap.size, 1, none⟩ = some (.string o.key) ∧ W.cell? ⟨wz.heap.size, 2, none⟩ = some (.string o.val) ∧ W.cell? ⟨wz.heap.size, 3, none⟩ = some (.string o.old) ∧ W.cell? ⟨wz.heap.size, 4, none⟩ = some (.bool o.had) := fun W hW => by
            have e := (hW.block _ (Array.getElem?_eq_some_iff.1 hx3).1).trans hx3
            exact ⟨(blk_cells e).1 0, (blk_cells e).1 1, (blk_cells e).1 2, (blk_cells e).1 3, (blk_cells e).1 4⟩
          obtain ⟨p0, p1, p2, p3, p4⟩ := hpf w3 (Below.refl _ _)
          have cD := pdo_any M o _ w3 ((hN.out.grow hb3).any) (by omega) hok
          obtain ⟨er, her⟩ : ∃ er, er = o.err := ⟨_, rfl⟩
          obtain ⟨⟨fm, fr⟩, hd⟩ : ∃ d, d = doE M o := ⟨_, rfl⟩
          rw [← hd, ← her] at cD
          unfold PR.agg PO.agg at cD
          have HW3 := Lib.hid hw3
          have HB3 := Lib.hid hb3
          have HPF := Lib.hid hpf
          have HD := Lib.hid hd
          have HER := Lib.hid her
          clear hw3 hb3 hx3 hpf hoi hd her
          go_upto_region 9 with fail
          rw [← HW3.out]
          clear f0 f1 f2 f3 f4
          go_wp2_with fail
          refine cD.mono ?_
          rintro e w4 ⟨v4, rfl, o4, hb4⟩
          obtain ⟨A7, c7, hv7⟩ := o4.slice
          subst hv7
          obtain ⟨w5, hw5⟩ : ∃ w5, w5 = w4.alloc (.cells #[.int .u8 fr.kind, .bool fr.found, .string fr.val] 27) := ⟨_, rfl⟩
          have hb45 : Below w4.heap.size w4 w5 := by rw [hw5]; exact (Below.refl _ _).alloc (Nat.le_refl _) _
          have hx5 : w5.heap[w4.heap.size]? = some (.cells #[.int .u8 fr.kind, .bool fr.found, .string fr.val] 27 (0, 0)) := by rw [hw5]; exact heap_alloc_new w4 _
          have hb35 : Below w3.heap.size w3 w5 := hb4.trans (Joins.below_le hb45 hb4.size)
          have hbz5 : Below wz.heap.size wz w5 := HB3.out.trans (Joins.below_le hb35 HB3.out.size)
          have hn5 : pairR.N w5 (fun b => w3.heap.size ≤ b) (.slice A7 fm.length c7) fm := (o4.below hb45).n
          have HW5 := Lib.hid hw5
          have HX5 := Lib.hid hx5
          have HB35 := Lib.hid hb35
          have HBZ5 := Lib.hid hbz5
          have HN5 := Lib.hid hn5
          have hMP5 := hMP.out.same (hbz5.block _ hMP.out.lt)
          have HMP5 := Lib.hid hMP5
          clear cD p0 p1 p2 p3 p4 hw5 hb45 hx5 hb35 hbz5 hn5 o4 hb4 hMP5
          go_upto_region 10 with fail
          rw [← HW5.out]
          by_cases he : er = 0
          · subst he
            obtain ⟨hks, hkk⟩ := err_size HER.out.symm
            have hdp : (fm, fr) = doP M o := by rw [HD.out]; unfold doE; rw [if_neg (by rw [← HER.out]; simp)]
            have HDP := Lib.hid hdp
            obtain ⟨p0, p1, p2, p3, p4⟩ := HPF.out w5 HB35.out
            have hlk := HMP5.out.look hks
            obtain ⟨had, hhad⟩ : ∃ had, had = (findP M o.key).isSome := ⟨_, rfl⟩
            obtain ⟨fv, hfv⟩ : ∃ fv, fv = (findP M o.key).getD ⟨#[]⟩ := ⟨_, rfl⟩
            rw [← hhad, ← hfv] at hlk
            have HHAD := Lib.hid hhad
            have HFV := Lib.hid hfv
            obtain ⟨w6, hw6⟩ : ∃ w6, w6 = w5.alloc (.cells #[.string fv] 53) := ⟨_, rfl⟩
            have hb56 : Below w5.heap.size w5 w6 := by rw [hw6]; exact (Below.refl _ _).alloc (Nat.le_refl _) _
            have hx6 : w6.heap[w5.heap.size]? = some (.cells #[.string fv] 53 (0, 0)) := by rw [hw6]; exact heap_alloc_new w5 _
            have hb36 := HB35.out.trans (Joins.below_le hb56 HB35.out.size)
            have hbw6 : Below w.heap.size w w6 := hB.out.trans (Joins.below_le (HBZ5.out.trans (Joins.below_le hb56 HBZ5.out.size)) hB.out.size)
            have hmp6 := HMP5.out.same (hb56.block _ HMP5.out.lt)
            have hmlt : mb < wz.heap.size := hMP.out.lt
            have hn6 : pairR.N w6 (fun b => b ≠ mb) (.slice A7 fm.length c7) fm := (HN5.out.mono fun b hb _ => by have := HB3.out.size; omega).grow hb56
            obtain ⟨r0, r1, r2⟩ : w6.cell? ⟨w4.heap.size, 0, none⟩ = some (.int .u8 fr.kind) ∧ w6.cell? ⟨w4.heap.size, 1, none⟩ = some (.bool fr.found) ∧ w6.cell? ⟨w4.heap.size, 2, none⟩ = some (.string fr.val) := by
              have e := (hb56.block _ (Array.getElem?_eq_some_iff.1 HX5.out).1).trans HX5.out
              exact ⟨(blk_cells e).1 0, (blk_cells e).1 1, (blk_cells e).1 2⟩
            have q0 : w6.cell? ⟨w5.heap.size, 0, none⟩ = some (.string fv) := (blk_cells hx6).1 0
            have hgr : ∀ W, Below w6.heap.size w6 W ∨ w6.mapTurned W mb → pairR.N W (fun b => b ≠ mb) (.slice A7 fm.length c7) fm ∧ Below w.heap.size w W := fun W hW => by
              rcases hW with hW | hW
              · exact ⟨hn6.grow hW, hbw6.trans (Joins.below_le hW hbw6.size)⟩
              · exact ⟨hn6.kept (fun _ h _ => h) hW.grown.size fun b hb hs => hW.grown.block b hs fun e => hb (Option.some.inj e), turned_below hbw6 hW hmw⟩
            have HW6 := Lib.hid hw6
            have HGR := Lib.hid hgr
            have HMP6 := Lib.hid hmp6
            clear hdp hhad hfv hw6 hb56 hx6 hbw6 hmp6 hn6 hgr
            go_upto_region 12 with fail
            rw [← HW6.out]
            clear p0 p1 p2 p3 p4 hlk
            obtain ⟨p0, p1, p2, p3, p4⟩ := HPF.out w6 hb36
            clear hb36
            have hfl : fm.length ≤ i + 1 := by have := doP_length M o; rw [← HDP.out] at this; exact Nat.le_trans this (by omega)
            have HKS2 : Hid (∀ p ∈ fm, p.key.size ≤ 1000) := Lib.hid (doP_keys hKS.out hks HDP.out)
            by_cases k1 : o.kind = 1
            · as_aux_lemma =>
                have hd1 : (fm, fr) = (M, ⟨1, had, fv⟩) := by rw [HDP.out, HHAD.out, HFV.out]; unfold doP; rw [if_pos k1]
                injection hd1 with t1 t2
                have t3 : fr.found = had := by rw [t2]
                have t4 : fr.val = fv := by rw [t2]
                rw [t3] at r1
                rw [t4] at r2
                clear t2 t3 t4
                have HMP := Lib.hid (show MapP w6 mb (i + 1) fm by rw [t1]; exact HMP6.out.mono (Nat.le_succ i))
                have HNN := Lib.hid ((HGR.out w6 (.inl (Below.refl _ _))).1)
                have HRI := Lib.hid (show rise fm by rw [t1]; exact hR.out)
                have HBL := Lib.hid ((HGR.out w6 (.inl (Below.refl _ _))).2)
                have cR := rising_any fm _ w6 HNN.out.any HRI.out
                clear t1
                go_wp2_with fail
                refine cR.mono ?_
                rintro e w9 ⟨rfl, hb9⟩
                have hmp9 := HMP.out.same (hb9.block _ HMP.out.lt)
                have hle := fun ty => hmp9.len ty
                have HMP9 := Lib.hid hmp9
                have HNN9 := Lib.hid (HNN.out.grow hb9)
                have HBL9 := Lib.hid (HBL.out.trans (Joins.below_le hb9 HBL.out.size))
                clear cR hmp9 hb9
                go_wp2_with fail
                exact ⟨⟨i + 1, fm, by go_num, hil, hfl, HKS2, HRI, HMP9, HNN9, HBL9⟩, by simp [intOf]; omega⟩
            · by_cases k2 : o.kind = 2
              · as_aux_lemma =>
                  have hd1 : (fm, fr) = (putP M ⟨o.key, o.val⟩, ⟨1, false, ⟨#[]⟩⟩) := by rw [HDP.out]; unfold doP; rw [if_neg k1, if_pos k2]
                  injection hd1 with t1 t2
                  obtain ⟨w7, hup, hmp7, ht7⟩ := HMP6.out.put (v := o.val) hks (by unfold maxLen; omega)
                  rw [← t1] at hmp7
                  have HMP7 := Lib.hid hmp7
                  have HT7 := Lib.hid ht7
                  have HRI2 : Hid (rise fm) := Lib.hid (by rw [t1]; exact rise_put hR.out _)
                  clear t2 t1 hmp7 ht7
                  go_upto_region 27 with fail
                  clear hup
                  have HMP := Lib.hid (HMP7.out)
                  have HNN := Lib.hid ((HGR.out w7 (.inr HT7.out)).1)
                  have HRI := Lib.hid (HRI2.out)
                  have HBL := Lib.hid ((HGR.out w7 (.inr HT7.out)).2)
                  have cR := rising_any fm _ w7 HNN.out.any HRI.out
                  clear p0 p1 p2 p3 p4 r0 r1 r2 q0
                  go_wp2_with fail
                  refine cR.mono ?_
                  rintro e w9 ⟨rfl, hb9⟩
                  have hmp9 := HMP.out.same (hb9.block _ HMP.out.lt)
                  have hle := fun ty => hmp9.len ty
                  have HMP9 := Lib.hid hmp9
                  have HNN9 := Lib.hid (HNN.out.grow hb9)
                  have HBL9 := Lib.hid (HBL.out.trans (Joins.below_le hb9 HBL.out.size))
                  clear cR hmp9 hb9
                  go_wp2_with fail
                  exact ⟨⟨i + 1, fm, by go_num, hil, hfl, HKS2, HRI, HMP9, HNN9, HBL9⟩, by simp [intOf]; omega⟩
              · by_cases k3 : o.kind = 3
                · as_aux_lemma =>
                    have hd1 : (fm, fr) = (delP M o.key, ⟨1, had, ⟨#[]⟩⟩) := by rw [HDP.out, HHAD.out]; unfold doP; rw [if_neg k1, if_neg k2, if_neg (by omega)]
                    injection hd1 with t1 t2
                    have t3 : fr.found = had := by rw [t2]
                    rw [t3] at r1
                    have hdl := fun ty => HMP6.out.del hR.out hks ty
                    obtain ⟨w7, hup, hmp7, ht7⟩ := hdl 0
                    rw [← t1] at hmp7
                    have HMP7 := Lib.hid (hmp7.mono (Nat.le_succ i))
                    have HT7 := Lib.hid ht7
                    have HRI2 : Hid (rise fm) := Lib.hid (by rw [t1]; exact rise_del hR.out _)
                    clear t2 t1 t3 hmp7 ht7 hdl
                    go_upto_region 27 with fail
                    clear hup
                    have HMP := Lib.hid (HMP7.out)
                    have HNN := Lib.hid ((HGR.out w7 (.inr HT7.out)).1)
                    have HRI := Lib.hid (HRI2.out)
                    have HBL := Lib.hid ((HGR.out w7 (.inr HT7.out)).2)
                    have cR := rising_any fm _ w7 HNN.out.any HRI.out
                    clear p0 p1 p2 p3 p4 r0 r1 r2 q0
                    go_wp2_with fail
                    refine cR.mono ?_
                    rintro e w9 ⟨rfl, hb9⟩
                    have hmp9 := HMP.out.same (hb9.block _ HMP.out.lt)
                    have hle := fun ty => hmp9.len ty
                    have HMP9 := Lib.hid hmp9
                    have HNN9 := Lib.hid (HNN.out.grow hb9)
                    have HBL9 := Lib.hid (HBL.out.trans (Joins.below_le hb9 HBL.out.size))
                    clear cR hmp9 hb9
                    go_wp2_with fail
                    exact ⟨⟨i + 1, fm, by go_num, hil, hfl, HKS2, HRI, HMP9, HNN9, HBL9⟩, by simp [intOf]; omega⟩
                · have k4 : o.kind = 4 := by omega
                  have hft := fits_eq M o
                  rw [← HHAD.out, ← HFV.out] at hft
                  obtain ⟨ft, hftv⟩ : ∃ ft, ft = fits M o := ⟨_, rfl⟩
                  rw [← hftv] at hft
                  have hd1 : (fm, fr) = if ft then (putP M ⟨o.key, o.val⟩, ⟨1, true, ⟨#[]⟩⟩) else (M, ⟨1, false, ⟨#[]⟩⟩) := by rw [HDP.out, hftv]; unfold doP; rw [if_neg k1, if_neg k2, if_pos k4]
                  have HD1 := Lib.hid hd1
                  have HFT := Lib.hid hft
                  clear hftv hd1 hft
                  cases hh : o.had with
                  | true =>
                    rw [hh] at p4
                    cases had with
                    | true =>
                      by_cases hx : fv = o.old
                      · as_aux_lemma =>
                          have hx2 := eqS_yes hx
                          have hft1 : ft = true := by rw [HFT.out, hh]; simp [hx]
                          have hd2 := HD1.out
                          rw [if_pos hft1] at hd2
                          injection hd2 with t1 t2
                          have t3 : fr.found = true := by rw [t2]
                          rw [t3] at r1
                          obtain ⟨w7, hup, hmp7, ht7⟩ := HMP6.out.put (v := o.val) hks (by unfold maxLen; omega)
                          rw [← t1] at hmp7
                          have HMP7 := Lib.hid hmp7
                          have HT7 := Lib.hid ht7
                          have HRI2 : Hid (rise fm) := Lib.hid (by rw [t1]; exact rise_put hR.out _)
                          clear t2 t1 t3 hmp7 ht7 hft1
                          go_upto_region 27 with fail
                          clear hup
                          have HMP := Lib.hid (HMP7.out)
                          have HNN := Lib.hid ((HGR.out w7 (.inr HT7.out)).1)
                          have HRI := Lib.hid (HRI2.out)
                          have HBL := Lib.hid ((HGR.out w7 (.inr HT7.out)).2)
                          have cR := rising_any fm _ w7 HNN.out.any HRI.out
                          clear p0 p1 p2 p3 p4 r0 r1 r2 q0
                          go_wp2_with fail
                          refine cR.mono ?_
                          rintro e w9 ⟨rfl, hb9⟩
                          have hmp9 := HMP.out.same (hb9.block _ HMP.out.lt)
                          have hle := fun ty => hmp9.len ty
                          have HMP9 := Lib.hid hmp9
                          have HNN9 := Lib.hid (HNN.out.grow hb9)
                          have HBL9 := Lib.hid (HBL.out.trans (Joins.below_le hb9 HBL.out.size))
                          clear cR hmp9 hb9
                          go_wp2_with fail
                          exact ⟨⟨i + 1, fm, by go_num, hil, hfl, HKS2, HRI, HMP9, HNN9, HBL9⟩, by simp [intOf]; omega⟩
                      · as_aux_lemma =>
                          have hx2 := eqS_no hx
                          have hft1 : ft = false := by rw [HFT.out, hh]; simp [hx]
                          have hd2 := HD1.out
                          rw [if_neg (by rw [hft1]; exact Bool.noConfusion)] at hd2
                          injection hd2 with t1 t2
                          have t3 : fr.found = false := by rw [t2]
                          rw [t3] at r1
                          clear t2 t3 hft1
                          have HMP := Lib.hid (show MapP w6 mb (i + 1) fm by rw [t1]; exact HMP6.out.mono (Nat.le_succ i))
                          have HNN := Lib.hid ((HGR.out w6 (.inl (Below.refl _ _))).1)
                          have HRI := Lib.hid (show rise fm by rw [t1]; exact hR.out)
                          have HBL := Lib.hid ((HGR.out w6 (.inl (Below.refl _ _))).2)
                          have cR := rising_any fm _ w6 HNN.out.any HRI.out
                          clear t1
                          go_wp2_with fail
                          refine cR.mono ?_
                          rintro e w9 ⟨rfl, hb9⟩
                          have hmp9 := HMP.out.same (hb9.block _ HMP.out.lt)
                          have hle := fun ty => hmp9.len ty
                          have HMP9 := Lib.hid hmp9
                          have HNN9 := Lib.hid (HNN.out.grow hb9)
                          have HBL9 := Lib.hid (HBL.out.trans (Joins.below_le hb9 HBL.out.size))
                          clear cR hmp9 hb9
                          go_wp2_with fail
                          exact ⟨⟨i + 1, fm, by go_num, hil, hfl, HKS2, HRI, HMP9, HNN9, HBL9⟩, by simp [intOf]; omega⟩
                    | false =>
                      as_aux_lemma =>
                        have hft1 : ft = false := by rw [HFT.out, hh]; simp
                        have hd2 := HD1.out
                        rw [if_neg (by rw [hft1]; exact Bool.noConfusion)] at hd2
                        injection hd2 with t1 t2
                        have t3 : fr.found = false := by rw [t2]
                        rw [t3] at r1
                        clear t2 t3 hft1
                        have HMP := Lib.hid (show MapP w6 mb (i + 1) fm by rw [t1]; exact HMP6.out.mono (Nat.le_succ i))
                        have HNN := Lib.hid ((HGR.out w6 (.inl (Below.refl _ _))).1)
                        have HRI := Lib.hid (show rise fm by rw [t1]; exact hR.out)
                        have HBL := Lib.hid ((HGR.out w6 (.inl (Below.refl _ _))).2)
                        have cR := rising_any fm _ w6 HNN.out.any HRI.out
                        clear t1
                        go_wp2_with fail
                        refine cR.mono ?_
                        rintro e w9 ⟨rfl, hb9⟩
                        have hmp9 := HMP.out.same (hb9.block _ HMP.out.lt)
                        have hle := fun ty => hmp9.len ty
                        have HMP9 := Lib.hid hmp9
                        have HNN9 := Lib.hid (HNN.out.grow hb9)
                        have HBL9 := Lib.hid (HBL.out.trans (Joins.below_le hb9 HBL.out.size))
                        clear cR hmp9 hb9
                        go_wp2_with fail
                        exact ⟨⟨i + 1, fm, by go_num, hil, hfl, HKS2, HRI, HMP9, HNN9, HBL9⟩, by simp [intOf]; omega⟩
                  | false =>
                    rw [hh] at p4
                    cases had with
                    | true =>
                      as_aux_lemma =>
                        have hft1 : ft = false := by rw [HFT.out, hh]; simp
                        have hd2 := HD1.out
                        rw [if_neg (by rw [hft1]; exact Bool.noConfusion)] at hd2
                        injection hd2 with t1 t2
                        have t3 : fr.found = false := by rw [t2]
                        rw [t3] at r1
                        clear t2 t3 hft1
                        have HMP := Lib.hid (show MapP w6 mb (i + 1) fm by rw [t1]; exact HMP6.out.mono (Nat.le_succ i))
                        have HNN := Lib.hid ((HGR.out w6 (.inl (Below.refl _ _))).1)
                        have HRI := Lib.hid (show rise fm by rw [t1]; exact hR.out)
                        have HBL := Lib.hid ((HGR.out w6 (.inl (Below.refl _ _))).2)
                        have cR := rising_any fm _ w6 HNN.out.any HRI.out
                        clear t1
                        go_wp2_with fail
                        refine cR.mono ?_
                        rintro e w9 ⟨rfl, hb9⟩
                        have hmp9 := HMP.out.same (hb9.block _ HMP.out.lt)
                        have hle := fun ty => hmp9.len ty
                        have HMP9 := Lib.hid hmp9
                        have HNN9 := Lib.hid (HNN.out.grow hb9)
                        have HBL9 := Lib.hid (HBL.out.trans (Joins.below_le hb9 HBL.out.size))
                        clear cR hmp9 hb9
                        go_wp2_with fail
                        exact ⟨⟨i + 1, fm, by go_num, hil, hfl, HKS2, HRI, HMP9, HNN9, HBL9⟩, by simp [intOf]; omega⟩
                    | false =>
                      as_aux_lemma =>
                        have hft1 : ft = true := by rw [HFT.out, hh]; simp
                        have hd2 := HD1.out
                        rw [if_pos hft1] at hd2
                        injection hd2 with t1 t2
                        have t3 : fr.found = true := by rw [t2]
                        rw [t3] at r1
                        obtain ⟨w7, hup, hmp7, ht7⟩ := HMP6.out.put (v := o.val) hks (by unfold maxLen; omega)
                        rw [← t1] at hmp7
                        have HMP7 := Lib.hid hmp7
                        have HT7 := Lib.hid ht7
                        have HRI2 : Hid (rise fm) := Lib.hid (by rw [t1]; exact rise_put hR.out _)
                        clear t2 t1 t3 hmp7 ht7 hft1
                        go_upto_region 27 with fail
                        clear hup
                        have HMP := Lib.hid (HMP7.out)
                        have HNN := Lib.hid ((HGR.out w7 (.inr HT7.out)).1)
                        have HRI := Lib.hid (HRI2.out)
                        have HBL := Lib.hid ((HGR.out w7 (.inr HT7.out)).2)
                        have cR := rising_any fm _ w7 HNN.out.any HRI.out
                        clear p0 p1 p2 p3 p4 r0 r1 r2 q0
                        go_wp2_with fail
                        refine cR.mono ?_
                        rintro e w9 ⟨rfl, hb9⟩
                        have hmp9 := HMP.out.same (hb9.block _ HMP.out.lt)
                        have hle := fun ty => hmp9.len ty
                        have HMP9 := Lib.hid hmp9
                        have HNN9 := Lib.hid (HNN.out.grow hb9)
                        have HBL9 := Lib.hid (HBL.out.trans (Joins.below_le hb9 HBL.out.size))
                        clear cR hmp9 hb9
                        go_wp2_with fail
                        exact ⟨⟨i + 1, fm, by go_num, hil, hfl, HKS2, HRI, HMP9, HNN9, HBL9⟩, by simp [intOf]; omega⟩
          · have HN5' := Lib.hid (hN.out.grow HBZ5.out)
            have HMP5' := Lib.hid (HMP5.out.mono (Nat.le_succ _))
            have HBL := Lib.hid (hB.out.trans (Joins.below_le HBZ5.out hB.out.size))
            go_wp2_with fail
            exact ⟨⟨i + 1, M, by go_num, hil, by omega, hKS, hR, HMP5', HN5', HBL⟩, by simp [intOf]; omega⟩
      · as_aux_lemma =>
          have a1 : ¬ (i : Int) < (l.length : Int) := by omega
          go_wp2_with fail
          go_loopw [13, 14, 15] (fun s13 _ _ wx => ∃ j : Nat, s13 = .int .i64 (j : Int) ∧ j ≤ M.length ∧ Hid (Below wz.heap.size wz wx)) (fun s13 _ _ _ => M.length - (intOf s13).toNat)
          case atStart => exact ⟨0, rfl, Nat.zero_le _, Lib.hid (Below.refl _ _)⟩
          case round =>
            obtain ⟨j, rfl, hj, hBX⟩ := hrel
            obtain ⟨wy, hwy⟩ : ∃ wy : World, wy = wr := ⟨_, rfl⟩
            subst hwy
            by_cases hjl : j < M.length
            · have b1 : (j : Int) < (M.length : Int) := by omega
              have b0 : (0 : Int) ≤ (j : Int) := by omega
              obtain ⟨p, hpj⟩ : ∃ p, M[j]? = some p := ⟨_, List.getElem?_eq_getElem hjl⟩
              have hfp := find_at hR.out hpj
              obtain ⟨bb, ob, n', k', hv, -, hbs, c0, c1⟩ := pair_cell ((hN.out.grow hBX.out).any) hpj
              injection hv with e1 e2 e3
              subst e1 e2 e3
              have hpk : p.key.size ≤ 1000 := hKS.out p (List.mem_of_getElem? hpj)
              have hlk := (hMP.out.same (hBX.out.block _ hMP.out.lt)).look hpk
              rw [hfp] at hlk
              have hlk2 : (Instr.lookup 51 (.map (some mb)) (.string p.key) true).run Try.prog wy = .ok (.tuple #[.agg #[.string p.val], .bool true]) wy := hlk
              obtain ⟨w6, hw6⟩ : ∃ w6, w6 = wy.alloc (.cells #[.string p.val] 53) := ⟨_, rfl⟩
              have hb6 : Below wy.heap.size wy w6 := by rw [hw6]; exact (Below.refl _ _).alloc (Nat.le_refl _) _
              have hx6 : w6.heap[wy.heap.size]? = some (.cells #[.string p.val] 53 (0, 0)) := by rw [hw6]; exact heap_alloc_new wy _
              have q0 : w6.cell? ⟨wy.heap.size, 0, none⟩ = some (.string p.val) := (blk_cells hx6).1 0
              have d1 : w6.cell? ⟨bb, ob + j * 2 + 1, none⟩ = some (.string p.val) := (hb6.cell (p := ⟨bb, ob + j * 2 + 1, none⟩) hbs).trans c1
              have HW6 := Lib.hid hw6
              have HB7 := Lib.hid ((hBX.out.trans (Joins.below_le hb6 hBX.out.size)).drew)
              clear hfp hlk hpj hw6 hb6 hx6
              go_upto_region 34 with fail
              rw [← HW6.out]
              clear c0 c1 hlk2
              go_region
              go_wp2_with fail
              exact ⟨⟨j + 1, by go_num, hjl, HB7⟩, by simp [intOf]; omega⟩
            · have b1 : ¬ (j : Int) < (M.length : Int) := by omega
              have HB7 := Lib.hid (hB.out.trans (Joins.below_le hBX.out hB.out.size))
              go_wp2_with fail
              go_ret
              exact ⟨rfl, HB7.out⟩
end Go.Proofs.Ytlgjidoehnhnoaa
