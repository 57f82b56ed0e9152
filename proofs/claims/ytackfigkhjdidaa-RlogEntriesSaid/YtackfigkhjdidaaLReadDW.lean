/-
  The entry of some bytes: the document's Read, walked. No statement is proved here. No condition.
-/
import Derived.Test.YtackfigkhjdidaaLReadD
namespace Go.Proofs.Ytackfigkhjdidaa
open Go.RowKit

/-- a reading ahead of the entry's block -/
structure RdPre (w0 w : World) (R r : Nat) (st : Option (List UInt8)) : Prop where
  rdr : Rdr 187 w R st
  q : w.heap[r]? = some (.cells #[.int .i64 0, .int .u8 0, .string ⟨#[]⟩, .slice none 0 0] 50 (0, 0))
  below : Below w0.heap.size w0 w
  lo : w0.heap.size ≤ r ∧ r < R
theorem RdPre.call {w0 w w' : World} {R r : Nat} {st st' : Option (List UInt8)} (h : RdPre w0 w R r st) (hg : w.grownBy w' (some R)) (hr : Rdr 187 w' R st') : RdPre w0 w' R r st' := by
  have lo := h.lo
  exact ⟨hr, (hg.block r (lt_of_heap h.q) fun e => by have := Option.some.inj e; omega).trans h.q, h.below.grown hg h.below.size fun p hp => by have := Option.some.inj hp; omega, lo⟩
theorem RdPre.make {w0 w : World} {R r : Nat} {st : Option (List UInt8)} (h : RdPre w0 w R r st) (t k : Int) (d : ByteArray) : RdSd w0 (w.alloc (.cells #[.int .i64 t, .int .u8 k, .string d, .slice none 0 0] 50)) R w.heap.size r st t k d (.slice none 0 0) [] := by
  have hb : Below w.heap.size w (w.alloc (.cells #[.int .i64 t, .int .u8 k, .string d, .slice none 0 0] 50)) := (Below.refl _ _).alloc (Nat.le_refl _) _
  have lo := h.lo
  exact ⟨h.rdr.alloc _, heap_alloc_new w _, (hb.block r (lt_of_heap h.q)).trans h.q, Rec.Own.none _ _ _ _, h.below.trans (Joins.below_le hb h.below.size), lo.1, lo.2, h.rdr.lt⟩
set_option maxHeartbeats 4000000 in
set_option maxRecDepth 100000 in
theorem readD_any (b : List UInt8) (v : Value) (w : World) (hr : Rd w w.heap.size v b) (hl : b.length ≤ 1000000) :
    Calls Try.prog 30 #[v] w (ReadPost w b) := by
  obtain ⟨A, c, hve, k1, k2, k3, k4⟩ := hr
  have hr : Rd w w.heap.size v b := ⟨A, c, hve, k1, k2, k3, k4⟩
  clear k1 k2 k3 k4
  obtain ⟨w1, hw1⟩ : ∃ w1, w1 = w.alloc (.cells #[.int .i64 0, .int .u8 0, .string ⟨#[]⟩, .slice none 0 0] 50) := ⟨_, rfl⟩
  have hb1 : Below w.heap.size w w1 := by rw [hw1]; exact (Below.refl _ _).alloc (Nat.le_refl _) _
  have hq1 : w1.heap[w.heap.size]? = some (.cells #[.int .i64 0, .int .u8 0, .string ⟨#[]⟩, .slice none 0 0] 50 (0, 0)) := by rw [hw1]; exact heap_alloc_new w _
  obtain ⟨r, hrr⟩ : ∃ r, r = w.heap.size := ⟨_, rfl⟩
  rw [← hrr] at hq1
  have hs1 : w1.heap.size = r + 1 := by rw [hw1, hrr]; simp
  have cN := xnew_any b v w1 (hr.below hb1 hb1.size) hl
  have hz := zero_ent
  have HW1 := Lib.hid hw1
  have HR := Lib.hid hrr
  have HB1 := Lib.hid (And.intro hb1 hq1)
  clear hw1 hrr hb1 hq1 hr
  subst hve
  go_enter Try.func30, Try.ntmps30
  go_upto_region 1 with fail
  rw [← HW1.out, ← HR.out]
  go_wp2_with fail
  refine cN.mono ?_
  rintro e w2 ⟨R, rfl, hRs, hrd, hb2⟩
  clear cN
  have hpre : RdPre w w2 R r (some b) := ⟨hrd, (hb2.block r (lt_of_heap HB1.out.2)).trans HB1.out.2, HB1.out.1.trans (Joins.below_le hb2 HB1.out.1.size), by have := HR.out; omega, by omega⟩
  have HST := Lib.hid hpre
  clear hpre hrd hb2 hRs hs1 HB1 HW1
  -- the term
  have c1 := xCount_any R 2147483647 (some b) w2 HST.out.rdr
  go_wp2_with fail
  refine c1.mono ?_
  rintro e w3 ⟨rfl, hg, hrd⟩
  clear c1
  replace HST := Lib.hid (HST.out.call hg hrd)
  clear hg hrd
  -- the kind
  have c1 := xCount_any R 255 _ w3 HST.out.rdr
  go_wp2_with fail
  refine c1.mono ?_
  rintro e w4 ⟨rfl, hg, hrd⟩
  clear c1
  have hk := told_range (m := 255) (by omega) (rdT (some b)).2
  replace HST := Lib.hid (HST.out.call hg hrd)
  clear hg hrd
  obtain ⟨k, hkd⟩ : ∃ k, k = (told 0 (gCount 255) (rdT (some b)).2).1 := ⟨_, rfl⟩
  have hkd' : (told 0 (gCount 255) (told 0 (gCount 2147483647) (some b)).2).1 = k := hkd.symm
  rw [← hkd] at hk
  rw [hkd']
  have hkw := wrap_u8 hk.1 hk.2
  have HK := Lib.hid hkd
  clear hkd hkd'
  -- the text
  have c1 := xStr_any R 256 _ w4 HST.out.rdr
  go_wp2_with fail
  refine c1.mono ?_
  rintro e w5 ⟨rfl, hg, hrd⟩
  clear c1
  have hpre := HST.out.call hg hrd
  have h5 := hpre.make (rdT (some b)).1 k ⟨(rdD (some b)).1.toArray⟩
  obtain ⟨ee, hee⟩ : ∃ ee, ee = w5.heap.size := ⟨_, rfl⟩
  obtain ⟨w9, hw9⟩ : ∃ w9, w9 = w5.alloc (.cells #[.int .i64 (rdT (some b)).1, .int .u8 k, .string ⟨(rdD (some b)).1.toArray⟩, .slice none 0 0] 50) := ⟨_, rfl⟩
  rw [← hw9, ← hee] at h5
  have HW9 := Lib.hid hw9
  have HEE := Lib.hid hee
  replace HST := Lib.hid h5
  clear hg hrd h5 hw9 hpre hee hk
  go_upto_region 3 with fail
  clear hkw
  rw [show (told [] (gStr 256) (told 0 (gCount 255) (told 0 (gCount 2147483647) (some b)).2).2).1 = (rdD (some b)).1 from rfl, show (told 0 (gCount 2147483647) (some b)).1 = (rdT (some b)).1 from rfl, ← HW9.out, ← HEE.out]
  clear HW9 HEE
  -- how many
  have c1 := xCount_any R 5 _ w9 HST.out.rdr
  have hm := told_range (m := 5) (by omega) (rdD (some b)).2
  obtain ⟨m, hmd⟩ : ∃ m : Nat, (m : Int) = (rdC (some b)).1 := ⟨(rdC (some b)).1.toNat, Int.toNat_of_nonneg hm.1⟩
  have hml : m ≤ 5 := by have : (rdC (some b)).1 ≤ 5 := hm.2; omega
  go_wp2_with fail
  refine c1.mono ?_
  rintro e wa ⟨rfl, hg, hrd⟩
  clear c1
  have h4 : RdSd w wa R ee r (rdC (some b)).2 (rdT (some b)).1 k ⟨(rdD (some b)).1.toArray⟩ (.slice none 0 0) [] := HST.out.call hg hrd
  have HRA : Hid (∃ A c, RdSd w wa R ee r (rdInts 0 (rdC (some b)).2).2 (rdT (some b)).1 k ⟨(rdD (some b)).1.toArray⟩ (.slice A (rdInts 0 (rdC (some b)).2).1.length c) (rdInts 0 (rdC (some b)).2).1) := Lib.hid ⟨none, 0, h4⟩
  rw [show (told 0 (gCount 5) (told [] (gStr 256) (told 0 (gCount 255) (told 0 (gCount 2147483647) (some b)).2).2).2).1 = (m : Int) from hmd.symm]
  have HM := Lib.hid hmd
  clear hg hrd h4 HST hm hmd
  go_wp2_with fail
  go_loopw [7] (fun s20 wr => ∃ i : Nat, s20 = .int .i64 (i : Int) ∧ i ≤ m ∧ Hid (∃ A c, RdSd w wr R ee r (rdInts i (rdC (some b)).2).2 (rdT (some b)).1 k ⟨(rdD (some b)).1.toArray⟩ (.slice A (rdInts i (rdC (some b)).2).1.length c) (rdInts i (rdC (some b)).2).1)) (fun s20 _ => m - (intOf s20).toNat)
  case atStart => exact ⟨0, rfl, Nat.zero_le _, HRA⟩
  case round =>
    clear HRA
    obtain ⟨i, rfl, hi, hR⟩ := hrel
    obtain ⟨A2, c2, hst⟩ := hR.out
    obtain ⟨wz, hwz⟩ : ∃ wz : World, wz = wr := ⟨_, rfl⟩
    subst hwz
    have hlen := rdInts_len i (rdC (some b)).2
    by_cases him : i < m
    · have a1 : (i : Int) < (m : Int) := by omega
      have hstd := hst.drew
      have c1 := xCount_any R 5 _ wz.drew hstd.rdr
      have hnext : ∀ w3, wz.drew.grownBy w3 (some R) → Rdr 187 w3 R (told 0 (gCount 5) (rdInts i (rdC (some b)).2).2).2 → _ := fun w3 hg hrd => (hstd.call hg hrd).more (told 0 (gCount 5) (rdInts i (rdC (some b)).2).2).1 (by rw [hlen]; omega)
      obtain ⟨⟨x0, x1, x2, x3⟩, -⟩ := hst.cells
      obtain ⟨⟨z0, z1, z2, z3⟩, -⟩ := hstd.cells
      have hc3 : ∀ w3, wz.drew.grownBy w3 (some R) → w3.cell? ⟨ee, 3, none⟩ = some (.slice A2 (rdInts i (rdC (some b)).2).1.length c2) ∧ ∀ o, (w3.alloc o).cell? ⟨ee, 3, none⟩ = some (.slice A2 (rdInts i (rdC (some b)).2).1.length c2) := fun w3 hg => by
        have e := (World.cell?_of_block (a := ⟨ee, 3, none⟩) (hg.block ee (lt_of_heap hstd.e) (fun e => by have := Option.some.inj e; have := hst.lo; omega))).trans z3
        exact ⟨e, fun o => (World.cell?_alloc_lt w3 o _ (Nat.lt_of_lt_of_le (lt_of_heap hstd.e) hg.size)).trans e⟩
      have HNEXT := Lib.hid hnext
      have HC3 := Lib.hid hc3
      have HLN := Lib.hid hlen
      clear hst hstd hR hnext hlen hc3
      go_upto_region 7 with fail
      go_region_law (first
        | (refine step_app rfl (.tmp 26) (.tmp 29) 32 rfl (.slice A2 (rdInts i (rdC (some b)).2).1.length c2) (.slice (some ⟨w3.heap.size, 0, none⟩) 1 1) rfl rfl (by with_reducible exact HAP.out) ?_)
        | (go_simp; go_at_call 72; refine c1.mono ?_; rintro e w3 ⟨rfl, hg, hrd⟩; obtain ⟨d3, d3'⟩ := HC3.out w3 hg; obtain ⟨A7, c7, w7, hap, u3, v3, hfin⟩ := HNEXT.out w3 hg hrd; have HAP := Lib.hid hap; have HFIN := Lib.hid hfin; clear hap hfin hg hrd))
      all_goals
        go_wp2_with fail
        refine ⟨⟨i + 1, by go_num, him, Lib.hid ⟨A7, c7, ?_⟩⟩, by simp [intOf]; omega⟩
        rw [rdInts_snoc]
        exact HFIN.out
    · have a1 : ¬ (i : Int) < (m : Int) := by omega
      have hie : i = m := by omega
      have hmm : (rdC (some b)).1.toNat = m := by rw [← HM.out]; exact Int.toNat_natCast m
      have hL : rdInts i (rdC (some b)).2 = rdL (some b) := by unfold rdL; rw [hmm, hie]
      rw [hL] at hst
      have hE : rdE (some b) = ⟨(rdT (some b)).1, k, ⟨(rdD (some b)).1.toArray⟩, (rdL (some b)).1⟩ := by rw [HK.out]; rfl
      have cD := xdone_any R _ wz hst.rdr
      obtain ⟨⟨x0, x1, x2, x3⟩, -⟩ := hst.cells
      have cC := checkD_any (rdE (some b)) (.slice A2 (rdL (some b)).1.length c2) wz (by rw [hE]; exact hst.own.n.any)
      rw [hE] at cC
      unfold EN.agg at cC
      dsimp only at cC
      have hq := hst.q
      have HST := Lib.hid hst
      have HEE := Lib.hid hE
      have hrl : r < wz.heap.size := lt_of_heap hst.q
      clear hst hE hL hR hie hmm hlen hi
      have hno : ∀ W, Below wz.heap.size wz W → readOk b = false → ReadPost w b (.returned (.tuple #[.agg #[.int .i64 0, .int .u8 0, .string ⟨#[]⟩, .slice none 0 0], .int .i64 4])) (W.setRow r #[.int .i64 0, .int .u8 0, .string ⟨#[]⟩, .slice none 0 0]) ∧ (W.setRow r #[.int .i64 0, .int .u8 0, .string ⟨#[]⟩, .slice none 0 0]).heap[r]? = some (.cells #[.int .i64 0, .int .u8 0, .string ⟨#[]⟩, .slice none 0 0] 50 (0, 0)) := fun W hW hn =>
        ⟨⟨.inr ⟨hn, rfl⟩, below_setRow (HST.out.below.trans (Joins.below_le hW HST.out.below.size)) HST.out.lo.1 _⟩, setRow_heap W r _ _ _ _ ((hW.block r hrl).trans HST.out.q)⟩
      have HNO := Lib.hid hno
      clear hno
      by_cases hd : ((rdL (some b)).2 == some []) = true
      · rw [hd] at cD
        have hd' : (rdL (some b)).2 = some [] := by simpa using hd
        have HD := Lib.hid hd'
        clear hd hd'
        go_wp2_with fail
        refine cD.mono ?_
        rintro e wb ⟨rfl, rfl⟩
        clear cD
        go_wp2_with fail
        refine cC.mono ?_
        rintro e wc ⟨rfl, hbc⟩
        have hbc' := hbc
        clear cC x0 x1 x2 x3
        have hq2 := (hbc.block r hrl).trans HST.out.q
        have he2 := (hbc.block ee (lt_of_heap HST.out.e)).trans HST.out.e
        have HBC := Lib.hid hbc
        clear hbc hbc' hq
        by_cases hm : EN.may ⟨(rdT (some b)).1, k, ⟨(rdD (some b)).1.toArray⟩, (rdL (some b)).1⟩ = true
        · rw [hm]
          have hok : readOk b = true := by unfold readOk; rw [HEE.out, hm, HD.out]; rfl
          have HOK := Lib.hid hok
          clear hok hm
          go_wp2_with (first
            | (refine wpList_load_row rfl 50 (.tmp 5) rfl ee rfl 50 #[.int .i64 (rdT (some b)).1, .int .u8 k, .string ⟨(rdD (some b)).1.toArray⟩, .slice A2 (rdL (some b)).1.length c2] (0, 0) _ he2 Try.underlying50 rfl (ent_sized _ _ _ _) ?_)
            | (refine wpList_store_row rfl 50 (.tmp 2) (.tmp 41) rfl r #[.int .i64 (rdT (some b)).1, .int .u8 k, .string ⟨(rdD (some b)).1.toArray⟩, .slice A2 (rdL (some b)).1.length c2] rfl rfl 50 _ hq2 (ent_sized _ _ _ _) rfl (by simp [Value.oneCell']) ?_))
          obtain ⟨wf, hwf⟩ : ∃ wf, wf = wc.setRow r #[.int .i64 (rdT (some b)).1, .int .u8 k, .string ⟨(rdD (some b)).1.toArray⟩, .slice A2 (rdL (some b)).1.length c2] := ⟨_, rfl⟩
          have hfr := setRow_heap wc r _ #[.int .i64 (rdT (some b)).1, .int .u8 k, .string ⟨(rdD (some b)).1.toArray⟩, .slice A2 (rdL (some b)).1.length c2] _ _ hq2
          have hfar : ∀ x, x ≠ r → wf.heap[x]? = wc.heap[x]? := fun x hx => by rw [hwf]; exact setRow_other wc r x _ hx
          have hbf : Below w.heap.size w wf := by rw [hwf]; exact below_setRow (HST.out.below.trans (Joins.below_le HBC.out HST.out.below.size)) HST.out.lo.1 _
          rw [← hwf] at hfr ⊢
          clear hwf
          obtain ⟨r0, r1, r2, r3⟩ : wf.cell? ⟨r, 0, none⟩ = some (.int .i64 (rdT (some b)).1) ∧ wf.cell? ⟨r, 1, none⟩ = some (.int .u8 k) ∧ wf.cell? ⟨r, 2, none⟩ = some (.string ⟨(rdD (some b)).1.toArray⟩) ∧ wf.cell? ⟨r, 3, none⟩ = some (.slice A2 (rdL (some b)).1.length c2) := ⟨(blk_cells hfr).1 0, (blk_cells hfr).1 1, (blk_cells hfr).1 2, (blk_cells hfr).1 3⟩
          have how : inR.Own wf w.heap.size 3 (.slice A2 (rdL (some b)).1.length c2) (rdL (some b)).1 := own_base (row_same (HST.out.own.below HBC.out) fun x hx => hfar x (by have := (HST.out.own.lt x hx).1; have := HST.out.lo; omega)) (by have := HST.out.lo; omega)
          have HF : Hid (ReadPost w b (.returned (.tuple #[.agg #[.int .i64 (rdT (some b)).1, .int .u8 k, .string ⟨(rdD (some b)).1.toArray⟩, .slice A2 (rdL (some b)).1.length c2], .int .i64 0])) wf) := Lib.hid ⟨.inl ⟨HOK.out, A2, c2, by rw [HEE.out]; rfl, by rw [HEE.out]; exact how⟩, hbf⟩
          clear hfr hfar hbf how he2 hq2
          exact bodyPost_ret (v := .tuple #[.agg #[.int .i64 (rdT (some b)).1, .int .u8 k, .string ⟨(rdD (some b)).1.toArray⟩, .slice A2 (rdL (some b)).1.length c2], .int .i64 0]) (by rw [results_ct rfl]; go_simp; try rfl) rfl HF.out
        · have hm' : EN.may ⟨(rdT (some b)).1, k, ⟨(rdD (some b)).1.toArray⟩, (rdL (some b)).1⟩ = false := by simpa using hm
          rw [hm']
          have hok : readOk b = false := by unfold readOk; rw [HEE.out, hm', Bool.and_false]
          obtain ⟨h1, h2⟩ := HNO.out wc HBC.out hok
          have HF := Lib.hid h1
          clear hok hm hm' he2 h1
          go_wp2_with (refine wpList_store_row rfl 50 (.tmp 2) (.tmp 40) rfl r #[.int .i64 0, .int .u8 0, .string ⟨#[]⟩, .slice none 0 0] rfl rfl 50 _ hq2 (ent_sized _ _ _ _) rfl (by simp [Value.oneCell']) ?_)
          obtain ⟨wf, hwf⟩ : ∃ wf, wf = wc.setRow r #[.int .i64 0, .int .u8 0, .string ⟨#[]⟩, .slice none 0 0] := ⟨_, rfl⟩
          rw [← hwf] at HF h2 ⊢
          clear hwf
          obtain ⟨r0, r1, r2, r3⟩ : wf.cell? ⟨r, 0, none⟩ = some (.int .i64 0) ∧ wf.cell? ⟨r, 1, none⟩ = some (.int .u8 0) ∧ wf.cell? ⟨r, 2, none⟩ = some (.string ⟨#[]⟩) ∧ wf.cell? ⟨r, 3, none⟩ = some (.slice none 0 0) := ⟨(blk_cells h2).1 0, (blk_cells h2).1 1, (blk_cells h2).1 2, (blk_cells h2).1 3⟩
          exact bodyPost_ret (v := .tuple #[.agg #[.int .i64 0, .int .u8 0, .string ⟨#[]⟩, .slice none 0 0], .int .i64 4]) (by rw [results_ct rfl]; go_simp; try rfl) rfl HF.out
      · have hd' : ((rdL (some b)).2 == some []) = false := by simpa using hd
        rw [hd'] at cD
        have hok : readOk b = false := by unfold readOk; rw [decide_eq_false (by simpa using hd'), Bool.false_and]
        obtain ⟨h1, h2⟩ := HNO.out wz (Below.refl _ _) hok
        have HF := Lib.hid h1
        clear hd hd' hok h1 cC
        go_wp2_with fail
        refine cD.mono ?_
        rintro e wb ⟨rfl, rfl⟩
        clear cD
        go_wp2_with (refine wpList_store_row rfl 50 (.tmp 2) (.tmp 40) rfl r #[.int .i64 0, .int .u8 0, .string ⟨#[]⟩, .slice none 0 0] rfl rfl 50 _ hq (ent_sized _ _ _ _) rfl (by simp [Value.oneCell']) ?_)
        obtain ⟨wf, hwf⟩ : ∃ wf, wf = wz.setRow r #[.int .i64 0, .int .u8 0, .string ⟨#[]⟩, .slice none 0 0] := ⟨_, rfl⟩
        rw [← hwf] at HF h2 ⊢
        clear hwf
        obtain ⟨r0, r1, r2, r3⟩ : wf.cell? ⟨r, 0, none⟩ = some (.int .i64 0) ∧ wf.cell? ⟨r, 1, none⟩ = some (.int .u8 0) ∧ wf.cell? ⟨r, 2, none⟩ = some (.string ⟨#[]⟩) ∧ wf.cell? ⟨r, 3, none⟩ = some (.slice none 0 0) := ⟨(blk_cells h2).1 0, (blk_cells h2).1 1, (blk_cells h2).1 2, (blk_cells h2).1 3⟩
        exact bodyPost_ret (v := .tuple #[.agg #[.int .i64 0, .int .u8 0, .string ⟨#[]⟩, .slice none 0 0], .int .i64 4]) (by rw [results_ct rfl]; go_simp; try rfl) rfl HF.out
end Go.Proofs.Ytackfigkhjdidaa
