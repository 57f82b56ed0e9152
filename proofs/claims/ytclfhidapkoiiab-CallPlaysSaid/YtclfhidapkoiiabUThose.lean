/-
  The program's 'those', with each of what is asked. No statement is proved here. No condition.
-/
import Derived.Test.YtclfhidapkoiiabUAsk
namespace Go.Proofs.Ytclfhidapkoiiab
open Go.RowKit Go.Maps

theorem info_wt : (Try.prog.info? 37).map (fun i => (i.zero, i.size, i.bytes)) = some (some (.agg #[.int .i64 0, .string ⟨#[]⟩, .int .i64 0, .int .i64 0, .int .i64 0, .int .i64 0, .bool false]), 7, 64) := by kernel_rfl
theorem info_parts {P : Program} {t : TypeId} {z : Value} {s b : Nat} (h : (P.info? t).map (fun i => (i.zero, i.size, i.bytes)) = some (some z, s, b)) : ∃ i, P.info? t = some i ∧ i.zero = some z ∧ i.size = s ∧ i.bytes = b := by
  obtain ⟨i, h1, h2⟩ := Option.map_eq_some_iff.1 h
  injection h2 with h2 h3
  injection h3 with h3 h4
  exact ⟨i, h1, h2, h3, h4⟩
/-- one wait put behind -/
theorem wt_app {w : World} {B : Nat} {v : Value} {L : List WT} {x : WT} (h : wtR.Own w B 37 v L) (hB : B ≤ w.heap.size) (hn : L.length ≤ 100000) :
    ∃ A c w3, (Builtin.append_ #[44, 44] 44 #[v, .slice (some ⟨w.heap.size, 0, none⟩) 1 1]).run Try.prog (w.alloc (.cells x.cells 37)) = .ok (.slice A (L.length + 1) c) w3 ∧ wtR.Own w3 B 37 (.slice A (L.length + 1) c) (L ++ [x]) ∧ Below B w w3 ∧ (∀ n, n < w.heap.size → v.ownBlock ≠ some n → w3.heap[n]? = w.heap[n]?) := by
  obtain ⟨w2, hw2⟩ : ∃ w2, w2 = w.alloc (.cells x.cells 37) := ⟨_, rfl⟩
  have hb2 : Below w.heap.size w w2 := by rw [hw2]; exact (Below.refl _ _).alloc (Nat.le_refl _) _
  have hx2 : w2.heap[w.heap.size]? = some (.cells (wtR.vals x).toArray 37 (0, 0)) := by rw [hw2]; exact heap_alloc_new w _
  have h2 := h.below hb2
  rw [← hw2]
  obtain ⟨i0, hi, hz0, hz1, hz2⟩ := info_parts info_wt
  obtain ⟨v', w3, hr, hown, hg, hat⟩ := Rec.app (P := Try.prog) (R := wtR) (t := 44) Try.underlying44 hi hz0 hz1 hz2 rfl (by decide) h2 (Rec.one_row (N := Any) hx2 trivial) (by unfold maxLen; simp; omega) (by simp; omega) (Nat.le_trans hB hb2.size)
  obtain ⟨A, c, rfl⟩ := hown.slice
  rw [show (L ++ [x]).length = L.length + 1 by simp] at hr hown
  refine ⟨A, c, w3, hr, hown, (Joins.below_le hb2 hB).grown hg (Nat.le_trans hB hb2.size) (fun q hq => (h2.lt q hq).1), fun n hn' hv => ?_⟩
  exact (hg.block n (Nat.lt_of_lt_of_le hn' hb2.size) fun e => hv e.symm).trans (hb2.block n hn')
/-- what was told of the first i -/
def toldP (ask : WT → Option WT) (M : List (Nat × WT)) (i : Nat) : List WT := ((M.take i).map (·.2)).filterMap ask
theorem told_zero (ask : WT → Option WT) (M : List (Nat × WT)) : toldP ask M 0 = [] := by simp [toldP]
theorem told_end (ask : WT → Option WT) (M : List (Nat × WT)) : toldP ask M M.length = (M.map (·.2)).filterMap ask := by unfold toldP; rw [List.take_length]
theorem told_succ {ask : WT → Option WT} {M : List (Nat × WT)} {i : Nat} {m : Nat × WT} (h : M[i]? = some m) : toldP ask M (i + 1) = toldP ask M i ++ (ask m.2).toList := by
  unfold toldP
  rw [List.take_add_one, h, List.map_append, List.filterMap_append]
  congr 1
theorem told_length (ask : WT → Option WT) (M : List (Nat × WT)) (i : Nat) : (toldP ask M i).length ≤ M.length := by
  unfold toldP
  refine Nat.le_trans (List.length_filterMap_le _ _) ?_
  rw [List.length_map, List.length_take]
  omega
set_option maxHeartbeats 4000000 in
set_option maxRecDepth 100000 in
theorem those_mark {w : World} {p b : Nat} {life given : Int} {M : List (Nat × WT)} (h : SC w p b life given M) (gone : Bool) (ask : WT → Option WT) (c1 : Nat)
    (hask : ∀ (i : Nat) (m : Nat × WT) (W : World), M[i]? = some m → SC W p b life given (midM gone ask M i) → Kept w W (TC b M) → Calls Try.prog 23 #[.pointer (some ⟨m.1, 0, none⟩), .pointer (some ⟨c1, 0, none⟩)] W fun e W' => e = .returned (.bool (ask m.2).isSome) ∧ SC W' p b life given (midM gone ask M (i + 1)) ∧ Kept W W' (TC b M) ∧ (∀ y, ask m.2 = some y → W'.heap[m.1]? = some (.cells y.cells 37 (0, 0)))) :
    Calls Try.prog 22 #[.pointer (some ⟨p, 0, none⟩), .func (.func 23) #[] #[.pointer (some ⟨c1, 0, none⟩)]] w fun e w' => ∃ A c, e = .returned (.slice A ((M.map (·.2)).filterMap ask).length c) ∧ wtR.Own w' w.heap.size 37 (.slice A ((M.map (·.2)).filterMap ask).length c) ((M.map (·.2)).filterMap ask) ∧ SC w' p b life given (M.filterMap (leftF gone ask)) ∧ Kept w w' (TC b M) := by
  obtain ⟨L, hL⟩ : ∃ L, L = (M.map (·.2)).filterMap ask := ⟨_, rfl⟩
  rw [← hL]
  have HL := Lib.hid hL
  clear hL
  obtain ⟨D, hown, hperm, hsize⟩ := h.map.perm
  rw [pairs_keys] at hperm
  rw [pairs_length] at hsize
  have hfew := h.few
  have cK := mapkeys_any (some b) w
  have cS := sorted_any b _ D _ w hown (by rw [hsize]; unfold maxLen; omega) (by rw [hsize]; omega)
  have c2 : w.cell? ⟨p, 2, none⟩ = some (.map (some b)) := (blk_cells h.obj).1 2
  have HA := Lib.hid hask
  have H := Lib.hid h
  have HPE := Lib.hid hperm
  clear hask h hown hsize hperm
  go_enter Try.func22, Try.ntmps22
  go_wp2_with fail
  refine cK.mono ?_
  rintro e w1 ⟨rfl, rfl⟩
  clear cK
  go_wp2_with fail
  refine cS.mono ?_
  rintro e w2 ⟨v, ss, rfl, hS, hrow, -, hb2⟩
  clear cS
  have hsort := sorted_rise H.out.rise (hS.trans HPE.out.symm)
  have hlen : ss.length = M.length := by rw [(hS.trans HPE.out.symm).length_eq, List.length_map]
  rw [hsort, hlen] at hrow
  obtain ⟨A0, c0, rfl⟩ := own_slice hrow
  have hbw : Below w.heap.size w w2 := ((Below.refl _ w).alloc (Nat.le_refl _) _).trans (Joins.below_le hb2 (by simp))
  have hrow1 : w2.ownsRow w.heap.size 3 1 (.slice A0 M.length c0) M.length ((M.map (·.2.req)).map (Value.int .i64)) := own_base hrow (by simp)
  have HR0 : Hid (w2.ownsRow w.heap.size 3 1 (.slice A0 M.length c0) M.length ((M.map (·.2.req)).map (Value.int .i64))) := Lib.hid hrow1
  have HS0 : Hid (SC w2 p b life given (midM gone ask M 0)) := Lib.hid (by rw [mid_zero]; exact H.out.below hbw)
  have HK0 : Hid (Kept w w2 (TC b M)) := Lib.hid ⟨hbw.os, hbw.tape, hbw.output, hbw.size, fun n hn _ => hbw.block n hn⟩
  have HO0 : Hid (wtR.Own w2 w.heap.size 37 (.slice none 0 0) (toldP ask M 0)) := Lib.hid (by rw [told_zero]; exact Rec.Own.none wtR w2 w.heap.size 37)
  have HLM : Hid (∀ m ∈ M, m.1 < w.heap.size) := Lib.hid fun m hm => H.out.ltm hm
  have hlb := H.out.ltb
  clear hS hrow hrow1 hb2 hsort hlen hbw c2
  go_wp2_with fail
  go_loopw [5, 7, 8, 18] (fun s5 _ _ s18 wr => ∃ (i : Nat) (A : Option Addr) (c : Nat), s18 = .int .i64 (i : Int) ∧ i ≤ M.length ∧ s5 = .slice A (toldP ask M i).length c ∧ Hid (wr.ownsRow w.heap.size 3 1 (.slice A0 M.length c0) M.length ((M.map (·.2.req)).map (Value.int .i64))) ∧ Hid (SC wr p b life given (midM gone ask M i)) ∧ Hid (Kept w wr (TC b M)) ∧ Hid (wtR.Own wr w.heap.size 37 s5 (toldP ask M i))) (fun _ _ _ s18 _ => M.length - (intOf s18).toNat)
  case atStart => exact ⟨0, none, 0, rfl, Nat.zero_le _, by rw [told_zero]; rfl, HR0, HS0, HK0, HO0⟩
  case round =>
    clear HR0 HS0 HK0 HO0
    obtain ⟨i, A, c, rfl, hi, rfl, hR, hSC, hK, hO⟩ := hrel
    obtain ⟨wz, hwz⟩ : ∃ wz : World, wz = wr := ⟨_, rfl⟩
    subst hwz
    by_cases hil : i < M.length
    · obtain ⟨m, hm⟩ : ∃ m, M[i]? = some m := ⟨_, List.getElem?_eq_getElem hil⟩
      have hmm : m ∈ M := List.mem_of_getElem? hm
      have a1 : (i : Int) < (M.length : Int) := by omega
      have a0 : (0 : Int) ≤ (i : Int) := by omega
      have hmid : m ∈ midM gone ask M i := by rw [mid_at hm]; simp
      have hA0 : ∃ kb, A0 = some ⟨kb, 0, none⟩ := by
        rcases hR.out.2 with ⟨h1, h2⟩ | ⟨g, cap, cur, h1, h2⟩
        · omega
        · injection h1 with h1
          exact ⟨g, h1⟩
      obtain ⟨kb, rfl⟩ := hA0
      have k1 : wz.cell? ⟨kb, i, none⟩ = some (.int .i64 m.2.req) := by
        have := hR.out.cells (g := kb) rfl i (.int .i64 m.2.req) (by rw [List.getElem?_map, List.getElem?_map, hm]; rfl)
        simpa [plus_zero] using this
      have hlook := hSC.out.map.look (hSC.out.wf hmid)
      rw [hSC.out.find hmid] at hlook
      have hlook : (Instr.lookup 54 (.map (some b)) (.int .i64 m.2.req) false).run Try.prog wz = .ok (.pointer (some ⟨m.1, 0, none⟩)) wz := hlook
      have c2 : wz.cell? ⟨p, 2, none⟩ = some (.map (some b)) := (blk_cells hSC.out.obj).1 2
      have cA := HA.out i m wz hm hSC.out hK.out
      have HM := Lib.hid hm
      have HMM := Lib.hid hmm
      clear hmid hm hmm
      go_wp2_with fail
      clear hlook k1 c2
      refine cA.mono ?_
      rintro e w3 ⟨rfl, hSC3, hK3, hq3⟩
      clear cA
      have hbase : ∀ n, w.heap.size ≤ n → ¬ TC b M n := fun n hn ht => by
        rcases ht with e | ⟨m', hm', e⟩
        · omega
        · have := HLM.out m' hm'
          omega
      have hKK := hK.out.trans hK3 fun n hn => .inl hn
      have hR3 : w3.ownsRow w.heap.size 3 1 (.slice (some ⟨kb, 0, none⟩) M.length c0) M.length ((M.map (·.2.req)).map (Value.int .i64)) := row_same hR.out fun g hg => hK3.block g (hR.out.lt g hg).2 (hbase g (hR.out.lt g hg).1)
      have hO3 : wtR.Own w3 w.heap.size 37 (.slice A (toldP ask M i).length c) (toldP ask M i) := row_same hO.out fun g hg => hK3.block g (hO.out.lt g hg).2 (hbase g (hO.out.lt g hg).1)
      have hS3z := hKK.size
      have htl := told_length ask M i
      have hmeas : M.length - (i + 1) < M.length - i := by omega
      cases ha : ask m.2 with
      | none =>
        have ht : toldP ask M (i + 1) = toldP ask M i := by rw [told_succ HM.out, ha]; simp
        have HR3 := Lib.hid hR3
        have HS3 := Lib.hid hSC3
        have HK3 := Lib.hid hKK
        have HO3 : Hid (wtR.Own w3 w.heap.size 37 (.slice A (toldP ask M i).length c) (toldP ask M (i + 1))) := Lib.hid (by rw [ht]; exact hO3)
        have HT := Lib.hid ht
        have HAA := Lib.hid ha
        clear hR hSC hK hO hR3 hSC3 hK3 hKK hO3 hq3 ht hbase
        dsimp only [Option.isSome_none]
        go_wp2_with fail
        refine ⟨⟨i + 1, A, c, by norm_cast, by omega, by rw [HT.out], HR3, HS3, HK3, HO3⟩, ?_⟩
        first | exact hmeas | (simp only [intOf]; omega)
      | some y =>
        have hq := hq3 y ha
        obtain ⟨⟨y0, y1, y2, y3⟩, y4, y5, y6⟩ := at_cells hq
        obtain ⟨A4, c4, w4, hap, hown4, hb4, hn4⟩ := wt_app (x := y) hO3 hS3z (by omega)
        have ht : toldP ask M (i + 1) = toldP ask M i ++ [y] := by rw [told_succ HM.out, ha]; simp
        have hR4 : w4.ownsRow w.heap.size 3 1 (.slice (some ⟨kb, 0, none⟩) M.length c0) M.length ((M.map (·.2.req)).map (Value.int .i64)) := row_same hR3 fun g hg => hn4 g (hR3.lt g hg).2 (fun e => rows_apart hO3 hR3 (by decide) e hg rfl)
        have hlow : ∀ n, n < w.heap.size → w4.heap[n]? = w3.heap[n]? := fun n hn => hb4.block n hn
        have hS4 : SC w4 p b life given (midM gone ask M (i + 1)) := by
          refine hSC3.same (hlow p H.out.ltp) (hlow b hlb) fun m' hm' => hlow _ ?_
          unfold midM at hm'
          rcases List.mem_append.1 hm' with hm' | hm'
          · obtain ⟨m0, hm0, he⟩ := List.mem_filterMap.1 hm'
            have := HLM.out m0 (List.mem_of_mem_take hm0)
            have hl : ∀ {z : Nat × WT}, leftF gone ask m0 = some z → z.1 = m0.1 := fun {z} hz => by
              unfold leftF at hz
              cases h2 : ask m0.2 with
              | none => rw [h2] at hz; have hz := Option.some.inj hz; rw [← hz]
              | some y2 => rw [h2] at hz; cases gone with
                | true => cases hz
                | false => have hz := Option.some.inj hz; rw [← hz]
            rw [hl he]
            exact this
          · exact HLM.out m' (List.mem_of_mem_drop hm')
        have hK4 : Kept w w4 (TC b M) := hKK.trans (Kept.of_below hb4) fun n hn => .inr hn
        have HR4 := Lib.hid hR4
        have HS4 := Lib.hid hS4
        have HK4 := Lib.hid hK4
        rw [← ht] at hown4
        have HO4 := Lib.hid hown4
        have HT : Hid ((toldP ask M (i + 1)).length = (toldP ask M i).length + 1) := Lib.hid (by rw [ht]; simp)
        have HAA := Lib.hid ha
        have HAP := Lib.hid hap
        clear hR hSC hK hO hR3 hSC3 hK3 hKK hO3 hq3 ht hbase hq hR4 hS4 hK4 hown4 hb4 hn4 hlow hap
        dsimp only [Option.isSome_some]
        unfold WT.cells at HAP
        go_upto_region 10 with (at_builtin; go_must (refine Lib.wpList_append_run _ rfl (.tmp 31) (.tmp 35) 44 44 rfl _ _ rfl rfl _ _ HAP.out ?_))
        clear HAP y0 y1 y2 y3 y4 y5 y6
        go_wp2_with fail
        refine ⟨⟨i + 1, A4, c4, by norm_cast, by omega, by rw [HT.out], HR4, HS4, HK4, by rw [← HT.out] at HO4 ⊢; exact HO4⟩, ?_⟩
        first | exact hmeas | (simp only [intOf]; omega)
    · have hie : i = M.length := by omega
      subst hie
      have a1 : ¬ (M.length : Int) < (M.length : Int) := by omega
      have ht : toldP ask M M.length = L := (told_end ask M).trans HL.out.symm
      have he := mid_end gone ask M
      rw [ht] at hO
      rw [he] at hSC
      rw [ht]
      clear ht he hR
      go_wp2_with fail
      go_ret
      exact ⟨A, c, rfl, hO.out, hSC.out, hK.out⟩
set_option maxHeartbeats 4000000 in
set_option maxRecDepth 100000 in
theorem those_due {w : World} {p b : Nat} {life given : Int} {M : List (Nat × WT)} (h : SC w p b life given M) (gone : Bool) (ask : WT → Option WT) (c1 c2 : Nat)
    (hask : ∀ (i : Nat) (m : Nat × WT) (W : World), M[i]? = some m → SC W p b life given (midM gone ask M i) → Kept w W (TC b M) → Calls Try.prog 24 #[.pointer (some ⟨m.1, 0, none⟩), .pointer (some ⟨c1, 0, none⟩), .pointer (some ⟨c2, 0, none⟩)] W fun e W' => e = .returned (.bool (ask m.2).isSome) ∧ SC W' p b life given (midM gone ask M (i + 1)) ∧ Kept W W' (TC b M) ∧ (∀ y, ask m.2 = some y → W'.heap[m.1]? = some (.cells y.cells 37 (0, 0)))) :
    Calls Try.prog 22 #[.pointer (some ⟨p, 0, none⟩), .func (.func 24) #[] #[.pointer (some ⟨c1, 0, none⟩), .pointer (some ⟨c2, 0, none⟩)]] w fun e w' => ∃ A c, e = .returned (.slice A ((M.map (·.2)).filterMap ask).length c) ∧ wtR.Own w' w.heap.size 37 (.slice A ((M.map (·.2)).filterMap ask).length c) ((M.map (·.2)).filterMap ask) ∧ SC w' p b life given (M.filterMap (leftF gone ask)) ∧ Kept w w' (TC b M) := by
  obtain ⟨L, hL⟩ : ∃ L, L = (M.map (·.2)).filterMap ask := ⟨_, rfl⟩
  rw [← hL]
  have HL := Lib.hid hL
  clear hL
  obtain ⟨D, hown, hperm, hsize⟩ := h.map.perm
  rw [pairs_keys] at hperm
  rw [pairs_length] at hsize
  have hfew := h.few
  have cK := mapkeys_any (some b) w
  have cS := sorted_any b _ D _ w hown (by rw [hsize]; unfold maxLen; omega) (by rw [hsize]; omega)
  have c2 : w.cell? ⟨p, 2, none⟩ = some (.map (some b)) := (blk_cells h.obj).1 2
  have HA := Lib.hid hask
  have H := Lib.hid h
  have HPE := Lib.hid hperm
  clear hask h hown hsize hperm
  go_enter Try.func22, Try.ntmps22
  go_wp2_with fail
  refine cK.mono ?_
  rintro e w1 ⟨rfl, rfl⟩
  clear cK
  go_wp2_with fail
  refine cS.mono ?_
  rintro e w2 ⟨v, ss, rfl, hS, hrow, -, hb2⟩
  clear cS
  have hsort := sorted_rise H.out.rise (hS.trans HPE.out.symm)
  have hlen : ss.length = M.length := by rw [(hS.trans HPE.out.symm).length_eq, List.length_map]
  rw [hsort, hlen] at hrow
  obtain ⟨A0, c0, rfl⟩ := own_slice hrow
  have hbw : Below w.heap.size w w2 := ((Below.refl _ w).alloc (Nat.le_refl _) _).trans (Joins.below_le hb2 (by simp))
  have hrow1 : w2.ownsRow w.heap.size 3 1 (.slice A0 M.length c0) M.length ((M.map (·.2.req)).map (Value.int .i64)) := own_base hrow (by simp)
  have HR0 : Hid (w2.ownsRow w.heap.size 3 1 (.slice A0 M.length c0) M.length ((M.map (·.2.req)).map (Value.int .i64))) := Lib.hid hrow1
  have HS0 : Hid (SC w2 p b life given (midM gone ask M 0)) := Lib.hid (by rw [mid_zero]; exact H.out.below hbw)
  have HK0 : Hid (Kept w w2 (TC b M)) := Lib.hid ⟨hbw.os, hbw.tape, hbw.output, hbw.size, fun n hn _ => hbw.block n hn⟩
  have HO0 : Hid (wtR.Own w2 w.heap.size 37 (.slice none 0 0) (toldP ask M 0)) := Lib.hid (by rw [told_zero]; exact Rec.Own.none wtR w2 w.heap.size 37)
  have HLM : Hid (∀ m ∈ M, m.1 < w.heap.size) := Lib.hid fun m hm => H.out.ltm hm
  have hlb := H.out.ltb
  clear hS hrow hrow1 hb2 hsort hlen hbw c2
  go_wp2_with fail
  go_loopw [5, 7, 8, 18] (fun s5 _ _ s18 wr => ∃ (i : Nat) (A : Option Addr) (c : Nat), s18 = .int .i64 (i : Int) ∧ i ≤ M.length ∧ s5 = .slice A (toldP ask M i).length c ∧ Hid (wr.ownsRow w.heap.size 3 1 (.slice A0 M.length c0) M.length ((M.map (·.2.req)).map (Value.int .i64))) ∧ Hid (SC wr p b life given (midM gone ask M i)) ∧ Hid (Kept w wr (TC b M)) ∧ Hid (wtR.Own wr w.heap.size 37 s5 (toldP ask M i))) (fun _ _ _ s18 _ => M.length - (intOf s18).toNat)
  case atStart => exact ⟨0, none, 0, rfl, Nat.zero_le _, by rw [told_zero]; rfl, HR0, HS0, HK0, HO0⟩
  case round =>
    clear HR0 HS0 HK0 HO0
    obtain ⟨i, A, c, rfl, hi, rfl, hR, hSC, hK, hO⟩ := hrel
    obtain ⟨wz, hwz⟩ : ∃ wz : World, wz = wr := ⟨_, rfl⟩
    subst hwz
    by_cases hil : i < M.length
    · obtain ⟨m, hm⟩ : ∃ m, M[i]? = some m := ⟨_, List.getElem?_eq_getElem hil⟩
      have hmm : m ∈ M := List.mem_of_getElem? hm
      have a1 : (i : Int) < (M.length : Int) := by omega
      have a0 : (0 : Int) ≤ (i : Int) := by omega
      have hmid : m ∈ midM gone ask M i := by rw [mid_at hm]; simp
      have hA0 : ∃ kb, A0 = some ⟨kb, 0, none⟩ := by
        rcases hR.out.2 with ⟨h1, h2⟩ | ⟨g, cap, cur, h1, h2⟩
        · omega
        · injection h1 with h1
          exact ⟨g, h1⟩
      obtain ⟨kb, rfl⟩ := hA0
      have k1 : wz.cell? ⟨kb, i, none⟩ = some (.int .i64 m.2.req) := by
        have := hR.out.cells (g := kb) rfl i (.int .i64 m.2.req) (by rw [List.getElem?_map, List.getElem?_map, hm]; rfl)
        simpa [plus_zero] using this
      have hlook := hSC.out.map.look (hSC.out.wf hmid)
      rw [hSC.out.find hmid] at hlook
      have hlook : (Instr.lookup 54 (.map (some b)) (.int .i64 m.2.req) false).run Try.prog wz = .ok (.pointer (some ⟨m.1, 0, none⟩)) wz := hlook
      have c2 : wz.cell? ⟨p, 2, none⟩ = some (.map (some b)) := (blk_cells hSC.out.obj).1 2
      have cA := HA.out i m wz hm hSC.out hK.out
      have HM := Lib.hid hm
      have HMM := Lib.hid hmm
      clear hmid hm hmm
      go_wp2_with fail
      clear hlook k1 c2
      refine cA.mono ?_
      rintro e w3 ⟨rfl, hSC3, hK3, hq3⟩
      clear cA
      have hbase : ∀ n, w.heap.size ≤ n → ¬ TC b M n := fun n hn ht => by
        rcases ht with e | ⟨m', hm', e⟩
        · omega
        · have := HLM.out m' hm'
          omega
      have hKK := hK.out.trans hK3 fun n hn => .inl hn
      have hR3 : w3.ownsRow w.heap.size 3 1 (.slice (some ⟨kb, 0, none⟩) M.length c0) M.length ((M.map (·.2.req)).map (Value.int .i64)) := row_same hR.out fun g hg => hK3.block g (hR.out.lt g hg).2 (hbase g (hR.out.lt g hg).1)
      have hO3 : wtR.Own w3 w.heap.size 37 (.slice A (toldP ask M i).length c) (toldP ask M i) := row_same hO.out fun g hg => hK3.block g (hO.out.lt g hg).2 (hbase g (hO.out.lt g hg).1)
      have hS3z := hKK.size
      have htl := told_length ask M i
      have hmeas : M.length - (i + 1) < M.length - i := by omega
      cases ha : ask m.2 with
      | none =>
        have ht : toldP ask M (i + 1) = toldP ask M i := by rw [told_succ HM.out, ha]; simp
        have HR3 := Lib.hid hR3
        have HS3 := Lib.hid hSC3
        have HK3 := Lib.hid hKK
        have HO3 : Hid (wtR.Own w3 w.heap.size 37 (.slice A (toldP ask M i).length c) (toldP ask M (i + 1))) := Lib.hid (by rw [ht]; exact hO3)
        have HT := Lib.hid ht
        have HAA := Lib.hid ha
        clear hR hSC hK hO hR3 hSC3 hK3 hKK hO3 hq3 ht hbase
        dsimp only [Option.isSome_none]
        go_wp2_with fail
        refine ⟨⟨i + 1, A, c, by norm_cast, by omega, by rw [HT.out], HR3, HS3, HK3, HO3⟩, ?_⟩
        first | exact hmeas | (simp only [intOf]; omega)
      | some y =>
        have hq := hq3 y ha
        obtain ⟨⟨y0, y1, y2, y3⟩, y4, y5, y6⟩ := at_cells hq
        obtain ⟨A4, c4, w4, hap, hown4, hb4, hn4⟩ := wt_app (x := y) hO3 hS3z (by omega)
        have ht : toldP ask M (i + 1) = toldP ask M i ++ [y] := by rw [told_succ HM.out, ha]; simp
        have hR4 : w4.ownsRow w.heap.size 3 1 (.slice (some ⟨kb, 0, none⟩) M.length c0) M.length ((M.map (·.2.req)).map (Value.int .i64)) := row_same hR3 fun g hg => hn4 g (hR3.lt g hg).2 (fun e => rows_apart hO3 hR3 (by decide) e hg rfl)
        have hlow : ∀ n, n < w.heap.size → w4.heap[n]? = w3.heap[n]? := fun n hn => hb4.block n hn
        have hS4 : SC w4 p b life given (midM gone ask M (i + 1)) := by
          refine hSC3.same (hlow p H.out.ltp) (hlow b hlb) fun m' hm' => hlow _ ?_
          unfold midM at hm'
          rcases List.mem_append.1 hm' with hm' | hm'
          · obtain ⟨m0, hm0, he⟩ := List.mem_filterMap.1 hm'
            have := HLM.out m0 (List.mem_of_mem_take hm0)
            have hl : ∀ {z : Nat × WT}, leftF gone ask m0 = some z → z.1 = m0.1 := fun {z} hz => by
              unfold leftF at hz
              cases h2 : ask m0.2 with
              | none => rw [h2] at hz; have hz := Option.some.inj hz; rw [← hz]
              | some y2 => rw [h2] at hz; cases gone with
                | true => cases hz
                | false => have hz := Option.some.inj hz; rw [← hz]
            rw [hl he]
            exact this
          · exact HLM.out m' (List.mem_of_mem_drop hm')
        have hK4 : Kept w w4 (TC b M) := hKK.trans (Kept.of_below hb4) fun n hn => .inr hn
        have HR4 := Lib.hid hR4
        have HS4 := Lib.hid hS4
        have HK4 := Lib.hid hK4
        rw [← ht] at hown4
        have HO4 := Lib.hid hown4
        have HT : Hid ((toldP ask M (i + 1)).length = (toldP ask M i).length + 1) := Lib.hid (by rw [ht]; simp)
        have HAA := Lib.hid ha
        have HAP := Lib.hid hap
        clear hR hSC hK hO hR3 hSC3 hK3 hKK hO3 hq3 ht hbase hq hR4 hS4 hK4 hown4 hb4 hn4 hlow hap
        dsimp only [Option.isSome_some]
        unfold WT.cells at HAP
        go_upto_region 10 with (at_builtin; go_must (refine Lib.wpList_append_run _ rfl (.tmp 31) (.tmp 35) 44 44 rfl _ _ rfl rfl _ _ HAP.out ?_))
        clear HAP y0 y1 y2 y3 y4 y5 y6
        go_wp2_with fail
        refine ⟨⟨i + 1, A4, c4, by norm_cast, by omega, by rw [HT.out], HR4, HS4, HK4, by rw [← HT.out] at HO4 ⊢; exact HO4⟩, ?_⟩
        first | exact hmeas | (simp only [intOf]; omega)
    · have hie : i = M.length := by omega
      subst hie
      have a1 : ¬ (M.length : Int) < (M.length : Int) := by omega
      have ht : toldP ask M M.length = L := (told_end ask M).trans HL.out.symm
      have he := mid_end gone ask M
      rw [ht] at hO
      rw [he] at hSC
      rw [ht]
      clear ht he hR
      go_wp2_with fail
      go_ret
      exact ⟨A, c, rfl, hO.out, hSC.out, hK.out⟩
set_option maxHeartbeats 4000000 in
set_option maxRecDepth 100000 in
theorem those_old {w : World} {p b : Nat} {life given : Int} {M : List (Nat × WT)} (h : SC w p b life given M) (gone : Bool) (ask : WT → Option WT) (c1 c2 c3 : Nat)
    (hask : ∀ (i : Nat) (m : Nat × WT) (W : World), M[i]? = some m → SC W p b life given (midM gone ask M i) → Kept w W (TC b M) → Calls Try.prog 27 #[.pointer (some ⟨m.1, 0, none⟩), .pointer (some ⟨c1, 0, none⟩), .pointer (some ⟨c2, 0, none⟩), .pointer (some ⟨c3, 0, none⟩)] W fun e W' => e = .returned (.bool (ask m.2).isSome) ∧ SC W' p b life given (midM gone ask M (i + 1)) ∧ Kept W W' (TC b M) ∧ (∀ y, ask m.2 = some y → W'.heap[m.1]? = some (.cells y.cells 37 (0, 0)))) :
    Calls Try.prog 22 #[.pointer (some ⟨p, 0, none⟩), .func (.func 27) #[] #[.pointer (some ⟨c1, 0, none⟩), .pointer (some ⟨c2, 0, none⟩), .pointer (some ⟨c3, 0, none⟩)]] w fun e w' => ∃ A c, e = .returned (.slice A ((M.map (·.2)).filterMap ask).length c) ∧ wtR.Own w' w.heap.size 37 (.slice A ((M.map (·.2)).filterMap ask).length c) ((M.map (·.2)).filterMap ask) ∧ SC w' p b life given (M.filterMap (leftF gone ask)) ∧ Kept w w' (TC b M) := by
  obtain ⟨L, hL⟩ : ∃ L, L = (M.map (·.2)).filterMap ask := ⟨_, rfl⟩
  rw [← hL]
  have HL := Lib.hid hL
  clear hL
  obtain ⟨D, hown, hperm, hsize⟩ := h.map.perm
  rw [pairs_keys] at hperm
  rw [pairs_length] at hsize
  have hfew := h.few
  have cK := mapkeys_any (some b) w
  have cS := sorted_any b _ D _ w hown (by rw [hsize]; unfold maxLen; omega) (by rw [hsize]; omega)
  have c2 : w.cell? ⟨p, 2, none⟩ = some (.map (some b)) := (blk_cells h.obj).1 2
  have HA := Lib.hid hask
  have H := Lib.hid h
  have HPE := Lib.hid hperm
  clear hask h hown hsize hperm
  go_enter Try.func22, Try.ntmps22
  go_wp2_with fail
  refine cK.mono ?_
  rintro e w1 ⟨rfl, rfl⟩
  clear cK
  go_wp2_with fail
  refine cS.mono ?_
  rintro e w2 ⟨v, ss, rfl, hS, hrow, -, hb2⟩
  clear cS
  have hsort := sorted_rise H.out.rise (hS.trans HPE.out.symm)
  have hlen : ss.length = M.length := by rw [(hS.trans HPE.out.symm).length_eq, List.length_map]
  rw [hsort, hlen] at hrow
  obtain ⟨A0, c0, rfl⟩ := own_slice hrow
  have hbw : Below w.heap.size w w2 := ((Below.refl _ w).alloc (Nat.le_refl _) _).trans (Joins.below_le hb2 (by simp))
  have hrow1 : w2.ownsRow w.heap.size 3 1 (.slice A0 M.length c0) M.length ((M.map (·.2.req)).map (Value.int .i64)) := own_base hrow (by simp)
  have HR0 : Hid (w2.ownsRow w.heap.size 3 1 (.slice A0 M.length c0) M.length ((M.map (·.2.req)).map (Value.int .i64))) := Lib.hid hrow1
  have HS0 : Hid (SC w2 p b life given (midM gone ask M 0)) := Lib.hid (by rw [mid_zero]; exact H.out.below hbw)
  have HK0 : Hid (Kept w w2 (TC b M)) := Lib.hid ⟨hbw.os, hbw.tape, hbw.output, hbw.size, fun n hn _ => hbw.block n hn⟩
  have HO0 : Hid (wtR.Own w2 w.heap.size 37 (.slice none 0 0) (toldP ask M 0)) := Lib.hid (by rw [told_zero]; exact Rec.Own.none wtR w2 w.heap.size 37)
  have HLM : Hid (∀ m ∈ M, m.1 < w.heap.size) := Lib.hid fun m hm => H.out.ltm hm
  have hlb := H.out.ltb
  clear hS hrow hrow1 hb2 hsort hlen hbw c2
  go_wp2_with fail
  go_loopw [5, 7, 8, 18] (fun s5 _ _ s18 wr => ∃ (i : Nat) (A : Option Addr) (c : Nat), s18 = .int .i64 (i : Int) ∧ i ≤ M.length ∧ s5 = .slice A (toldP ask M i).length c ∧ Hid (wr.ownsRow w.heap.size 3 1 (.slice A0 M.length c0) M.length ((M.map (·.2.req)).map (Value.int .i64))) ∧ Hid (SC wr p b life given (midM gone ask M i)) ∧ Hid (Kept w wr (TC b M)) ∧ Hid (wtR.Own wr w.heap.size 37 s5 (toldP ask M i))) (fun _ _ _ s18 _ => M.length - (intOf s18).toNat)
  case atStart => exact ⟨0, none, 0, rfl, Nat.zero_le _, by rw [told_zero]; rfl, HR0, HS0, HK0, HO0⟩
  case round =>
    clear HR0 HS0 HK0 HO0
    obtain ⟨i, A, c, rfl, hi, rfl, hR, hSC, hK, hO⟩ := hrel
    obtain ⟨wz, hwz⟩ : ∃ wz : World, wz = wr := ⟨_, rfl⟩
    subst hwz
    by_cases hil : i < M.length
    · obtain ⟨m, hm⟩ : ∃ m, M[i]? = some m := ⟨_, List.getElem?_eq_getElem hil⟩
      have hmm : m ∈ M := List.mem_of_getElem? hm
      have a1 : (i : Int) < (M.length : Int) := by omega
      have a0 : (0 : Int) ≤ (i : Int) := by omega
      have hmid : m ∈ midM gone ask M i := by rw [mid_at hm]; simp
      have hA0 : ∃ kb, A0 = some ⟨kb, 0, none⟩ := by
        rcases hR.out.2 with ⟨h1, h2⟩ | ⟨g, cap, cur, h1, h2⟩
        · omega
        · injection h1 with h1
          exact ⟨g, h1⟩
      obtain ⟨kb, rfl⟩ := hA0
      have k1 : wz.cell? ⟨kb, i, none⟩ = some (.int .i64 m.2.req) := by
        have := hR.out.cells (g := kb) rfl i (.int .i64 m.2.req) (by rw [List.getElem?_map, List.getElem?_map, hm]; rfl)
        simpa [plus_zero] using this
      have hlook := hSC.out.map.look (hSC.out.wf hmid)
      rw [hSC.out.find hmid] at hlook
      have hlook : (Instr.lookup 54 (.map (some b)) (.int .i64 m.2.req) false).run Try.prog wz = .ok (.pointer (some ⟨m.1, 0, none⟩)) wz := hlook
      have c2 : wz.cell? ⟨p, 2, none⟩ = some (.map (some b)) := (blk_cells hSC.out.obj).1 2
      have cA := HA.out i m wz hm hSC.out hK.out
      have HM := Lib.hid hm
      have HMM := Lib.hid hmm
      clear hmid hm hmm
      go_wp2_with fail
      clear hlook k1 c2
      refine cA.mono ?_
      rintro e w3 ⟨rfl, hSC3, hK3, hq3⟩
      clear cA
      have hbase : ∀ n, w.heap.size ≤ n → ¬ TC b M n := fun n hn ht => by
        rcases ht with e | ⟨m', hm', e⟩
        · omega
        · have := HLM.out m' hm'
          omega
      have hKK := hK.out.trans hK3 fun n hn => .inl hn
      have hR3 : w3.ownsRow w.heap.size 3 1 (.slice (some ⟨kb, 0, none⟩) M.length c0) M.length ((M.map (·.2.req)).map (Value.int .i64)) := row_same hR.out fun g hg => hK3.block g (hR.out.lt g hg).2 (hbase g (hR.out.lt g hg).1)
      have hO3 : wtR.Own w3 w.heap.size 37 (.slice A (toldP ask M i).length c) (toldP ask M i) := row_same hO.out fun g hg => hK3.block g (hO.out.lt g hg).2 (hbase g (hO.out.lt g hg).1)
      have hS3z := hKK.size
      have htl := told_length ask M i
      have hmeas : M.length - (i + 1) < M.length - i := by omega
      cases ha : ask m.2 with
      | none =>
        have ht : toldP ask M (i + 1) = toldP ask M i := by rw [told_succ HM.out, ha]; simp
        have HR3 := Lib.hid hR3
        have HS3 := Lib.hid hSC3
        have HK3 := Lib.hid hKK
        have HO3 : Hid (wtR.Own w3 w.heap.size 37 (.slice A (toldP ask M i).length c) (toldP ask M (i + 1))) := Lib.hid (by rw [ht]; exact hO3)
        have HT := Lib.hid ht
        have HAA := Lib.hid ha
        clear hR hSC hK hO hR3 hSC3 hK3 hKK hO3 hq3 ht hbase
        dsimp only [Option.isSome_none]
        go_wp2_with fail
        refine ⟨⟨i + 1, A, c, by norm_cast, by omega, by rw [HT.out], HR3, HS3, HK3, HO3⟩, ?_⟩
        first | exact hmeas | (simp only [intOf]; omega)
      | some y =>
        have hq := hq3 y ha
        obtain ⟨⟨y0, y1, y2, y3⟩, y4, y5, y6⟩ := at_cells hq
        obtain ⟨A4, c4, w4, hap, hown4, hb4, hn4⟩ := wt_app (x := y) hO3 hS3z (by omega)
        have ht : toldP ask M (i + 1) = toldP ask M i ++ [y] := by rw [told_succ HM.out, ha]; simp
        have hR4 : w4.ownsRow w.heap.size 3 1 (.slice (some ⟨kb, 0, none⟩) M.length c0) M.length ((M.map (·.2.req)).map (Value.int .i64)) := row_same hR3 fun g hg => hn4 g (hR3.lt g hg).2 (fun e => rows_apart hO3 hR3 (by decide) e hg rfl)
        have hlow : ∀ n, n < w.heap.size → w4.heap[n]? = w3.heap[n]? := fun n hn => hb4.block n hn
        have hS4 : SC w4 p b life given (midM gone ask M (i + 1)) := by
          refine hSC3.same (hlow p H.out.ltp) (hlow b hlb) fun m' hm' => hlow _ ?_
          unfold midM at hm'
          rcases List.mem_append.1 hm' with hm' | hm'
          · obtain ⟨m0, hm0, he⟩ := List.mem_filterMap.1 hm'
            have := HLM.out m0 (List.mem_of_mem_take hm0)
            have hl : ∀ {z : Nat × WT}, leftF gone ask m0 = some z → z.1 = m0.1 := fun {z} hz => by
              unfold leftF at hz
              cases h2 : ask m0.2 with
              | none => rw [h2] at hz; have hz := Option.some.inj hz; rw [← hz]
              | some y2 => rw [h2] at hz; cases gone with
                | true => cases hz
                | false => have hz := Option.some.inj hz; rw [← hz]
            rw [hl he]
            exact this
          · exact HLM.out m' (List.mem_of_mem_drop hm')
        have hK4 : Kept w w4 (TC b M) := hKK.trans (Kept.of_below hb4) fun n hn => .inr hn
        have HR4 := Lib.hid hR4
        have HS4 := Lib.hid hS4
        have HK4 := Lib.hid hK4
        rw [← ht] at hown4
        have HO4 := Lib.hid hown4
        have HT : Hid ((toldP ask M (i + 1)).length = (toldP ask M i).length + 1) := Lib.hid (by rw [ht]; simp)
        have HAA := Lib.hid ha
        have HAP := Lib.hid hap
        clear hR hSC hK hO hR3 hSC3 hK3 hKK hO3 hq3 ht hbase hq hR4 hS4 hK4 hown4 hb4 hn4 hlow hap
        dsimp only [Option.isSome_some]
        unfold WT.cells at HAP
        go_upto_region 10 with (at_builtin; go_must (refine Lib.wpList_append_run _ rfl (.tmp 31) (.tmp 35) 44 44 rfl _ _ rfl rfl _ _ HAP.out ?_))
        clear HAP y0 y1 y2 y3 y4 y5 y6
        go_wp2_with fail
        refine ⟨⟨i + 1, A4, c4, by norm_cast, by omega, by rw [HT.out], HR4, HS4, HK4, by rw [← HT.out] at HO4 ⊢; exact HO4⟩, ?_⟩
        first | exact hmeas | (simp only [intOf]; omega)
    · have hie : i = M.length := by omega
      subst hie
      have a1 : ¬ (M.length : Int) < (M.length : Int) := by omega
      have ht : toldP ask M M.length = L := (told_end ask M).trans HL.out.symm
      have he := mid_end gone ask M
      rw [ht] at hO
      rw [he] at hSC
      rw [ht]
      clear ht he hR
      go_wp2_with fail
      go_ret
      exact ⟨A, c, rfl, hO.out, hSC.out, hK.out⟩
set_option maxHeartbeats 4000000 in
set_option maxRecDepth 100000 in
theorem those_all {w : World} {p b : Nat} {life given : Int} {M : List (Nat × WT)} (h : SC w p b life given M) (gone : Bool) (ask : WT → Option WT) 
    (hask : ∀ (i : Nat) (m : Nat × WT) (W : World), M[i]? = some m → SC W p b life given (midM gone ask M i) → Kept w W (TC b M) → Calls Try.prog 28 #[.pointer (some ⟨m.1, 0, none⟩)] W fun e W' => e = .returned (.bool (ask m.2).isSome) ∧ SC W' p b life given (midM gone ask M (i + 1)) ∧ Kept W W' (TC b M) ∧ (∀ y, ask m.2 = some y → W'.heap[m.1]? = some (.cells y.cells 37 (0, 0)))) :
    Calls Try.prog 22 #[.pointer (some ⟨p, 0, none⟩), .func (.func 28) #[] #[]] w fun e w' => ∃ A c, e = .returned (.slice A ((M.map (·.2)).filterMap ask).length c) ∧ wtR.Own w' w.heap.size 37 (.slice A ((M.map (·.2)).filterMap ask).length c) ((M.map (·.2)).filterMap ask) ∧ SC w' p b life given (M.filterMap (leftF gone ask)) ∧ Kept w w' (TC b M) := by
  obtain ⟨L, hL⟩ : ∃ L, L = (M.map (·.2)).filterMap ask := ⟨_, rfl⟩
  rw [← hL]
  have HL := Lib.hid hL
  clear hL
  obtain ⟨D, hown, hperm, hsize⟩ := h.map.perm
  rw [pairs_keys] at hperm
  rw [pairs_length] at hsize
  have hfew := h.few
  have cK := mapkeys_any (some b) w
  have cS := sorted_any b _ D _ w hown (by rw [hsize]; unfold maxLen; omega) (by rw [hsize]; omega)
  have c2 : w.cell? ⟨p, 2, none⟩ = some (.map (some b)) := (blk_cells h.obj).1 2
  have HA := Lib.hid hask
  have H := Lib.hid h
  have HPE := Lib.hid hperm
  clear hask h hown hsize hperm
  go_enter Try.func22, Try.ntmps22
  go_wp2_with fail
  refine cK.mono ?_
  rintro e w1 ⟨rfl, rfl⟩
  clear cK
  go_wp2_with fail
  refine cS.mono ?_
  rintro e w2 ⟨v, ss, rfl, hS, hrow, -, hb2⟩
  clear cS
  have hsort := sorted_rise H.out.rise (hS.trans HPE.out.symm)
  have hlen : ss.length = M.length := by rw [(hS.trans HPE.out.symm).length_eq, List.length_map]
  rw [hsort, hlen] at hrow
  obtain ⟨A0, c0, rfl⟩ := own_slice hrow
  have hbw : Below w.heap.size w w2 := ((Below.refl _ w).alloc (Nat.le_refl _) _).trans (Joins.below_le hb2 (by simp))
  have hrow1 : w2.ownsRow w.heap.size 3 1 (.slice A0 M.length c0) M.length ((M.map (·.2.req)).map (Value.int .i64)) := own_base hrow (by simp)
  have HR0 : Hid (w2.ownsRow w.heap.size 3 1 (.slice A0 M.length c0) M.length ((M.map (·.2.req)).map (Value.int .i64))) := Lib.hid hrow1
  have HS0 : Hid (SC w2 p b life given (midM gone ask M 0)) := Lib.hid (by rw [mid_zero]; exact H.out.below hbw)
  have HK0 : Hid (Kept w w2 (TC b M)) := Lib.hid ⟨hbw.os, hbw.tape, hbw.output, hbw.size, fun n hn _ => hbw.block n hn⟩
  have HO0 : Hid (wtR.Own w2 w.heap.size 37 (.slice none 0 0) (toldP ask M 0)) := Lib.hid (by rw [told_zero]; exact Rec.Own.none wtR w2 w.heap.size 37)
  have HLM : Hid (∀ m ∈ M, m.1 < w.heap.size) := Lib.hid fun m hm => H.out.ltm hm
  have hlb := H.out.ltb
  clear hS hrow hrow1 hb2 hsort hlen hbw c2
  go_wp2_with fail
  go_loopw [5, 7, 8, 18] (fun s5 _ _ s18 wr => ∃ (i : Nat) (A : Option Addr) (c : Nat), s18 = .int .i64 (i : Int) ∧ i ≤ M.length ∧ s5 = .slice A (toldP ask M i).length c ∧ Hid (wr.ownsRow w.heap.size 3 1 (.slice A0 M.length c0) M.length ((M.map (·.2.req)).map (Value.int .i64))) ∧ Hid (SC wr p b life given (midM gone ask M i)) ∧ Hid (Kept w wr (TC b M)) ∧ Hid (wtR.Own wr w.heap.size 37 s5 (toldP ask M i))) (fun _ _ _ s18 _ => M.length - (intOf s18).toNat)
  case atStart => exact ⟨0, none, 0, rfl, Nat.zero_le _, by rw [told_zero]; rfl, HR0, HS0, HK0, HO0⟩
  case round =>
    clear HR0 HS0 HK0 HO0
    obtain ⟨i, A, c, rfl, hi, rfl, hR, hSC, hK, hO⟩ := hrel
    obtain ⟨wz, hwz⟩ : ∃ wz : World, wz = wr := ⟨_, rfl⟩
    subst hwz
    by_cases hil : i < M.length
    · obtain ⟨m, hm⟩ : ∃ m, M[i]? = some m := ⟨_, List.getElem?_eq_getElem hil⟩
      have hmm : m ∈ M := List.mem_of_getElem? hm
      have a1 : (i : Int) < (M.length : Int) := by omega
      have a0 : (0 : Int) ≤ (i : Int) := by omega
      have hmid : m ∈ midM gone ask M i := by rw [mid_at hm]; simp
      have hA0 : ∃ kb, A0 = some ⟨kb, 0, none⟩ := by
        rcases hR.out.2 with ⟨h1, h2⟩ | ⟨g, cap, cur, h1, h2⟩
        · omega
        · injection h1 with h1
          exact ⟨g, h1⟩
      obtain ⟨kb, rfl⟩ := hA0
      have k1 : wz.cell? ⟨kb, i, none⟩ = some (.int .i64 m.2.req) := by
        have := hR.out.cells (g := kb) rfl i (.int .i64 m.2.req) (by rw [List.getElem?_map, List.getElem?_map, hm]; rfl)
        simpa [plus_zero] using this
      have hlook := hSC.out.map.look (hSC.out.wf hmid)
      rw [hSC.out.find hmid] at hlook
      have hlook : (Instr.lookup 54 (.map (some b)) (.int .i64 m.2.req) false).run Try.prog wz = .ok (.pointer (some ⟨m.1, 0, none⟩)) wz := hlook
      have c2 : wz.cell? ⟨p, 2, none⟩ = some (.map (some b)) := (blk_cells hSC.out.obj).1 2
      have cA := HA.out i m wz hm hSC.out hK.out
      have HM := Lib.hid hm
      have HMM := Lib.hid hmm
      clear hmid hm hmm
      go_wp2_with fail
      clear hlook k1 c2
      refine cA.mono ?_
      rintro e w3 ⟨rfl, hSC3, hK3, hq3⟩
      clear cA
      have hbase : ∀ n, w.heap.size ≤ n → ¬ TC b M n := fun n hn ht => by
        rcases ht with e | ⟨m', hm', e⟩
        · omega
        · have := HLM.out m' hm'
          omega
      have hKK := hK.out.trans hK3 fun n hn => .inl hn
      have hR3 : w3.ownsRow w.heap.size 3 1 (.slice (some ⟨kb, 0, none⟩) M.length c0) M.length ((M.map (·.2.req)).map (Value.int .i64)) := row_same hR.out fun g hg => hK3.block g (hR.out.lt g hg).2 (hbase g (hR.out.lt g hg).1)
      have hO3 : wtR.Own w3 w.heap.size 37 (.slice A (toldP ask M i).length c) (toldP ask M i) := row_same hO.out fun g hg => hK3.block g (hO.out.lt g hg).2 (hbase g (hO.out.lt g hg).1)
      have hS3z := hKK.size
      have htl := told_length ask M i
      have hmeas : M.length - (i + 1) < M.length - i := by omega
      cases ha : ask m.2 with
      | none =>
        have ht : toldP ask M (i + 1) = toldP ask M i := by rw [told_succ HM.out, ha]; simp
        have HR3 := Lib.hid hR3
        have HS3 := Lib.hid hSC3
        have HK3 := Lib.hid hKK
        have HO3 : Hid (wtR.Own w3 w.heap.size 37 (.slice A (toldP ask M i).length c) (toldP ask M (i + 1))) := Lib.hid (by rw [ht]; exact hO3)
        have HT := Lib.hid ht
        have HAA := Lib.hid ha
        clear hR hSC hK hO hR3 hSC3 hK3 hKK hO3 hq3 ht hbase
        dsimp only [Option.isSome_none]
        go_wp2_with fail
        refine ⟨⟨i + 1, A, c, by norm_cast, by omega, by rw [HT.out], HR3, HS3, HK3, HO3⟩, ?_⟩
        first | exact hmeas | (simp only [intOf]; omega)
      | some y =>
        have hq := hq3 y ha
        obtain ⟨⟨y0, y1, y2, y3⟩, y4, y5, y6⟩ := at_cells hq
        obtain ⟨A4, c4, w4, hap, hown4, hb4, hn4⟩ := wt_app (x := y) hO3 hS3z (by omega)
        have ht : toldP ask M (i + 1) = toldP ask M i ++ [y] := by rw [told_succ HM.out, ha]; simp
        have hR4 : w4.ownsRow w.heap.size 3 1 (.slice (some ⟨kb, 0, none⟩) M.length c0) M.length ((M.map (·.2.req)).map (Value.int .i64)) := row_same hR3 fun g hg => hn4 g (hR3.lt g hg).2 (fun e => rows_apart hO3 hR3 (by decide) e hg rfl)
        have hlow : ∀ n, n < w.heap.size → w4.heap[n]? = w3.heap[n]? := fun n hn => hb4.block n hn
        have hS4 : SC w4 p b life given (midM gone ask M (i + 1)) := by
          refine hSC3.same (hlow p H.out.ltp) (hlow b hlb) fun m' hm' => hlow _ ?_
          unfold midM at hm'
          rcases List.mem_append.1 hm' with hm' | hm'
          · obtain ⟨m0, hm0, he⟩ := List.mem_filterMap.1 hm'
            have := HLM.out m0 (List.mem_of_mem_take hm0)
            have hl : ∀ {z : Nat × WT}, leftF gone ask m0 = some z → z.1 = m0.1 := fun {z} hz => by
              unfold leftF at hz
              cases h2 : ask m0.2 with
              | none => rw [h2] at hz; have hz := Option.some.inj hz; rw [← hz]
              | some y2 => rw [h2] at hz; cases gone with
                | true => cases hz
                | false => have hz := Option.some.inj hz; rw [← hz]
            rw [hl he]
            exact this
          · exact HLM.out m' (List.mem_of_mem_drop hm')
        have hK4 : Kept w w4 (TC b M) := hKK.trans (Kept.of_below hb4) fun n hn => .inr hn
        have HR4 := Lib.hid hR4
        have HS4 := Lib.hid hS4
        have HK4 := Lib.hid hK4
        rw [← ht] at hown4
        have HO4 := Lib.hid hown4
        have HT : Hid ((toldP ask M (i + 1)).length = (toldP ask M i).length + 1) := Lib.hid (by rw [ht]; simp)
        have HAA := Lib.hid ha
        have HAP := Lib.hid hap
        clear hR hSC hK hO hR3 hSC3 hK3 hKK hO3 hq3 ht hbase hq hR4 hS4 hK4 hown4 hb4 hn4 hlow hap
        dsimp only [Option.isSome_some]
        unfold WT.cells at HAP
        go_upto_region 10 with (at_builtin; go_must (refine Lib.wpList_append_run _ rfl (.tmp 31) (.tmp 35) 44 44 rfl _ _ rfl rfl _ _ HAP.out ?_))
        clear HAP y0 y1 y2 y3 y4 y5 y6
        go_wp2_with fail
        refine ⟨⟨i + 1, A4, c4, by norm_cast, by omega, by rw [HT.out], HR4, HS4, HK4, by rw [← HT.out] at HO4 ⊢; exact HO4⟩, ?_⟩
        first | exact hmeas | (simp only [intOf]; omega)
    · have hie : i = M.length := by omega
      subst hie
      have a1 : ¬ (M.length : Int) < (M.length : Int) := by omega
      have ht : toldP ask M M.length = L := (told_end ask M).trans HL.out.symm
      have he := mid_end gone ask M
      rw [ht] at hO
      rw [he] at hSC
      rw [ht]
      clear ht he hR
      go_wp2_with fail
      go_ret
      exact ⟨A, c, rfl, hO.out, hSC.out, hK.out⟩
end Go.Proofs.Ytclfhidapkoiiab
