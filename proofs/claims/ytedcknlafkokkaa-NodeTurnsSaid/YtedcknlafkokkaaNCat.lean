/-
  slices.Grow of nil, slices.Concat: the program's. No statement is proved here. No condition.
-/
import Derived.Test.YtedcknlafkokkaaNCopy
import Derived.Test.YtedcknlafkokkaaNHalf
import Derived.Lib.AppendZeros
namespace Go.Proofs.Ytedcknlafkokkaa
open Go.RowKit

def flatL {α : Type} (ps : List (Value × List α)) : List α := ps.flatMap Prod.snd
theorem flatL_snoc {α : Type} {ps : List (Value × List α)} {i : Nat} {p : Value × List α} (h : ps[i]? = some p) : flatL (ps.take (i + 1)) = flatL (ps.take i) ++ p.2 := by
  unfold flatL
  rw [List.take_add_one, h, List.flatMap_append]
  simp
theorem flatL_take {α : Type} (ps : List (Value × List α)) (i : Nat) : (flatL (ps.take i)).length ≤ (flatL ps).length := by
  have : flatL ps = flatL (ps.take i) ++ flatL (ps.drop i) := by
    unfold flatL
    rw [← List.flatMap_append, List.take_append_drop]
  rw [this, List.length_append]
  omega
set_option maxHeartbeats 2000000 in
set_option maxRecDepth 100000 in
theorem growC_any (n : Nat) (w : World) (hn : n ≤ 1000000) :
    Calls Try.prog 82 #[.slice none 0 0, .int .i64 (n : Int)] w fun e w' => ∃ A c, e = .returned (.slice A 0 c) ∧ w'.ownsRow w.heap.size 59 4 (.slice A 0 c) 0 [] ∧ Below w.heap.size w w' := by
  obtain ⟨iu, hiu, z0, z1, z2⟩ := info_parts info_C
  have h1 : ¬ ((n : Int) < 0) := by omega
  have h2 : wrap64 ((0 : Int) - (0 : Int)) = 0 := by unfold wrap64; omega
  have h3 : wrap64 ((n : Int) - 0) = (n : Int) := by unfold wrap64; omega
  by_cases h0 : n = 0
  · subst h0
    go_enter Try.func82, Try.ntmps82
    go_wp2_with fail
    go_ret
    exact ⟨none, 0, rfl, ⟨rfl, .inl ⟨rfl, rfl⟩⟩, Below.refl _ _⟩
  · have h4 : (0 : Int) < (n : Int) := by omega
    have hr := fun ty => Lib.run_append_nil_zeros (P := Try.prog) w 29 3 ty 59 iu (.agg #[.string ⟨#[]⟩, .string ⟨#[]⟩, .int .i64 0, .int .i64 0]) .i64 .i64 Try.underlying29 Try.underlying3 hiu z0 n (by omega) (by omega) (by omega) (by rw [z2]; omega)
    have hge := grownCap_ge w n 0 59
    have hcm : grownCap w n 0 59 ≤ maxLen := grownCap_le_maxLen w n 0 59 (by unfold maxLen; omega)
    obtain ⟨G, hG⟩ : ∃ G, G = grownCap w n 0 59 := ⟨_, rfl⟩
    rw [← hG] at hr hge hcm
    obtain ⟨w1, hw1⟩ : ∃ w1, w1 = w.drew.alloc (.cells (Builtin.zeroCells ((.agg #[.string ⟨#[]⟩, .string ⟨#[]⟩, .int .i64 0, .int .i64 0]) : Value).cells n ++ Builtin.zeroCells ((.agg #[.string ⟨#[]⟩, .string ⟨#[]⟩, .int .i64 0, .int .i64 0]) : Value).cells (G - n)) 59) := ⟨_, rfl⟩
    have ho1 : w1.ownsRow w.heap.size 59 4 (.slice (some ⟨w.heap.size, 0, none⟩) 0 G) 0 [] := by
      rw [hw1]
      refine World.ownsRow_made w.drew _ G (Nat.le_refl _) hcm ?_
      rw [Array.size_append, size_zeroCells, size_zeroCells]
      show n * 4 + (G - n) * 4 = G * 4
      omega
    have hb1 : Below w.heap.size w w1 := by rw [hw1]; exact (Below.refl _ _).drew.alloc (Nat.le_refl _) _
    rw [← hw1] at hr
    have HR := Lib.hid hr
    have HO := Lib.hid ho1
    have HB := Lib.hid hb1
    have hG0 : 0 ≤ G := Nat.zero_le _
    have s1 : ∀ W : World, (Instr.slice 29 (.slice none 0 0) none (some (.int .i64 0)) none).run Try.prog W = .ok (.slice none 0 0) W := fun W => tillC W none 0 0 0 (Nat.le_refl _)
    have s2 : ∀ W : World, (Instr.slice 29 (.slice (some ⟨w.heap.size, 0, none⟩) n G) none (some (.int .i64 0)) none).run Try.prog W = .ok (.slice (some ⟨w.heap.size, 0, none⟩) 0 G) W := fun W => tillC W (some ⟨w.heap.size, 0, none⟩) n G 0 hG0
    have s1' : ∀ W : World, (Instr.sliceAt 29 (.slice none 0 0) none (some (.int .i64 0)) none).run Try.prog W = .ok (.slice none 0 0) W := fun W => (run_sliceAt_slice _ _ _ _ _ _ elem_C).trans (s1 W)
    have s2' : ∀ W : World, (Instr.sliceAt 29 (.slice (some ⟨w.heap.size, 0, none⟩) n G) none (some (.int .i64 0)) none).run Try.prog W = .ok (.slice (some ⟨w.heap.size, 0, none⟩) 0 G) W := fun W => (run_sliceAt_slice _ _ _ _ _ _ elem_C).trans (s2 W)
    clear hr ho1 hb1 hG hw1
    go_enter Try.func82, Try.ntmps82
    go_wp2_with (at_builtin; go_must (refine Lib.wpList_append_run _ rfl (.tmp 20) (.tmp 21) 29 3 rfl _ _ rfl rfl _ _ (HR.out _) ?_))
    go_ret
    exact ⟨_, _, rfl, HO.out, HB.out⟩
set_option maxHeartbeats 2000000 in
set_option maxRecDepth 100000 in
theorem concatC_any (ps : List (Value × List PC)) (g : Nat) (T : TypeId) (w : World) (hg : w.heap[g]? = some (.cells (ps.map Prod.fst).toArray T (0, 0))) (hps : ∀ p ∈ ps, CsN w Any p.1 p.2) (htot : (flatL ps).length ≤ 10000) (hpl : ps.length ≤ 100) :
    Calls Try.prog 59 #[.slice (some ⟨g, 0, none⟩) ps.length ps.length] w fun e w' => ∃ A c, e = .returned (.slice A (flatL ps).length c) ∧ w'.ownsRow w.heap.size 59 4 (.slice A (flatL ps).length c) (flatL ps).length (CsV (flatL ps)) ∧ Below w.heap.size w w' := by
  obtain ⟨iu, hiu, z0, z1, z2⟩ := info_parts info_C
  have hgl : g < w.heap.size := (Array.getElem?_eq_some_iff.1 hg).1
  have hcell : ∀ W, Below w.heap.size w W → ∀ (i : Nat) (p : Value × List PC), ps[i]? = some p → W.cell? ⟨g, i, none⟩ = some p.1 ∧ CsN W Any p.1 p.2 := fun W hW i p hp => by
    have hgz := (hW.block g hgl).trans hg
    refine ⟨?_, (hps p (List.mem_of_getElem? hp)).grow hW⟩
    rw [(row_cells hgz).1 i, List.getElem?_toArray, List.getElem?_map, hp]
    rfl
  have HCELL := Lib.hid hcell
  obtain ⟨k, hk⟩ : ∃ k, k = ps.length := ⟨_, rfl⟩
  rw [← hk]
  have hpl' : k ≤ 100 := by omega
  have HK := Lib.hid hk
  have HT := Lib.hid htot
  clear hg hps hcell hk htot hpl
  go_enter Try.func59, Try.ntmps59
  go_wp2_with fail
  go_loopw [3, 5, 11] (fun s3 _ s11 wr => ∃ i : Nat, s11 = .int .i64 (i : Int) ∧ i ≤ k ∧ s3 = .int .i64 (((flatL (ps.take i)).length : Nat) : Int) ∧ Hid (Below w.heap.size w wr)) (fun _ _ s11 _ => k - (intOf s11).toNat)
  case atStart => exact ⟨0, rfl, Nat.zero_le _, by simp [flatL], Lib.hid (Below.refl _ _)⟩
  case round =>
    obtain ⟨i, rfl, hi, rfl, hbw⟩ := hrel
    obtain ⟨wz, hwz⟩ : ∃ wz : World, wz = wr := ⟨_, rfl⟩
    subst hwz
    have htk := Nat.le_trans (flatL_take ps i) HT.out
    by_cases hil : i < k
    · have a1 : (i : Int) < (k : Int) := by omega
      have a0 : (0 : Int) ≤ (i : Int) := by omega
      obtain ⟨p, hpi⟩ : ∃ p, ps[i]? = some p := ⟨_, List.getElem?_eq_getElem (by have := HK.out; omega)⟩
      obtain ⟨c0, hr0⟩ := HCELL.out _ hbw.out i p hpi
      obtain ⟨Ap, cp, hv, -, -⟩ := RowN.slice hr0
      rw [hv] at c0
      have hsn := flatL_snoc hpi
      have htk2 := Nat.le_trans (flatL_take ps (i + 1)) HT.out
      rw [hsn, List.length_append] at htk2
      obtain ⟨t, ht⟩ : ∃ t, t = (flatL (ps.take i)).length := ⟨_, rfl⟩
      obtain ⟨m, hm⟩ : ∃ m, m = p.2.length := ⟨_, rfl⟩
      have hnew : (flatL (ps.take (i + 1))).length = t + m := by rw [hsn, List.length_append, ht, hm]
      rw [← ht, ← hm] at htk2
      rw [← ht]
      rw [← hm] at c0
      have HN := Lib.hid hnew
      clear hr0 hv hsn hpi ht hm hnew htk
      have hw1 : wrap64 ((t : Int) + (m : Int)) = (t : Int) + (m : Int) := by unfold wrap64; omega
      have hw2 : ¬ ((t : Int) + (m : Int) < 0) := by omega
      go_wp2_with fail
      exact ⟨⟨i + 1, by go_num, hil, by rw [HN.out]; apply congrArg; omega, Lib.hid hbw.out⟩, by simp [intOf]; omega⟩
    · have a1 : ¬ (i : Int) < (k : Int) := by omega
      have cG := growC_any (flatL (ps.take i)).length wz (by omega)
      obtain ⟨t, ht⟩ : ∃ t, t = (flatL (ps.take i)).length := ⟨_, rfl⟩
      rw [← ht] at cG ⊢
      clear ht htk
      go_wp2_with fail
      refine cG.mono ?_
      rintro e wg ⟨Ag, cg, rfl, hog, hbg⟩
      have hbwg := hbw.out.trans (Joins.below_le hbg hbw.out.size)
      have hog' := own_base hog hbw.out.size
      have HOG : Hid (wg.ownsRow w.heap.size 59 4 (.slice Ag 0 cg) (flatL (ps.take 0)).length (CsV (flatL (ps.take 0)))) := Lib.hid (by simpa [flatL, CsV] using hog')
      have HBG := Lib.hid hbwg
      clear cG hog hbg hbwg hog' hbw
      go_wp2_with fail
      go_loopw [6, 8, 27] (fun s6 _ s27 wr => ∃ j : Nat, s27 = .int .i64 (j : Int) ∧ j ≤ k ∧ Hid (wr.ownsRow w.heap.size 59 4 s6 (flatL (ps.take j)).length (CsV (flatL (ps.take j)))) ∧ Hid (Below w.heap.size w wr)) (fun _ _ s27 _ => k - (intOf s27).toNat)
      case atStart => exact ⟨0, rfl, Nat.zero_le _, HOG, HBG⟩
      case round =>
        clear HOG HBG
        obtain ⟨j, rfl, hj, ho, hbw⟩ := hrel
        obtain ⟨wv, hwv⟩ : ∃ wv : World, wv = wr := ⟨_, rfl⟩
        subst hwv
        have htk := Nat.le_trans (flatL_take ps j) HT.out
        by_cases hjl : j < k
        · have b1 : (j : Int) < (k : Int) := by omega
          have b0 : (0 : Int) ≤ (j : Int) := by omega
          obtain ⟨p, hpj⟩ : ∃ p, ps[j]? = some p := ⟨_, List.getElem?_eq_getElem (by have := HK.out; omega)⟩
          obtain ⟨c0, hr0⟩ := HCELL.out _ hbw.out j p hpj
          have hsn := flatL_snoc hpj
          have htk2 := Nat.le_trans (flatL_take ps (j + 1)) HT.out
          rw [hsn, List.length_append] at htk2
          have hra := RowN.at hr0
          have HRA := Lib.hid hra
          have HSN := Lib.hid hsn
          obtain ⟨pv, pl⟩ := p
          dsimp only at c0 HRA HSN htk2
          have hsz := hbw.out.size
          clear hr0 hpj hra hsn
          go_wp2_with (at_builtin; go_must (refine wpList_appAt rfl (.tmp 31) (.tmp 32) 29 rfl w.heap.size 59 iu _ 4 48 Try.underlying29 hiu z0 z1 z2 rfl (by decide) _ _ (flatL (ps.take j)).length (CsV (flatL (ps.take j))) pl.length (CsV pl) rfl rfl ho.out HRA.out (CsV_one _) (by unfold maxLen; omega) (by omega) hsz ?_; intro A7 c7 w7 ho7 hg7 hat7; generalize Value.slice A7 _ c7 = v7 at ho7 hat7 ⊢))
          have hon : w7.ownsRow w.heap.size 59 4 v7 (flatL (ps.take (j + 1))).length (CsV (flatL (ps.take (j + 1)))) := by
            rw [HSN.out, List.length_append, CsV_append]
            exact ho7
          have hbn : Below w.heap.size w w7 := hbw.out.grown hg7 hsz (fun p' hp' => (ho.out.lt p' hp').1)
          have HON := Lib.hid hon
          have HBN := Lib.hid hbn
          clear ho7 hg7 hat7 hon hbn
          go_wp2_with fail
          exact ⟨⟨j + 1, by go_num, hjl, HON, HBN⟩, by simp [intOf]; omega⟩
        · have b1 : ¬ (j : Int) < (k : Int) := by omega
          have hfi := ho.out
          rw [List.take_of_length_le (by have := HK.out; omega)] at hfi
          obtain ⟨A9, c9, hv9⟩ := own_slice hfi
          subst hv9
          have HFI := Lib.hid hfi
          have HFB := Lib.hid hbw.out
          clear hfi ho hbw
          go_wp2_with fail
          go_ret
          exact ⟨_, _, rfl, HFI.out, HFB.out⟩
set_option maxHeartbeats 2000000 in
set_option maxRecDepth 100000 in
theorem growI_any (n : Nat) (w : World) (hn : n ≤ 1000000) :
    Calls Try.prog 83 #[.slice none 0 0, .int .i64 (n : Int)] w fun e w' => ∃ A c, e = .returned (.slice A 0 c) ∧ w'.ownsRow w.heap.size 3 1 (.slice A 0 c) 0 [] ∧ Below w.heap.size w w' := by
  obtain ⟨iu, hiu, z0, z1, z2⟩ := info_parts info_I
  have h1 : ¬ ((n : Int) < 0) := by omega
  have h2 : wrap64 ((0 : Int) - (0 : Int)) = 0 := by unfold wrap64; omega
  have h3 : wrap64 ((n : Int) - 0) = (n : Int) := by unfold wrap64; omega
  by_cases h0 : n = 0
  · subst h0
    go_enter Try.func83, Try.ntmps83
    go_wp2_with fail
    go_ret
    exact ⟨none, 0, rfl, ⟨rfl, .inl ⟨rfl, rfl⟩⟩, Below.refl _ _⟩
  · have h4 : (0 : Int) < (n : Int) := by omega
    have hr := fun ty => Lib.run_append_nil_zeros (P := Try.prog) w 23 3 ty 3 iu (.int .i64 0) .i64 .i64 Try.underlying23 Try.underlying3 hiu z0 n (by omega) (by omega) (by omega) (by rw [z2]; omega)
    have hge := grownCap_ge w n 0 3
    have hcm : grownCap w n 0 3 ≤ maxLen := grownCap_le_maxLen w n 0 3 (by unfold maxLen; omega)
    obtain ⟨G, hG⟩ : ∃ G, G = grownCap w n 0 3 := ⟨_, rfl⟩
    rw [← hG] at hr hge hcm
    obtain ⟨w1, hw1⟩ : ∃ w1, w1 = w.drew.alloc (.cells (Builtin.zeroCells ((.int .i64 0) : Value).cells n ++ Builtin.zeroCells ((.int .i64 0) : Value).cells (G - n)) 3) := ⟨_, rfl⟩
    have ho1 : w1.ownsRow w.heap.size 3 1 (.slice (some ⟨w.heap.size, 0, none⟩) 0 G) 0 [] := by
      rw [hw1]
      refine World.ownsRow_made w.drew _ G (Nat.le_refl _) hcm ?_
      rw [Array.size_append, size_zeroCells, size_zeroCells]
      show n * 1 + (G - n) * 1 = G * 1
      omega
    have hb1 : Below w.heap.size w w1 := by rw [hw1]; exact (Below.refl _ _).drew.alloc (Nat.le_refl _) _
    rw [← hw1] at hr
    have HR := Lib.hid hr
    have HO := Lib.hid ho1
    have HB := Lib.hid hb1
    have hG0 : 0 ≤ G := Nat.zero_le _
    have s1 : ∀ W : World, (Instr.slice 23 (.slice none 0 0) none (some (.int .i64 0)) none).run Try.prog W = .ok (.slice none 0 0) W := fun W => tillI W none 0 0 0 (Nat.le_refl _)
    have s2 : ∀ W : World, (Instr.slice 23 (.slice (some ⟨w.heap.size, 0, none⟩) n G) none (some (.int .i64 0)) none).run Try.prog W = .ok (.slice (some ⟨w.heap.size, 0, none⟩) 0 G) W := fun W => tillI W (some ⟨w.heap.size, 0, none⟩) n G 0 hG0
    have s1' : ∀ W : World, (Instr.sliceAt 23 (.slice none 0 0) none (some (.int .i64 0)) none).run Try.prog W = .ok (.slice none 0 0) W := fun W => (run_sliceAt_slice _ _ _ _ _ _ elem_I).trans (s1 W)
    have s2' : ∀ W : World, (Instr.sliceAt 23 (.slice (some ⟨w.heap.size, 0, none⟩) n G) none (some (.int .i64 0)) none).run Try.prog W = .ok (.slice (some ⟨w.heap.size, 0, none⟩) 0 G) W := fun W => (run_sliceAt_slice _ _ _ _ _ _ elem_I).trans (s2 W)
    clear hr ho1 hb1 hG hw1
    go_enter Try.func83, Try.ntmps83
    go_wp2_with (at_builtin; go_must (refine Lib.wpList_append_run _ rfl (.tmp 20) (.tmp 21) 23 3 rfl _ _ rfl rfl _ _ (HR.out _) ?_))
    go_ret
    exact ⟨_, _, rfl, HO.out, HB.out⟩
set_option maxHeartbeats 2000000 in
set_option maxRecDepth 100000 in
theorem concatI_any (ps : List (Value × List Int)) (g : Nat) (T : TypeId) (w : World) (hg : w.heap[g]? = some (.cells (ps.map Prod.fst).toArray T (0, 0))) (hps : ∀ p ∈ ps, KsN w Any p.1 p.2) (htot : (flatL ps).length ≤ 10000) (hpl : ps.length ≤ 100) :
    Calls Try.prog 60 #[.slice (some ⟨g, 0, none⟩) ps.length ps.length] w fun e w' => ∃ A c, e = .returned (.slice A (flatL ps).length c) ∧ w'.ownsRow w.heap.size 3 1 (.slice A (flatL ps).length c) (flatL ps).length (KsV (flatL ps)) ∧ Below w.heap.size w w' := by
  obtain ⟨iu, hiu, z0, z1, z2⟩ := info_parts info_I
  have hgl : g < w.heap.size := (Array.getElem?_eq_some_iff.1 hg).1
  have hcell : ∀ W, Below w.heap.size w W → ∀ (i : Nat) (p : Value × List Int), ps[i]? = some p → W.cell? ⟨g, i, none⟩ = some p.1 ∧ KsN W Any p.1 p.2 := fun W hW i p hp => by
    have hgz := (hW.block g hgl).trans hg
    refine ⟨?_, (hps p (List.mem_of_getElem? hp)).grow hW⟩
    rw [(row_cells hgz).1 i, List.getElem?_toArray, List.getElem?_map, hp]
    rfl
  have HCELL := Lib.hid hcell
  obtain ⟨k, hk⟩ : ∃ k, k = ps.length := ⟨_, rfl⟩
  rw [← hk]
  have hpl' : k ≤ 100 := by omega
  have HK := Lib.hid hk
  have HT := Lib.hid htot
  clear hg hps hcell hk htot hpl
  go_enter Try.func60, Try.ntmps60
  go_wp2_with fail
  go_loopw [3, 5, 11] (fun s3 _ s11 wr => ∃ i : Nat, s11 = .int .i64 (i : Int) ∧ i ≤ k ∧ s3 = .int .i64 (((flatL (ps.take i)).length : Nat) : Int) ∧ Hid (Below w.heap.size w wr)) (fun _ _ s11 _ => k - (intOf s11).toNat)
  case atStart => exact ⟨0, rfl, Nat.zero_le _, by simp [flatL], Lib.hid (Below.refl _ _)⟩
  case round =>
    obtain ⟨i, rfl, hi, rfl, hbw⟩ := hrel
    obtain ⟨wz, hwz⟩ : ∃ wz : World, wz = wr := ⟨_, rfl⟩
    subst hwz
    have htk := Nat.le_trans (flatL_take ps i) HT.out
    by_cases hil : i < k
    · have a1 : (i : Int) < (k : Int) := by omega
      have a0 : (0 : Int) ≤ (i : Int) := by omega
      obtain ⟨p, hpi⟩ : ∃ p, ps[i]? = some p := ⟨_, List.getElem?_eq_getElem (by have := HK.out; omega)⟩
      obtain ⟨c0, hr0⟩ := HCELL.out _ hbw.out i p hpi
      obtain ⟨Ap, cp, hv, -, -⟩ := RowN.slice hr0
      rw [hv] at c0
      have hsn := flatL_snoc hpi
      have htk2 := Nat.le_trans (flatL_take ps (i + 1)) HT.out
      rw [hsn, List.length_append] at htk2
      obtain ⟨t, ht⟩ : ∃ t, t = (flatL (ps.take i)).length := ⟨_, rfl⟩
      obtain ⟨m, hm⟩ : ∃ m, m = p.2.length := ⟨_, rfl⟩
      have hnew : (flatL (ps.take (i + 1))).length = t + m := by rw [hsn, List.length_append, ht, hm]
      rw [← ht, ← hm] at htk2
      rw [← ht]
      rw [← hm] at c0
      have HN := Lib.hid hnew
      clear hr0 hv hsn hpi ht hm hnew htk
      have hw1 : wrap64 ((t : Int) + (m : Int)) = (t : Int) + (m : Int) := by unfold wrap64; omega
      have hw2 : ¬ ((t : Int) + (m : Int) < 0) := by omega
      go_wp2_with fail
      exact ⟨⟨i + 1, by go_num, hil, by rw [HN.out]; apply congrArg; omega, Lib.hid hbw.out⟩, by simp [intOf]; omega⟩
    · have a1 : ¬ (i : Int) < (k : Int) := by omega
      have cG := growI_any (flatL (ps.take i)).length wz (by omega)
      obtain ⟨t, ht⟩ : ∃ t, t = (flatL (ps.take i)).length := ⟨_, rfl⟩
      rw [← ht] at cG ⊢
      clear ht htk
      go_wp2_with fail
      refine cG.mono ?_
      rintro e wg ⟨Ag, cg, rfl, hog, hbg⟩
      have hbwg := hbw.out.trans (Joins.below_le hbg hbw.out.size)
      have hog' := own_base hog hbw.out.size
      have HOG : Hid (wg.ownsRow w.heap.size 3 1 (.slice Ag 0 cg) (flatL (ps.take 0)).length (KsV (flatL (ps.take 0)))) := Lib.hid (by simpa [flatL, KsV] using hog')
      have HBG := Lib.hid hbwg
      clear cG hog hbg hbwg hog' hbw
      go_wp2_with fail
      go_loopw [6, 8, 27] (fun s6 _ s27 wr => ∃ j : Nat, s27 = .int .i64 (j : Int) ∧ j ≤ k ∧ Hid (wr.ownsRow w.heap.size 3 1 s6 (flatL (ps.take j)).length (KsV (flatL (ps.take j)))) ∧ Hid (Below w.heap.size w wr)) (fun _ _ s27 _ => k - (intOf s27).toNat)
      case atStart => exact ⟨0, rfl, Nat.zero_le _, HOG, HBG⟩
      case round =>
        clear HOG HBG
        obtain ⟨j, rfl, hj, ho, hbw⟩ := hrel
        obtain ⟨wv, hwv⟩ : ∃ wv : World, wv = wr := ⟨_, rfl⟩
        subst hwv
        have htk := Nat.le_trans (flatL_take ps j) HT.out
        by_cases hjl : j < k
        · have b1 : (j : Int) < (k : Int) := by omega
          have b0 : (0 : Int) ≤ (j : Int) := by omega
          obtain ⟨p, hpj⟩ : ∃ p, ps[j]? = some p := ⟨_, List.getElem?_eq_getElem (by have := HK.out; omega)⟩
          obtain ⟨c0, hr0⟩ := HCELL.out _ hbw.out j p hpj
          have hsn := flatL_snoc hpj
          have htk2 := Nat.le_trans (flatL_take ps (j + 1)) HT.out
          rw [hsn, List.length_append] at htk2
          have hra := RowN.at hr0
          have HRA := Lib.hid hra
          have HSN := Lib.hid hsn
          obtain ⟨pv, pl⟩ := p
          dsimp only at c0 HRA HSN htk2
          have hsz := hbw.out.size
          clear hr0 hpj hra hsn
          go_wp2_with (at_builtin; go_must (refine wpList_appAt rfl (.tmp 31) (.tmp 32) 23 rfl w.heap.size 3 iu _ 1 8 Try.underlying23 hiu z0 z1 z2 rfl (by decide) _ _ (flatL (ps.take j)).length (KsV (flatL (ps.take j))) pl.length (KsV pl) rfl rfl ho.out HRA.out (KsV_one _) (by unfold maxLen; omega) (by omega) hsz ?_; intro A7 c7 w7 ho7 hg7 hat7; generalize Value.slice A7 _ c7 = v7 at ho7 hat7 ⊢))
          have hon : w7.ownsRow w.heap.size 3 1 v7 (flatL (ps.take (j + 1))).length (KsV (flatL (ps.take (j + 1)))) := by
            rw [HSN.out, List.length_append, KsV_append]
            exact ho7
          have hbn : Below w.heap.size w w7 := hbw.out.grown hg7 hsz (fun p' hp' => (ho.out.lt p' hp').1)
          have HON := Lib.hid hon
          have HBN := Lib.hid hbn
          clear ho7 hg7 hat7 hon hbn
          go_wp2_with fail
          exact ⟨⟨j + 1, by go_num, hjl, HON, HBN⟩, by simp [intOf]; omega⟩
        · have b1 : ¬ (j : Int) < (k : Int) := by omega
          have hfi := ho.out
          rw [List.take_of_length_le (by have := HK.out; omega)] at hfi
          obtain ⟨A9, c9, hv9⟩ := own_slice hfi
          subst hv9
          have HFI := Lib.hid hfi
          have HFB := Lib.hid hbw.out
          clear hfi ho hbw
          go_wp2_with fail
          go_ret
          exact ⟨_, _, rfl, HFI.out, HFB.out⟩
end Go.Proofs.Ytedcknlafkokkaa
