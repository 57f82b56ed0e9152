/-
  A node of bytes, by the document's words: its Decode. No statement is proved here. No condition.
-/
import Derived.Test.YtikkeenjalghmaaNRefDN
import Derived.Test.YtikkeenjalghmaaNRefDP
import Derived.Test.YtikkeenjalghmaaNRefC
import Derived.Test.YtikkeenjalghmaaNBack
namespace Go.Proofs.Ytikkeenjalghmaa
open Go.RowKit

theorem NodeN.zeroV (W : World) : NodeN W Any (.agg #[.bool false, .slice none 0 0, .slice none 0 0]) PN.zero := ⟨_, _, rfl, CsN.nil _ _, KsN.nil _ _⟩
theorem zero_cellR (W : World) : (zeroValue 60).run Try.prog W = .ok (.agg #[.string ⟨#[]⟩, .string ⟨#[]⟩, .int .i64 0, .int .i64 0]) W := by kernel_rfl
theorem set1 {W : World} {p : Nat} {T : TypeId} {a b c d x : Value} (h : W.heap[p]? = some (.cells #[a, b, c, d] T (0, 0))) : (W.setCell ⟨p, 1, none⟩ x).heap[p]? = some (.cells #[a, x, c, d] T (0, 0)) := by rw [set4 h]; simp
theorem set2 {W : World} {p : Nat} {T : TypeId} {a b c d x : Value} (h : W.heap[p]? = some (.cells #[a, b, c, d] T (0, 0))) : (W.setCell ⟨p, 2, none⟩ x).heap[p]? = some (.cells #[a, b, x, d] T (0, 0)) := by rw [set4 h]; simp
theorem set3 {W : World} {p : Nat} {T : TypeId} {a b c d x : Value} (h : W.heap[p]? = some (.cells #[a, b, c, d] T (0, 0))) : (W.setCell ⟨p, 3, none⟩ x).heap[p]? = some (.cells #[a, b, c, x] T (0, 0)) := by rw [set4 h]; simp
set_option maxHeartbeats 8000000 in
set_option maxRecDepth 1000000 in
theorem refdecode_any (l : List UInt8) (v : Value) (w : World) (h : BN w Any v l) (hl : l.length ≤ 1000000) :
    Calls Try.prog 16 #[v] w fun e w' => ∃ v', e = .returned (.tuple #[v', .int .i64 (decErr l)]) ∧ NodeN w' Any v' (decNode l) ∧ Below w.heap.size w w' := by
  obtain ⟨Ab, cb, rfl, -, -⟩ := h.slice
  obtain ⟨w1, hw1⟩ : ∃ w1, w1 = w.alloc (.cells #[.bool false, .slice none 0 0, .slice none 0 0] 25) := ⟨_, rfl⟩
  have hz1 : w1.heap[w.heap.size]? = some (.cells #[.bool false, .slice none 0 0, .slice none 0 0] 25 (0, 0)) := by rw [hw1]; exact heap_alloc_new w _
  have hb1 : Below w.heap.size w w1 := by rw [hw1]; exact (Below.refl _ _).alloc (Nat.le_refl _) _
  have hzn := zero_nodeR
  have hzc := zero_cellR
  have hno : ∀ W : World, W.heap[w.heap.size]? = some (.cells #[.bool false, .slice none 0 0, .slice none 0 0] 25 (0, 0)) → (W.cell? ⟨w.heap.size, 0, none⟩ = some (.bool false) ∧ W.cell? ⟨w.heap.size, 1, none⟩ = some (.slice none 0 0) ∧ W.cell? ⟨w.heap.size, 2, none⟩ = some (.slice none 0 0)) ∧ W.frozen? ⟨w.heap.size, 0, none⟩ = false ∧ W.frozen? ⟨w.heap.size, 1, none⟩ = false ∧ W.frozen? ⟨w.heap.size, 2, none⟩ = false := fun W hW =>
    ⟨⟨(row_cells hW).1 0, (row_cells hW).1 1, (row_cells hW).1 2⟩, (row_cells hW).2 0, (row_cells hW).2 1, (row_cells hW).2 2⟩
  have HNO := Lib.hid hno
  have HW1 := Lib.hid hw1
  have HZ1 := Lib.hid hz1
  have HB1 := Lib.hid hb1
  have HH := Lib.hid h
  obtain ⟨ok, hok⟩ : ∃ ok, ok = decOk l := ⟨_, rfl⟩
  have HOK := Lib.hid hok
  have herr : decErr l = if ok = true then 0 else 4 := by unfold decErr; rw [hok]
  have hnod : decNode l = if ok = true then (rdNode (some l)).1 else PN.zero := by unfold decNode; rw [hok]
  have HERR := Lib.hid herr
  have HNOD := Lib.hid hnod
  clear hw1 hz1 hb1 h hno hok herr hnod
  go_enter Try.func16, Try.ntmps16
  by_cases h512 : l.length ≤ 512
  · have a1 : ¬ (512 : Int) < (l.length : Int) := by omega
    have cN := xnew_any l (.slice Ab l.length cb) w1 (BN.rd (RowN.grow HH.out HB1.out)) (by omega)
    rw [HW1.out] at cN
    go_wp2_with fail
    refine cN.mono ?_
    rintro e w2 ⟨R, rfl, hRge, hr2, hb2⟩
    rw [← HW1.out] at hb2 hRge
    clear cN
    have hs1 := HB1.out.size
    have hl1 : w.heap.size < w1.heap.size := (Array.getElem?_eq_some_iff.1 HZ1.out).1
    have hR : R < w2.heap.size := hr2.lt
    have hb02 : Below w.heap.size w w2 := HB1.out.trans (Joins.below_le hb2 hs1)
    have hz2 := (hb2.block _ hl1).trans HZ1.out
    have hl2 : w.heap.size < w2.heap.size := (Array.getElem?_eq_some_iff.1 hz2).1
    have HZ : Hid (∀ W, w2.grownBy W (some R) → W.heap[w.heap.size]? = some (.cells #[.bool false, .slice none 0 0, .slice none 0 0] 25 (0, 0)) ∧ Below w.heap.size w W) := Lib.hid fun W hW => ⟨(hW.block _ hl2 (fun e => by injection e with e; omega)).trans hz2, ⟨hW.os.trans hb02.os, hW.tape.trans hb02.tape, hW.output.trans hb02.output, Nat.le_trans hb02.size hW.size, fun b hb => (hW.block b (by omega) (fun e => by injection e with e; omega)).trans (hb02.block b hb)⟩⟩
    have cF := xFlag_any R (some l) w2 hr2
    obtain ⟨lf, s1, hf⟩ : ∃ lf s1, told false gFlag (some l) = (lf, s1) := ⟨_, _, rfl⟩
    rw [hf] at cF
    unfold XTells at cF
    have HF := Lib.hid hf
    clear hb2 hb02 hz2 hf hs1 hl1
    go_wp2_with fail
    refine cF.mono ?_
    rintro e w3 ⟨rfl, hg3, hr3⟩
    dsimp only at hr3 ⊢
    clear cF
    obtain ⟨w4, hw4⟩ : ∃ w4, w4 = w3.alloc (.cells #[.bool lf, .slice none 0 0, .slice none 0 0] 25) := ⟨_, rfl⟩
    have hj4 : DxJ w2 w4 R w3.heap.size ⟨lf, [], []⟩ s1 none 0 none 0 := ⟨by rw [hw4]; exact heap_alloc_new w3 _, ⟨rfl, .inl ⟨rfl, rfl⟩⟩, ⟨rfl, .inl ⟨rfl, rfl⟩⟩, by rw [hw4]; exact hr3.alloc _, by rw [hw4]; exact grown_alloc hg3 _, hg3.size⟩
    obtain ⟨B, hB⟩ : ∃ B, B = w3.heap.size := ⟨_, rfl⟩
    rw [← hB] at hj4
    have HW4 := Lib.hid hw4
    have HBE := Lib.hid hB
    have cC := xCount_any R 512 s1 w4 hj4.rdr
    obtain ⟨z, s2, hc⟩ : ∃ z s2, told 0 (gCount 512) s1 = (z, s2) := ⟨_, _, rfl⟩
    rw [hc] at cC
    unfold XTells at cC
    have hzq := told_count_le 512 s1
    rw [show ((512 : Nat) : Int) = 512 from rfl, hc] at hzq
    dsimp only at hzq
    obtain ⟨q, hq⟩ : ∃ q, q = z.toNat := ⟨_, rfl⟩
    rw [← hq] at hzq
    obtain ⟨hzq1, hq512⟩ := hzq
    subst hzq1
    obtain ⟨P1, P2⟩ := refdec HF.out hc h512
    have HP1 := Lib.hid P1
    have HP2 := Lib.hid P2
    have HJ4 := Lib.hid hj4
    clear hg3 hr3 hw4 hj4 hB hc hq P1 P2
    go_upto_region 5 with fail
    rw [← HW4.out, ← HBE.out]
    go_wp2_with fail
    refine cC.mono ?_
    rintro e w5 ⟨rfl, hg5, hr5⟩
    dsimp only at hr5 ⊢
    have HI5 : Hid (DxI w2 w5 R B ⟨lf, [], []⟩ s2) := Lib.hid ⟨_, _, _, _, HJ4.out.step hR hg5 hr5⟩
    clear cC hg5 hr5 HJ4
    go_wp2_with fail
    go_loopw [7, 8] (fun s7 _ wr => ∃ (i : Nat) (xs : List PC) (s : Option (List UInt8)), s7 = .int .i64 (i : Int) ∧ i ≤ q ∧ xs.length = i ∧ Hid (rdCells lf i s2 = (xs, s)) ∧ Hid (DxI w2 wr R B ⟨lf, xs, []⟩ s)) (fun s7 _ _ => q - (intOf s7).toNat)
    case atStart => exact ⟨0, [], s2, rfl, Nat.zero_le _, rfl, Lib.hid rfl, HI5⟩
    case round =>
      clear HI5
      obtain ⟨i, xs, s, rfl, hi, hxl, HCS, hri⟩ := hrel
      subst hxl
      obtain ⟨wz, hwz⟩ : ∃ wz : World, wz = wr := ⟨_, rfl⟩
      subst hwz
      obtain ⟨A, c, A', c', hj⟩ := hri.out
      clear hri
      cases s with
      | none =>
        have hokf : ok = false := by rw [HOK.out]; exact HP1.out (rdCells_stop (by rw [HCS.out]) q hi)
        by_cases him : xs.length < q
        · have a2 : (xs.length : Int) < (q : Int) := by omega
          have cO := xok_any R none wz hj.rdr
          rw [show (none : Option (List UInt8)).isSome = false from rfl] at cO
          go_wp2_with fail
          refine cO.mono ?_
          rintro e wt ⟨rfl, rfl⟩
          clear cO
          have HJ := Lib.hid hj
          clear hj
          go_wp2_with fail
          go_loopw [9] (fun s9 wr => s9 = .int .i64 0 ∧ wr = wz) (fun _ _ => 0)
          case atStart => exact ⟨rfl, rfl⟩
          case round =>
            obtain ⟨rfl, rfl⟩ := hrel
            obtain ⟨wv, hwv⟩ : ∃ wv, wv = wr := ⟨_, rfl⟩
            rw [← hwv] at HJ ⊢
            clear hwv
            have hj := HJ.out
            have cO := xok_any R none wv hj.rdr
            rw [show (none : Option (List UInt8)).isSome = false from rfl] at cO
            have q0 : (0 : Int) ≤ (q : Int) := by omega
            go_wp2_with fail
            refine cO.mono ?_
            rintro e wt ⟨rfl, rfl⟩
            clear cO
            have cO := xok_any R none wv hj.rdr
            rw [show (none : Option (List UInt8)).isSome = false from rfl] at cO
            obtain ⟨hz, hbz⟩ := HZ.out wv hj.grown
            obtain ⟨⟨z0, z1, z2⟩, z3, z4, z5⟩ := HNO.out wv hz
            obtain ⟨wf, hwf⟩ : ∃ wf, wf = ((wv.setCell ⟨w.heap.size, 0, none⟩ (.bool false)).setCell ⟨w.heap.size, 1, none⟩ (.slice none 0 0)).setCell ⟨w.heap.size, 2, none⟩ (.slice none 0 0) := ⟨_, rfl⟩
            have e1 : wf.heap[w.heap.size]? = some (.cells #[.bool false, .slice none 0 0, .slice none 0 0] 25 (0, 0)) := by rw [hwf]; exact set3_at hz
            have hbf : Below w.heap.size w wf := by rw [hwf]; exact ((hbz.setCell (Nat.le_refl _) _).setCell (Nat.le_refl _) _).setCell (Nat.le_refl _) _
            have r0 : wf.cell? ⟨w.heap.size, 0, none⟩ = some (.bool false) := (row_cells e1).1 0
            have r1 : wf.cell? ⟨w.heap.size, 1, none⟩ = some (.slice none 0 0) := (row_cells e1).1 1
            have r2 : wf.cell? ⟨w.heap.size, 2, none⟩ = some (.slice none 0 0) := (row_cells e1).1 2
            have HBF := Lib.hid hbf
            have HWF := Lib.hid hwf
            subst hokf
            clear hwf e1 hbf hz hbz hj
            go_wp2_with fail
            refine cO.mono ?_
            rintro e wt ⟨rfl, rfl⟩
            clear cO
            go_wp2_with fail
            rw [← HWF.out]
            refine bodyPost_ret (v := .tuple #[.agg #[.bool false, .slice none 0 0, .slice none 0 0], .int .i64 4]) (by rw [results_cell_tmp rfl]; go_simp; try rfl) rfl ?_
            rw [HERR.out, HNOD.out]
            exact ⟨_, rfl, NodeN.zeroV _, HBF.out⟩
        · have a2 : ¬ (xs.length : Int) < (q : Int) := by omega
          have HJ := Lib.hid hj
          clear hj
          go_wp2_with fail
          go_loopw [9] (fun s9 wr => s9 = .int .i64 0 ∧ wr = wz) (fun _ _ => 0)
          case atStart => exact ⟨rfl, rfl⟩
          case round =>
            obtain ⟨rfl, rfl⟩ := hrel
            obtain ⟨wv, hwv⟩ : ∃ wv, wv = wr := ⟨_, rfl⟩
            rw [← hwv] at HJ ⊢
            clear hwv
            have hj := HJ.out
            have cO := xok_any R none wv hj.rdr
            rw [show (none : Option (List UInt8)).isSome = false from rfl] at cO
            have q0 : (0 : Int) ≤ (q : Int) := by omega
            go_wp2_with fail
            refine cO.mono ?_
            rintro e wt ⟨rfl, rfl⟩
            clear cO
            have cO := xok_any R none wv hj.rdr
            rw [show (none : Option (List UInt8)).isSome = false from rfl] at cO
            obtain ⟨hz, hbz⟩ := HZ.out wv hj.grown
            obtain ⟨⟨z0, z1, z2⟩, z3, z4, z5⟩ := HNO.out wv hz
            obtain ⟨wf, hwf⟩ : ∃ wf, wf = ((wv.setCell ⟨w.heap.size, 0, none⟩ (.bool false)).setCell ⟨w.heap.size, 1, none⟩ (.slice none 0 0)).setCell ⟨w.heap.size, 2, none⟩ (.slice none 0 0) := ⟨_, rfl⟩
            have e1 : wf.heap[w.heap.size]? = some (.cells #[.bool false, .slice none 0 0, .slice none 0 0] 25 (0, 0)) := by rw [hwf]; exact set3_at hz
            have hbf : Below w.heap.size w wf := by rw [hwf]; exact ((hbz.setCell (Nat.le_refl _) _).setCell (Nat.le_refl _) _).setCell (Nat.le_refl _) _
            have r0 : wf.cell? ⟨w.heap.size, 0, none⟩ = some (.bool false) := (row_cells e1).1 0
            have r1 : wf.cell? ⟨w.heap.size, 1, none⟩ = some (.slice none 0 0) := (row_cells e1).1 1
            have r2 : wf.cell? ⟨w.heap.size, 2, none⟩ = some (.slice none 0 0) := (row_cells e1).1 2
            have HBF := Lib.hid hbf
            have HWF := Lib.hid hwf
            subst hokf
            clear hwf e1 hbf hz hbz hj
            go_wp2_with fail
            refine cO.mono ?_
            rintro e wt ⟨rfl, rfl⟩
            clear cO
            go_wp2_with fail
            rw [← HWF.out]
            refine bodyPost_ret (v := .tuple #[.agg #[.bool false, .slice none 0 0, .slice none 0 0], .int .i64 4]) (by rw [results_cell_tmp rfl]; go_simp; try rfl) rfl ?_
            rw [HERR.out, HNOD.out]
            exact ⟨_, rfl, NodeN.zeroV _, HBF.out⟩
      | some t =>
        by_cases him : xs.length < q
        · have a2 : (xs.length : Int) < (q : Int) := by omega
          have cO := xok_any R (some t) wz hj.rdr
          rw [show (some t : Option (List UInt8)).isSome = true from rfl] at cO
          have cS := xStr_any R 48 (some t) wz hj.rdr
          obtain ⟨kb, s3, hks⟩ : ∃ kb s3, told [] (gStr 48) (some t) = (kb, s3) := ⟨_, _, rfl⟩
          rw [hks] at cS
          unfold XTells at cS
          have HKS := Lib.hid hks
          have HJ := Lib.hid hj
          clear hj hks
          go_wp2_with fail
          refine cO.mono ?_
          rintro e wt ⟨rfl, rfl⟩
          clear cO
          go_wp2_with fail
          refine cS.mono ?_
          rintro e w6 ⟨rfl, hg6, hr6⟩
          dsimp only at hr6 ⊢
          have hj6 := HJ.out.step hR hg6 hr6
          obtain ⟨lo1, lo2, lo3⟩ := hj6.low
          obtain ⟨w7, hw7⟩ : ∃ w7, w7 = w6.alloc (.cells #[.string ⟨kb.toArray⟩, .string ⟨#[]⟩, .int .i64 0, .int .i64 0] 60) := ⟨_, rfl⟩
          have hb7 : Below w6.heap.size w6 w7 := by rw [hw7]; exact (Below.refl _ _).alloc (Nat.le_refl _) _
          have hc7 : w7.heap[w6.heap.size]? = some (.cells #[.string ⟨kb.toArray⟩, .string ⟨#[]⟩, .int .i64 0, .int .i64 0] 60 (0, 0)) := by rw [hw7]; exact heap_alloc_new w6 _
          have hj7 := hj6.grow hb7
          obtain ⟨C0, hC0⟩ : ∃ C0, C0 = w6.heap.size := ⟨_, rfl⟩
          rw [← hC0] at hc7 lo1 lo2 lo3
          have hRC : R < C0 := by have := hj6.grown.size; omega
          have b0 : w7.cell? ⟨B, 0, none⟩ = some (.bool lf) := (row_cells hj7.blk).1 0
          have HC0 := Lib.hid hC0
          have HW7 := Lib.hid hw7
          have HL2 := Lib.hid lo2
          have HL3 := Lib.hid lo3
          clear cS HJ hg6 hr6 hj6 hw7 hb7 hC0 lo2 lo3
          cases lf with
          | false =>
            obtain ⟨x, hx⟩ : ∃ x : PC, x = ⟨⟨kb.toArray⟩, ⟨#[]⟩, 0, 0⟩ := ⟨_, rfl⟩
            have hrx : rdCell false (some t) = (x, s3) := by unfold rdCell; rw [HKS.out, hx]; rfl
            have HX := Lib.hid hrx
            obtain ⟨sp, hsp⟩ : ∃ sp, sp = s3 := ⟨_, rfl⟩
            rw [← hsp] at HX hj7
            have hcp : w7.heap[C0]? = some (.cells #[.string x.key, .string x.val, .int .i64 x.long, .int .i64 x.size] 60 (0, 0)) := by rw [hx]; exact hc7
            have hjp := hj7
            obtain ⟨lf, hlf⟩ : ∃ lf, lf = false := ⟨_, rfl⟩
            go_upto_region 10 with fail
            rw [← HW7.out, ← HC0.out]
            obtain ⟨wp, hwp⟩ : ∃ wp, wp = w7 := ⟨_, rfl⟩
            rw [← hwp] at hjp hcp b0 ⊢
            clear hx hrx hsp hj7 hc7 hwp hlf lf
            obtain ⟨A7, c7, w7, hr7, f1, f2, hj7⟩ := hjp.pushC hR x (by show xs.length ≤ 1000; omega)
            have y0 : wp.cell? ⟨C0, 0, none⟩ = some (.string x.key) := (row_cells hcp).1 0
            have y1 : wp.cell? ⟨C0, 1, none⟩ = some (.string x.val) := (row_cells hcp).1 1
            have y2 : wp.cell? ⟨C0, 2, none⟩ = some (.int .i64 x.long) := (row_cells hcp).1 2
            have y3 : wp.cell? ⟨C0, 3, none⟩ = some (.int .i64 x.size) := (row_cells hcp).1 3
            have b1 : wp.cell? ⟨B, 1, none⟩ = some (.slice A xs.length c) := (row_cells hjp.blk).1 1
            have b0 : wp.cell? ⟨B, 0, none⟩ = some (.bool false) := (row_cells hjp.blk).1 0
            have hnext : rdCells false (xs.length + 1) s2 = (xs ++ [x], sp) := by rw [rdCells_snoc, HCS.out, HX.out]
            have HNEXT := Lib.hid hnext
            have HAP := Lib.hid hr7
            have HJ7 := Lib.hid hj7
            clear hr7 hj7 hnext hjp hcp
            go_wp2_with (at_builtin; go_must (refine Lib.wpList_append_run _ rfl (.tmp 49) (.tmp 51) 22 22 rfl _ _ rfl rfl _ _ HAP.out ?_))
            exact ⟨⟨xs.length + 1, xs ++ [x], sp, by go_num, him, by rw [List.length_append]; rfl, HNEXT, Lib.hid ⟨_, _, _, _, HJ7.out⟩⟩, by simp [intOf]; omega⟩
          | true =>
            have cL := xCount_any R 2147483647 s3 w7 hj7.rdr
            obtain ⟨lo, s4, hlo⟩ : ∃ lo s4, told 0 (gCount 2147483647) s3 = (lo, s4) := ⟨_, _, rfl⟩
            rw [hlo] at cL
            unfold XTells at cL
            have HLO := Lib.hid hlo
            have HJ7 := Lib.hid hj7
            have HC7 := Lib.hid hc7
            clear hlo hj7 hc7
            go_upto_region 10 with fail
            rw [← HW7.out, ← HC0.out]
            go_wp2_with fail
            refine cL.mono ?_
            rintro e w8 ⟨rfl, hg8, hr8⟩
            dsimp only at hr8 ⊢
            have hC7l : C0 < w7.heap.size := (Array.getElem?_eq_some_iff.1 HC7.out).1
            have hj8 := HJ7.out.step hR hg8 hr8
            have hc8 := (hg8.block _ hC7l (fun e => by injection e with e; omega)).trans HC7.out
            have y2 : w8.cell? ⟨C0, 2, none⟩ = some (.int .i64 0) := (row_cells hc8).1 2
            have y2f : w8.frozen? ⟨C0, 2, none⟩ = false := (row_cells hc8).2 2
            obtain ⟨w9, hw9⟩ : ∃ w9, w9 = w8.setCell ⟨C0, 2, none⟩ (.int .i64 lo) := ⟨_, rfl⟩
            have hj9 : DxJ w2 w9 R B ⟨true, xs, []⟩ s4 A c A' c' := by rw [hw9]; exact hj8.set hR lo1 HL2.out HL3.out
            have hc9 : w9.heap[C0]? = some (.cells #[.string ⟨kb.toArray⟩, .string ⟨#[]⟩, .int .i64 lo, .int .i64 0] 60 (0, 0)) := by rw [hw9]; exact set2 hc8
            have y29 : w9.cell? ⟨C0, 2, none⟩ = some (.int .i64 lo) := (row_cells hc9).1 2
            have HW9 := Lib.hid hw9
            have HJ9 := Lib.hid hj9
            have HC9 := Lib.hid hc9
            clear cL hg8 hr8 hj8 hc8 hw9 hj9 hc9 HJ7 HC7 b0 hC7l
            go_upto_region 12 with fail
            rw [← HW9.out]
            clear y2 y2f
            by_cases hlo0 : lo = 0
            · subst hlo0
              have cV := xStr_any R 64 s4 w9 HJ9.out.rdr
              obtain ⟨vb, s5, hvb⟩ : ∃ vb s5, told [] (gStr 64) s4 = (vb, s5) := ⟨_, _, rfl⟩
              rw [hvb] at cV
              unfold XTells at cV
              have HVB := Lib.hid hvb
              clear hvb
              go_wp2_with fail
              refine cV.mono ?_
              rintro e w10 ⟨rfl, hg10, hr10⟩
              dsimp only at hr10 ⊢
              have hC9l : C0 < w9.heap.size := (Array.getElem?_eq_some_iff.1 HC9.out).1
              have hj10 := HJ9.out.step hR hg10 hr10
              have hc10 := (hg10.block _ hC9l (fun e => by injection e with e; omega)).trans HC9.out
              have y1 : w10.cell? ⟨C0, 1, none⟩ = some (.string ⟨#[]⟩) := (row_cells hc10).1 1
              have y1f : w10.frozen? ⟨C0, 1, none⟩ = false := (row_cells hc10).2 1
              obtain ⟨wp, hwp⟩ : ∃ wp, wp = w10.setCell ⟨C0, 1, none⟩ (.string ⟨vb.toArray⟩) := ⟨_, rfl⟩
              obtain ⟨x, hx⟩ : ∃ x : PC, x = ⟨⟨kb.toArray⟩, ⟨vb.toArray⟩, 0, 0⟩ := ⟨_, rfl⟩
              obtain ⟨sp, hsp⟩ : ∃ sp, sp = s5 := ⟨_, rfl⟩
              have hjp : DxJ w2 wp R B ⟨true, xs, []⟩ sp A c A' c' := by rw [hwp, hsp]; exact hj10.set hR lo1 HL2.out HL3.out
              have hcp : wp.heap[C0]? = some (.cells #[.string x.key, .string x.val, .int .i64 x.long, .int .i64 x.size] 60 (0, 0)) := by rw [hwp, hx]; exact set1 hc10
              have hrx : rdCell true (some t) = (x, sp) := by unfold rdCell; rw [HKS.out]; dsimp only; rw [HLO.out]; dsimp only; rw [HVB.out, hx, hsp]; rfl
              have HX := Lib.hid hrx
              have HWP := Lib.hid hwp
              clear cV hg10 hr10 hj10 hc10 hx hsp hrx hwp hC9l y29
              go_upto_region 15 with fail
              rw [← HWP.out]
              clear y1 y1f
              obtain ⟨A7, c7, w7, hr7, f1, f2, hj7⟩ := hjp.pushC hR x (by show xs.length ≤ 1000; omega)
              have y0 : wp.cell? ⟨C0, 0, none⟩ = some (.string x.key) := (row_cells hcp).1 0
              have y1 : wp.cell? ⟨C0, 1, none⟩ = some (.string x.val) := (row_cells hcp).1 1
              have y2 : wp.cell? ⟨C0, 2, none⟩ = some (.int .i64 x.long) := (row_cells hcp).1 2
              have y3 : wp.cell? ⟨C0, 3, none⟩ = some (.int .i64 x.size) := (row_cells hcp).1 3
              have b1 : wp.cell? ⟨B, 1, none⟩ = some (.slice A xs.length c) := (row_cells hjp.blk).1 1
              have b0 : wp.cell? ⟨B, 0, none⟩ = some (.bool true) := (row_cells hjp.blk).1 0
              have hnext : rdCells true (xs.length + 1) s2 = (xs ++ [x], sp) := by rw [rdCells_snoc, HCS.out, HX.out]
              have HNEXT := Lib.hid hnext
              have HAP := Lib.hid hr7
              have HJ7 := Lib.hid hj7
              clear hr7 hj7 hnext hjp hcp
              go_wp2_with (at_builtin; go_must (refine Lib.wpList_append_run _ rfl (.tmp 49) (.tmp 51) 22 22 rfl _ _ rfl rfl _ _ HAP.out ?_))
              exact ⟨⟨xs.length + 1, xs ++ [x], sp, by go_num, him, by rw [List.length_append]; rfl, HNEXT, Lib.hid ⟨_, _, _, _, HJ7.out⟩⟩, by simp [intOf]; omega⟩
            · have cV := xCount_any R 2147483647 s4 w9 HJ9.out.rdr
              obtain ⟨sz, s5, hvb⟩ : ∃ sz s5, told 0 (gCount 2147483647) s4 = (sz, s5) := ⟨_, _, rfl⟩
              rw [hvb] at cV
              unfold XTells at cV
              have HVB := Lib.hid hvb
              clear hvb
              go_wp2_with fail
              refine cV.mono ?_
              rintro e w10 ⟨rfl, hg10, hr10⟩
              dsimp only at hr10 ⊢
              have hC9l : C0 < w9.heap.size := (Array.getElem?_eq_some_iff.1 HC9.out).1
              have hj10 := HJ9.out.step hR hg10 hr10
              have hc10 := (hg10.block _ hC9l (fun e => by injection e with e; omega)).trans HC9.out
              have y1 : w10.cell? ⟨C0, 3, none⟩ = some (.int .i64 0) := (row_cells hc10).1 3
              have y1f : w10.frozen? ⟨C0, 3, none⟩ = false := (row_cells hc10).2 3
              obtain ⟨wp, hwp⟩ : ∃ wp, wp = w10.setCell ⟨C0, 3, none⟩ (.int .i64 sz) := ⟨_, rfl⟩
              obtain ⟨x, hx⟩ : ∃ x : PC, x = ⟨⟨kb.toArray⟩, ⟨#[]⟩, lo, sz⟩ := ⟨_, rfl⟩
              obtain ⟨sp, hsp⟩ : ∃ sp, sp = s5 := ⟨_, rfl⟩
              have hjp : DxJ w2 wp R B ⟨true, xs, []⟩ sp A c A' c' := by rw [hwp, hsp]; exact hj10.set hR lo1 HL2.out HL3.out
              have hcp : wp.heap[C0]? = some (.cells #[.string x.key, .string x.val, .int .i64 x.long, .int .i64 x.size] 60 (0, 0)) := by rw [hwp, hx]; exact set3 hc10
              have hrx : rdCell true (some t) = (x, sp) := by
                unfold rdCell
                rw [if_pos rfl, HKS.out]
                dsimp only
                rw [HLO.out]
                dsimp only
                rw [if_neg hlo0, HVB.out, hx, hsp]
              have HX := Lib.hid hrx
              have HWP := Lib.hid hwp
              clear cV hg10 hr10 hj10 hc10 hx hsp hrx hwp hC9l y29
              go_upto_region 15 with fail
              rw [← HWP.out]
              clear y1 y1f
              obtain ⟨A7, c7, w7, hr7, f1, f2, hj7⟩ := hjp.pushC hR x (by show xs.length ≤ 1000; omega)
              have y0 : wp.cell? ⟨C0, 0, none⟩ = some (.string x.key) := (row_cells hcp).1 0
              have y1 : wp.cell? ⟨C0, 1, none⟩ = some (.string x.val) := (row_cells hcp).1 1
              have y2 : wp.cell? ⟨C0, 2, none⟩ = some (.int .i64 x.long) := (row_cells hcp).1 2
              have y3 : wp.cell? ⟨C0, 3, none⟩ = some (.int .i64 x.size) := (row_cells hcp).1 3
              have b1 : wp.cell? ⟨B, 1, none⟩ = some (.slice A xs.length c) := (row_cells hjp.blk).1 1
              have b0 : wp.cell? ⟨B, 0, none⟩ = some (.bool true) := (row_cells hjp.blk).1 0
              have hnext : rdCells true (xs.length + 1) s2 = (xs ++ [x], sp) := by rw [rdCells_snoc, HCS.out, HX.out]
              have HNEXT := Lib.hid hnext
              have HAP := Lib.hid hr7
              have HJ7 := Lib.hid hj7
              clear hr7 hj7 hnext hjp hcp
              go_wp2_with (at_builtin; go_must (refine Lib.wpList_append_run _ rfl (.tmp 49) (.tmp 51) 22 22 rfl _ _ rfl rfl _ _ HAP.out ?_))
              exact ⟨⟨xs.length + 1, xs ++ [x], sp, by go_num, him, by rw [List.length_append]; rfl, HNEXT, Lib.hid ⟨_, _, _, _, HJ7.out⟩⟩, by simp [intOf]; omega⟩
        · have a2 : ¬ (xs.length : Int) < (q : Int) := by omega
          have hxq : xs.length = q := by omega
          have hrn := HP2.out xs t (by rw [← hxq]; exact HCS.out)
          cases lf with
          | true =>
            have HRN : Hid (rdNode (some l) = (⟨true, xs, []⟩, some t)) := Lib.hid (by rw [hrn]; rfl)
            have HJ := Lib.hid hj
            clear hj hrn
            go_wp2_with fail
            go_loopw [9] (fun s9 wr => s9 = .int .i64 0 ∧ wr = wz) (fun _ _ => 0)
            case atStart => exact ⟨rfl, rfl⟩
            case round =>
              obtain ⟨rfl, rfl⟩ := hrel
              obtain ⟨wv, hwv⟩ : ∃ wv, wv = wr := ⟨_, rfl⟩
              rw [← hwv] at HJ ⊢
              clear hwv
              have hj := HJ.out
              have cO := xok_any R (some t) wv hj.rdr
              rw [show (some t : Option (List UInt8)).isSome = true from rfl] at cO
              have q0 : (0 : Int) ≤ (q : Int) := by omega
              have b0 : wv.cell? ⟨B, 0, none⟩ = some (.bool true) := (row_cells hj.blk).1 0
              go_wp2_with fail
              refine cO.mono ?_
              rintro e wt ⟨rfl, rfl⟩
              go_upto_region 20 with fail
              clear cO b0
              obtain ⟨m, hm⟩ : ∃ m : PN, m = ⟨true, xs, []⟩ := ⟨_, rfl⟩
              obtain ⟨t4, ht4⟩ : ∃ t4, t4 = t := ⟨_, rfl⟩
              rw [← hm, ← ht4] at HRN
              replace hj : DxJ w2 wv R B m (some t4) A c A' c' := by rw [hm, ht4]; exact hj
              have hmc : m.cells.length ≤ 1000 := by rw [hm]; show xs.length ≤ _; omega
              clear hm ht4 HJ
              have cO := xok_any R (some t4) wv hj.rdr
              rw [show (some t4 : Option (List UInt8)).isSome = true from rfl] at cO
              have hnv : NodeN wv Any (.agg #[.bool m.leaf, .slice A m.cells.length c, .slice A' m.kids.length c']) m := ⟨_, _, rfl, RowN.of_own hj.cs (fun _ _ => trivial), RowN.of_own hj.ks (fun _ _ => trivial)⟩
              have cC := refcheck_any m _ wv hnv (by omega)
              have ht4l : t4.length ≤ l.length := by have := less_node (some l); rw [HRN.out] at this; exact this
              have b0 : wv.cell? ⟨B, 0, none⟩ = some (.bool m.leaf) := (row_cells hj.blk).1 0
              have b1 : wv.cell? ⟨B, 1, none⟩ = some (.slice A m.cells.length c) := (row_cells hj.blk).1 1
              have b2 : wv.cell? ⟨B, 2, none⟩ = some (.slice A' m.kids.length c') := (row_cells hj.blk).1 2
              have hokv : ok = (m.chk && allNought (l.drop (l.length - t4.length))) := by
                rw [HOK.out]
                unfold decOk leftOf
                rw [HRN.out, decide_eq_true h512]
                rfl
              obtain ⟨ck, hck⟩ : ∃ ck, ck = m.chk := ⟨_, rfl⟩
              rw [← hck] at cC hokv
              have HNV := Lib.hid hnv
              have HJ := Lib.hid hj
              clear hj hnv hck
              go_wp2_with fail
              refine cO.mono ?_
              rintro e wt ⟨rfl, rfl⟩
              clear cO
              go_wp2_with fail
              refine cC.mono ?_
              rintro e wu ⟨rfl, hbu⟩
              have HBU := Lib.hid hbu
              clear cC hbu b0 b1 b2
              have hju := HJ.out.grow HBU.out
              obtain ⟨hz, hbz⟩ := HZ.out wu hju.grown
              obtain ⟨⟨z0, z1, z2⟩, z3, z4, z5⟩ := HNO.out wu hz
              have hzf : ∀ W : World, W = ((wu.setCell ⟨w.heap.size, 0, none⟩ (.bool false)).setCell ⟨w.heap.size, 1, none⟩ (.slice none 0 0)).setCell ⟨w.heap.size, 2, none⟩ (.slice none 0 0) → (W.cell? ⟨w.heap.size, 0, none⟩ = some (.bool false) ∧ W.cell? ⟨w.heap.size, 1, none⟩ = some (.slice none 0 0) ∧ W.cell? ⟨w.heap.size, 2, none⟩ = some (.slice none 0 0)) ∧ Below w.heap.size w W := fun W hW => by
                have e1 : W.heap[w.heap.size]? = some (.cells #[.bool false, .slice none 0 0, .slice none 0 0] 25 (0, 0)) := by rw [hW]; exact set3_at hz
                exact ⟨⟨(row_cells e1).1 0, (row_cells e1).1 1, (row_cells e1).1 2⟩, by rw [hW]; exact ((hbz.setCell (Nat.le_refl _) _).setCell (Nat.le_refl _) _).setCell (Nat.le_refl _) _⟩
              have hmf : ∀ W : World, W = ((wu.setCell ⟨w.heap.size, 0, none⟩ (.bool m.leaf)).setCell ⟨w.heap.size, 1, none⟩ (.slice A m.cells.length c)).setCell ⟨w.heap.size, 2, none⟩ (.slice A' m.kids.length c') → (W.cell? ⟨w.heap.size, 0, none⟩ = some (.bool m.leaf) ∧ W.cell? ⟨w.heap.size, 1, none⟩ = some (.slice A m.cells.length c) ∧ W.cell? ⟨w.heap.size, 2, none⟩ = some (.slice A' m.kids.length c')) ∧ NodeN W Any (.agg #[.bool m.leaf, .slice A m.cells.length c, .slice A' m.kids.length c']) m ∧ Below w.heap.size w W := fun W hW => by
                have e1 : W.heap[w.heap.size]? = some (.cells #[.bool m.leaf, .slice A m.cells.length c, .slice A' m.kids.length c'] 25 (0, 0)) := by rw [hW]; exact set3_at hz
                refine ⟨⟨(row_cells e1).1 0, (row_cells e1).1 1, (row_cells e1).1 2⟩, ⟨_, _, rfl, RowN.of_own (row_same hju.cs fun p hp => ?_) (fun _ _ => trivial), RowN.of_own (row_same hju.ks fun p hp => ?_) (fun _ _ => trivial)⟩, by rw [hW]; exact ((hbz.setCell (Nat.le_refl _) _).setCell (Nat.le_refl _) _).setCell (Nat.le_refl _) _⟩
                · rw [hW]
                  exact set3_far (by have := (hju.cs.lt p hp).1; omega)
                · rw [hW]
                  exact set3_far (by have := (hju.ks.lt p hp).1; omega)
              have HZF := Lib.hid hzf
              have HMF := Lib.hid hmf
              have cL := xleft_any R (some t4) wu hju.rdr
              rw [show ((some t4 : Option (List UInt8)).getD []).length = t4.length from rfl] at cL
              have b0 : wu.cell? ⟨B, 0, none⟩ = some (.bool m.leaf) := (row_cells hju.blk).1 0
              have b1 : wu.cell? ⟨B, 1, none⟩ = some (.slice A m.cells.length c) := (row_cells hju.blk).1 1
              have b2 : wu.cell? ⟨B, 2, none⟩ = some (.slice A' m.kids.length c') := (row_cells hju.blk).1 2
              have hbu : BN wu Any (.slice Ab l.length cb) l := RowN.grow HH.out hbz
              have HBNU := Lib.hid hbu
              clear hju hz hbz hzf hmf hbu
              cases ck with
              | false =>
                have hokf : ok = false := by rw [hokv]; rfl
                subst hokf
                obtain ⟨wf, hwf⟩ : ∃ wf, wf = ((wu.setCell ⟨w.heap.size, 0, none⟩ (.bool false)).setCell ⟨w.heap.size, 1, none⟩ (.slice none 0 0)).setCell ⟨w.heap.size, 2, none⟩ (.slice none 0 0) := ⟨_, rfl⟩
                obtain ⟨⟨r0, r1, r2⟩, hbf⟩ := HZF.out wf hwf
                have HBF := Lib.hid hbf
                have HWF := Lib.hid hwf
                clear hwf hbf hokv cL
                go_wp2_with fail
                rw [← HWF.out]
                refine bodyPost_ret (v := .tuple #[.agg #[.bool false, .slice none 0 0, .slice none 0 0], .int .i64 4]) (by rw [results_cell_tmp rfl]; go_simp; try rfl) rfl ?_
                rw [HERR.out, HNOD.out]
                exact ⟨_, rfl, NodeN.zeroV _, HBF.out⟩
              | true =>
                obtain ⟨k, hk⟩ : ∃ k, k = l.length - t4.length := ⟨_, rfl⟩
                rw [← hk] at hokv
                have hkl : k ≤ l.length := by omega
                have hsub : wrap64 ((l.length : Int) - (t4.length : Int)) = (k : Int) := by unfold wrap64; omega
                have hsub2 : (l.length : Int) - (t4.length : Int) = (k : Int) := by omega
                have hsub3 : IntKind.i64.wrap ((l.length : Int) - (t4.length : Int)) = (k : Int) := by rw [IntKind.wrap_i64]; omega
                have HOKV := Lib.hid hokv
                clear hk hokv
                go_wp2_with fail
                refine cL.mono ?_
                rintro e wt ⟨rfl, rfl⟩
                clear cL
                go_wp2_with fail
                go_loopw [10] (fun s10 wr => ∃ i : Nat, s10 = .int .i64 (i : Int) ∧ k ≤ i ∧ i ≤ l.length ∧ Hid (∀ j x, k ≤ j → j < i → l[j]? = some x → x = 0) ∧ wr = wu) (fun s10 _ => l.length - (intOf s10).toNat)
                case atStart => exact ⟨k, by first | rfl | go_num, Nat.le_refl _, hkl, Lib.hid (fun j x h1 h2 => absurd h1 (by omega)), rfl⟩
                case round =>
                  obtain ⟨i, rfl, hki, hi, hzs, rfl⟩ := hrel
                  by_cases hil : i < l.length
                  · have a1 : (i : Int) < (l.length : Int) := by omega
                    have a0 : (0 : Int) ≤ (i : Int) := by omega
                    obtain ⟨x, hx⟩ : ∃ x, l[i]? = some x := ⟨_, List.getElem?_eq_getElem hil⟩
                    obtain ⟨A0, c0, hv0, -, -, -, -, h5⟩ := HBNU.out
                    injection hv0 with e1 e2 e3
                    subst e1 e3
                    obtain ⟨bb, oo, hA, -, -, hcell⟩ := h5 (by omega)
                    subst hA
                    have q0 : wr.cell? ⟨bb, oo + i, none⟩ = some (.int .u8 (x.toNat : Int)) := hcell i _ (by unfold BS; rw [List.getElem?_map, hx]; rfl)
                    clear hcell h5
                    by_cases hx0 : x = 0
                    · have HZS : Hid (∀ j y, k ≤ j → j < i + 1 → l[j]? = some y → y = 0) := Lib.hid fun j y h1 h2 h3 => by
                        by_cases hj : j < i
                        · exact hzs.out j y h1 hj h3
                        · rw [show j = i by omega, hx] at h3
                          injection h3 with h3
                          rw [← h3]; exact hx0
                      subst hx0
                      clear hzs hx
                      go_wp2_with fail
                      exact ⟨⟨i + 1, by go_num, by omega, hil, HZS, trivial⟩, by simp [intOf]; omega⟩
                    · have hxn : ¬ (x.toNat : Int) = 0 := fun h => hx0 (UInt8.toNat_inj.1 (by show x.toNat = 0; omega))
                      have hokf : ok = false := by
                        rw [HOKV.out]
                        apply Classical.byContradiction
                        intro hno
                        have hall : allNought (l.drop k) = true := by simpa using hno
                        have hg : (l.drop k)[i - k]? = some x := by rw [List.getElem?_drop, show k + (i - k) = i by omega]; exact hx
                        exact hx0 (nought_get hall hg)
                      subst hokf
                      obtain ⟨wf, hwf⟩ : ∃ wf, wf = ((wr.setCell ⟨w.heap.size, 0, none⟩ (.bool false)).setCell ⟨w.heap.size, 1, none⟩ (.slice none 0 0)).setCell ⟨w.heap.size, 2, none⟩ (.slice none 0 0) := ⟨_, rfl⟩
                      obtain ⟨⟨r0, r1, r2⟩, hbf⟩ := HZF.out wf hwf
                      have HBF := Lib.hid hbf
                      have HWF := Lib.hid hwf
                      clear hwf hbf hzs hx hx0
                      go_wp2_with fail
                      rw [← HWF.out]
                      refine bodyPost_ret (v := .tuple #[.agg #[.bool false, .slice none 0 0, .slice none 0 0], .int .i64 4]) (by rw [results_cell_tmp rfl]; go_simp; try rfl) rfl ?_
                      rw [HERR.out, HNOD.out]
                      exact ⟨_, rfl, NodeN.zeroV _, HBF.out⟩
                  · have a1 : ¬ (i : Int) < (l.length : Int) := by omega
                    have hall : allNought (l.drop k) = true := by
                      unfold allNought
                      rw [List.all_eq_true]
                      intro x hx
                      obtain ⟨j, hj, rfl⟩ := List.getElem_of_mem hx
                      rw [List.length_drop] at hj
                      have h1 : l[k + j]? = some ((l.drop k)[j]) := by
                        rw [← List.getElem?_drop]
                        exact List.getElem?_eq_getElem _
                      simpa using hzs.out (k + j) _ (by omega) (by omega) h1
                    have hokt : ok = true := by rw [HOKV.out, hall]; rfl
                    subst hokt
                    obtain ⟨wf, hwf⟩ : ∃ wf, wf = ((wr.setCell ⟨w.heap.size, 0, none⟩ (.bool m.leaf)).setCell ⟨w.heap.size, 1, none⟩ (.slice A m.cells.length c)).setCell ⟨w.heap.size, 2, none⟩ (.slice A' m.kids.length c') := ⟨_, rfl⟩
                    obtain ⟨⟨r0, r1, r2⟩, hnf, hbf⟩ := HMF.out wf hwf
                    have HBF := Lib.hid hbf
                    have HNF := Lib.hid hnf
                    have HWF := Lib.hid hwf
                    clear hwf hbf hnf hzs hall
                    go_wp2_with fail
                    rw [← HWF.out]
                    refine bodyPost_ret (v := .tuple #[.agg #[.bool m.leaf, .slice A m.cells.length c, .slice A' m.kids.length c'], .int .i64 0]) (by rw [results_cell_tmp rfl]; go_simp; try rfl) rfl ?_
                    rw [HERR.out, HNOD.out, HRN.out]
                    exact ⟨_, rfl, HNF.out, HBF.out⟩
          | false =>
            have HRN0 : Hid (rdNode (some l) = (⟨false, xs, (rdKids (q + 1) (some t)).1⟩, (rdKids (q + 1) (some t)).2)) := Lib.hid (by rw [hrn]; rfl)
            have HI0 : Hid (DxI w2 wz R B ⟨false, xs, []⟩ (some t)) := Lib.hid ⟨_, _, _, _, hj⟩
            clear hj hrn
            go_wp2_with fail
            go_loopw [9] (fun s9 wr => ∃ (j : Nat) (ys : List Int) (s' : Option (List UInt8)), s9 = .int .i64 (j : Int) ∧ j ≤ q + 1 ∧ ys.length = j ∧ Hid (rdKids j (some t) = (ys, s')) ∧ Hid (DxI w2 wr R B ⟨false, xs, ys⟩ s')) (fun s9 _ => q + 1 - (intOf s9).toNat)
            case atStart => exact ⟨0, [], some t, rfl, Nat.zero_le _, rfl, Lib.hid rfl, HI0⟩
            case round =>
              clear HI0
              obtain ⟨j, ys, s', rfl, hj', hyl, HKS, hri⟩ := hrel
              subst hyl
              obtain ⟨wv, hwv⟩ : ∃ wv : World, wv = wr := ⟨_, rfl⟩
              subst hwv
              obtain ⟨A, c, A', c', hj⟩ := hri.out
              clear hri
              have b0 : wv.cell? ⟨B, 0, none⟩ = some (.bool false) := (row_cells hj.blk).1 0
              cases s' with
              | none =>
                have hokf : ok = false := by
                  rw [HOK.out]
                  unfold decOk
                  rw [HRN0.out, rdKids_stop (by rw [HKS.out]) (q + 1) hj']
                  simp
                by_cases hjq : ys.length ≤ q
                · have a3 : (ys.length : Int) ≤ (q : Int) := by omega
                  have cO := xok_any R none wv hj.rdr
                  rw [show (none : Option (List UInt8)).isSome = false from rfl] at cO
                  go_wp2_with fail
                  refine cO.mono ?_
                  rintro e wt ⟨rfl, rfl⟩
                  clear cO b0
                  have cO := xok_any R none wv hj.rdr
                  rw [show (none : Option (List UInt8)).isSome = false from rfl] at cO
                  obtain ⟨hz, hbz⟩ := HZ.out wv hj.grown
                  obtain ⟨⟨z0, z1, z2⟩, z3, z4, z5⟩ := HNO.out wv hz
                  obtain ⟨wf, hwf⟩ : ∃ wf, wf = ((wv.setCell ⟨w.heap.size, 0, none⟩ (.bool false)).setCell ⟨w.heap.size, 1, none⟩ (.slice none 0 0)).setCell ⟨w.heap.size, 2, none⟩ (.slice none 0 0) := ⟨_, rfl⟩
                  have e1 : wf.heap[w.heap.size]? = some (.cells #[.bool false, .slice none 0 0, .slice none 0 0] 25 (0, 0)) := by rw [hwf]; exact set3_at hz
                  have hbf : Below w.heap.size w wf := by rw [hwf]; exact ((hbz.setCell (Nat.le_refl _) _).setCell (Nat.le_refl _) _).setCell (Nat.le_refl _) _
                  have r0 : wf.cell? ⟨w.heap.size, 0, none⟩ = some (.bool false) := (row_cells e1).1 0
                  have r1 : wf.cell? ⟨w.heap.size, 1, none⟩ = some (.slice none 0 0) := (row_cells e1).1 1
                  have r2 : wf.cell? ⟨w.heap.size, 2, none⟩ = some (.slice none 0 0) := (row_cells e1).1 2
                  have HBF := Lib.hid hbf
                  have HWF := Lib.hid hwf
                  subst hokf
                  clear hwf e1 hbf hz hbz hj
                  go_wp2_with fail
                  refine cO.mono ?_
                  rintro e wt ⟨rfl, rfl⟩
                  clear cO
                  go_wp2_with fail
                  rw [← HWF.out]
                  refine bodyPost_ret (v := .tuple #[.agg #[.bool false, .slice none 0 0, .slice none 0 0], .int .i64 4]) (by rw [results_cell_tmp rfl]; go_simp; try rfl) rfl ?_
                  rw [HERR.out, HNOD.out]
                  exact ⟨_, rfl, NodeN.zeroV _, HBF.out⟩
                · have a3 : ¬ (ys.length : Int) ≤ (q : Int) := by omega
                  clear b0
                  have cO := xok_any R none wv hj.rdr
                  rw [show (none : Option (List UInt8)).isSome = false from rfl] at cO
                  obtain ⟨hz, hbz⟩ := HZ.out wv hj.grown
                  obtain ⟨⟨z0, z1, z2⟩, z3, z4, z5⟩ := HNO.out wv hz
                  obtain ⟨wf, hwf⟩ : ∃ wf, wf = ((wv.setCell ⟨w.heap.size, 0, none⟩ (.bool false)).setCell ⟨w.heap.size, 1, none⟩ (.slice none 0 0)).setCell ⟨w.heap.size, 2, none⟩ (.slice none 0 0) := ⟨_, rfl⟩
                  have e1 : wf.heap[w.heap.size]? = some (.cells #[.bool false, .slice none 0 0, .slice none 0 0] 25 (0, 0)) := by rw [hwf]; exact set3_at hz
                  have hbf : Below w.heap.size w wf := by rw [hwf]; exact ((hbz.setCell (Nat.le_refl _) _).setCell (Nat.le_refl _) _).setCell (Nat.le_refl _) _
                  have r0 : wf.cell? ⟨w.heap.size, 0, none⟩ = some (.bool false) := (row_cells e1).1 0
                  have r1 : wf.cell? ⟨w.heap.size, 1, none⟩ = some (.slice none 0 0) := (row_cells e1).1 1
                  have r2 : wf.cell? ⟨w.heap.size, 2, none⟩ = some (.slice none 0 0) := (row_cells e1).1 2
                  have HBF := Lib.hid hbf
                  have HWF := Lib.hid hwf
                  subst hokf
                  clear hwf e1 hbf hz hbz hj
                  go_wp2_with fail
                  refine cO.mono ?_
                  rintro e wt ⟨rfl, rfl⟩
                  clear cO
                  go_wp2_with fail
                  rw [← HWF.out]
                  refine bodyPost_ret (v := .tuple #[.agg #[.bool false, .slice none 0 0, .slice none 0 0], .int .i64 4]) (by rw [results_cell_tmp rfl]; go_simp; try rfl) rfl ?_
                  rw [HERR.out, HNOD.out]
                  exact ⟨_, rfl, NodeN.zeroV _, HBF.out⟩
              | some t' =>
                by_cases hjq : ys.length ≤ q
                · have a3 : (ys.length : Int) ≤ (q : Int) := by omega
                  have cO := xok_any R (some t') wv hj.rdr
                  rw [show (some t' : Option (List UInt8)).isSome = true from rfl] at cO
                  go_wp2_with fail
                  refine cO.mono ?_
                  rintro e wt ⟨rfl, rfl⟩
                  clear cO
                  have b2 : wv.cell? ⟨B, 2, none⟩ = some (.slice A' ys.length c') := (row_cells hj.blk).1 2
                  have cR := xCount_any R 2147483647 (some t') wv.drew (by obtain ⟨x, h1, h2⟩ := hj.rdr; exact ⟨x, h1, h2⟩)
                  unfold XTells at cR
                  obtain ⟨x, q', hx⟩ : ∃ x q', told 0 (gCount 2147483647) (some t') = (x, q') := ⟨_, _, rfl⟩
                  rw [hx] at cR
                  have hnext : rdKids (ys.length + 1) (some t) = (ys ++ [x], q') := by rw [rdKids_snoc, HKS.out, hx]
                  have HNEXT := Lib.hid hnext
                  have hpush : ∀ wy, wv.drew.grownBy wy (some R) → Rdr 95 wy R q' → _ := fun wy hg hr => (hj.step hR (grown_undrew hg) hr).pushK hR x (by show ys.length ≤ 1001; omega)
                  have hcells : ∀ wy, wv.drew.grownBy wy (some R) → wy.cell? ⟨B, 2, none⟩ = some (.slice A' ys.length c') ∧ B < wy.heap.size := fun wy hg => by
                    have hBl : B < wv.heap.size := (Array.getElem?_eq_some_iff.1 hj.blk).1
                    have hb := ((grown_undrew hg).block B hBl (fun e => by injection e with e; have := hj.far; omega)).trans hj.blk
                    exact ⟨(row_cells hb).1 2, (Array.getElem?_eq_some_iff.1 hb).1⟩
                  have HPUSH := Lib.hid hpush
                  have HCELLS := Lib.hid hcells
                  have CR := Lib.hid cR
                  clear hnext hpush hcells cR hj
                  go_upto_region 19 with fail
                  clear b0
                  go_region_law (first | (refine stepApp rfl (.tmp 69) (.tmp 72) 23 rfl _ _ rfl rfl HAP.out ?_) | (go_simp; go_at_call 41; refine CR.out.mono ?_; rintro e wy ⟨rfl, hgy, hry⟩; obtain ⟨A7, c7, w7, hr7, f1, f2, hj7⟩ := HPUSH.out wy hgy hry; obtain ⟨d1, d2⟩ := HCELLS.out wy hgy; have HAP := Lib.hid hr7; have HJ7 := Lib.hid hj7; clear hr7 hj7 hgy hry))
                  all_goals
                    clear HAP
                    go_wp2_with fail
                    exact ⟨⟨ys.length + 1, ys ++ [x], q', by go_num, by omega, by rw [List.length_append]; rfl, HNEXT, Lib.hid ⟨_, _, _, _, HJ7.out⟩⟩, by simp [intOf]; omega⟩
                · have a3 : ¬ (ys.length : Int) ≤ (q : Int) := by omega
                  have hyq : ys.length = q + 1 := by omega
                  have HRN : Hid (rdNode (some l) = (⟨false, xs, ys⟩, some t')) := Lib.hid (by rw [HRN0.out, ← hyq, HKS.out])
                  obtain ⟨m, hm⟩ : ∃ m : PN, m = ⟨false, xs, ys⟩ := ⟨_, rfl⟩
                  obtain ⟨t4, ht4⟩ : ∃ t4, t4 = t' := ⟨_, rfl⟩
                  rw [← hm, ← ht4] at HRN
                  replace hj : DxJ w2 wv R B m (some t4) A c A' c' := by rw [hm, ht4]; exact hj
                  have hmc : m.cells.length ≤ 1000 := by rw [hm]; show xs.length ≤ _; omega
                  clear hm ht4 b0
                  have cO := xok_any R (some t4) wv hj.rdr
                  rw [show (some t4 : Option (List UInt8)).isSome = true from rfl] at cO
                  have hnv : NodeN wv Any (.agg #[.bool m.leaf, .slice A m.cells.length c, .slice A' m.kids.length c']) m := ⟨_, _, rfl, RowN.of_own hj.cs (fun _ _ => trivial), RowN.of_own hj.ks (fun _ _ => trivial)⟩
                  have cC := refcheck_any m _ wv hnv (by omega)
                  have ht4l : t4.length ≤ l.length := by have := less_node (some l); rw [HRN.out] at this; exact this
                  have b0 : wv.cell? ⟨B, 0, none⟩ = some (.bool m.leaf) := (row_cells hj.blk).1 0
                  have b1 : wv.cell? ⟨B, 1, none⟩ = some (.slice A m.cells.length c) := (row_cells hj.blk).1 1
                  have b2 : wv.cell? ⟨B, 2, none⟩ = some (.slice A' m.kids.length c') := (row_cells hj.blk).1 2
                  have hokv : ok = (m.chk && allNought (l.drop (l.length - t4.length))) := by
                    rw [HOK.out]
                    unfold decOk leftOf
                    rw [HRN.out, decide_eq_true h512]
                    rfl
                  obtain ⟨ck, hck⟩ : ∃ ck, ck = m.chk := ⟨_, rfl⟩
                  rw [← hck] at cC hokv
                  have HNV := Lib.hid hnv
                  have HJ := Lib.hid hj
                  clear hj hnv hck
                  go_wp2_with fail
                  refine cO.mono ?_
                  rintro e wt ⟨rfl, rfl⟩
                  clear cO
                  go_wp2_with fail
                  refine cC.mono ?_
                  rintro e wu ⟨rfl, hbu⟩
                  have HBU := Lib.hid hbu
                  clear cC hbu b0 b1 b2
                  have hju := HJ.out.grow HBU.out
                  obtain ⟨hz, hbz⟩ := HZ.out wu hju.grown
                  obtain ⟨⟨z0, z1, z2⟩, z3, z4, z5⟩ := HNO.out wu hz
                  have hzf : ∀ W : World, W = ((wu.setCell ⟨w.heap.size, 0, none⟩ (.bool false)).setCell ⟨w.heap.size, 1, none⟩ (.slice none 0 0)).setCell ⟨w.heap.size, 2, none⟩ (.slice none 0 0) → (W.cell? ⟨w.heap.size, 0, none⟩ = some (.bool false) ∧ W.cell? ⟨w.heap.size, 1, none⟩ = some (.slice none 0 0) ∧ W.cell? ⟨w.heap.size, 2, none⟩ = some (.slice none 0 0)) ∧ Below w.heap.size w W := fun W hW => by
                    have e1 : W.heap[w.heap.size]? = some (.cells #[.bool false, .slice none 0 0, .slice none 0 0] 25 (0, 0)) := by rw [hW]; exact set3_at hz
                    exact ⟨⟨(row_cells e1).1 0, (row_cells e1).1 1, (row_cells e1).1 2⟩, by rw [hW]; exact ((hbz.setCell (Nat.le_refl _) _).setCell (Nat.le_refl _) _).setCell (Nat.le_refl _) _⟩
                  have hmf : ∀ W : World, W = ((wu.setCell ⟨w.heap.size, 0, none⟩ (.bool m.leaf)).setCell ⟨w.heap.size, 1, none⟩ (.slice A m.cells.length c)).setCell ⟨w.heap.size, 2, none⟩ (.slice A' m.kids.length c') → (W.cell? ⟨w.heap.size, 0, none⟩ = some (.bool m.leaf) ∧ W.cell? ⟨w.heap.size, 1, none⟩ = some (.slice A m.cells.length c) ∧ W.cell? ⟨w.heap.size, 2, none⟩ = some (.slice A' m.kids.length c')) ∧ NodeN W Any (.agg #[.bool m.leaf, .slice A m.cells.length c, .slice A' m.kids.length c']) m ∧ Below w.heap.size w W := fun W hW => by
                    have e1 : W.heap[w.heap.size]? = some (.cells #[.bool m.leaf, .slice A m.cells.length c, .slice A' m.kids.length c'] 25 (0, 0)) := by rw [hW]; exact set3_at hz
                    refine ⟨⟨(row_cells e1).1 0, (row_cells e1).1 1, (row_cells e1).1 2⟩, ⟨_, _, rfl, RowN.of_own (row_same hju.cs fun p hp => ?_) (fun _ _ => trivial), RowN.of_own (row_same hju.ks fun p hp => ?_) (fun _ _ => trivial)⟩, by rw [hW]; exact ((hbz.setCell (Nat.le_refl _) _).setCell (Nat.le_refl _) _).setCell (Nat.le_refl _) _⟩
                    · rw [hW]
                      exact set3_far (by have := (hju.cs.lt p hp).1; omega)
                    · rw [hW]
                      exact set3_far (by have := (hju.ks.lt p hp).1; omega)
                  have HZF := Lib.hid hzf
                  have HMF := Lib.hid hmf
                  have cL := xleft_any R (some t4) wu hju.rdr
                  rw [show ((some t4 : Option (List UInt8)).getD []).length = t4.length from rfl] at cL
                  have b0 : wu.cell? ⟨B, 0, none⟩ = some (.bool m.leaf) := (row_cells hju.blk).1 0
                  have b1 : wu.cell? ⟨B, 1, none⟩ = some (.slice A m.cells.length c) := (row_cells hju.blk).1 1
                  have b2 : wu.cell? ⟨B, 2, none⟩ = some (.slice A' m.kids.length c') := (row_cells hju.blk).1 2
                  have hbu : BN wu Any (.slice Ab l.length cb) l := RowN.grow HH.out hbz
                  have HBNU := Lib.hid hbu
                  clear hju hz hbz hzf hmf hbu
                  cases ck with
                  | false =>
                    have hokf : ok = false := by rw [hokv]; rfl
                    subst hokf
                    obtain ⟨wf, hwf⟩ : ∃ wf, wf = ((wu.setCell ⟨w.heap.size, 0, none⟩ (.bool false)).setCell ⟨w.heap.size, 1, none⟩ (.slice none 0 0)).setCell ⟨w.heap.size, 2, none⟩ (.slice none 0 0) := ⟨_, rfl⟩
                    obtain ⟨⟨r0, r1, r2⟩, hbf⟩ := HZF.out wf hwf
                    have HBF := Lib.hid hbf
                    have HWF := Lib.hid hwf
                    clear hwf hbf hokv cL
                    go_wp2_with fail
                    rw [← HWF.out]
                    refine bodyPost_ret (v := .tuple #[.agg #[.bool false, .slice none 0 0, .slice none 0 0], .int .i64 4]) (by rw [results_cell_tmp rfl]; go_simp; try rfl) rfl ?_
                    rw [HERR.out, HNOD.out]
                    exact ⟨_, rfl, NodeN.zeroV _, HBF.out⟩
                  | true =>
                    obtain ⟨k, hk⟩ : ∃ k, k = l.length - t4.length := ⟨_, rfl⟩
                    rw [← hk] at hokv
                    have hkl : k ≤ l.length := by omega
                    have hsub : wrap64 ((l.length : Int) - (t4.length : Int)) = (k : Int) := by unfold wrap64; omega
                    have hsub2 : (l.length : Int) - (t4.length : Int) = (k : Int) := by omega
                    have hsub3 : IntKind.i64.wrap ((l.length : Int) - (t4.length : Int)) = (k : Int) := by rw [IntKind.wrap_i64]; omega
                    have HOKV := Lib.hid hokv
                    clear hk hokv
                    go_wp2_with fail
                    refine cL.mono ?_
                    rintro e wt ⟨rfl, rfl⟩
                    clear cL
                    go_wp2_with fail
                    go_loopw [10] (fun s10 wr => ∃ i : Nat, s10 = .int .i64 (i : Int) ∧ k ≤ i ∧ i ≤ l.length ∧ Hid (∀ j x, k ≤ j → j < i → l[j]? = some x → x = 0) ∧ wr = wu) (fun s10 _ => l.length - (intOf s10).toNat)
                    case atStart => exact ⟨k, by first | rfl | go_num, Nat.le_refl _, hkl, Lib.hid (fun j x h1 h2 => absurd h1 (by omega)), rfl⟩
                    case round =>
                      obtain ⟨i, rfl, hki, hi, hzs, rfl⟩ := hrel
                      by_cases hil : i < l.length
                      · have a1 : (i : Int) < (l.length : Int) := by omega
                        have a0 : (0 : Int) ≤ (i : Int) := by omega
                        obtain ⟨x, hx⟩ : ∃ x, l[i]? = some x := ⟨_, List.getElem?_eq_getElem hil⟩
                        obtain ⟨A0, c0, hv0, -, -, -, -, h5⟩ := HBNU.out
                        injection hv0 with e1 e2 e3
                        subst e1 e3
                        obtain ⟨bb, oo, hA, -, -, hcell⟩ := h5 (by omega)
                        subst hA
                        have q0 : wr.cell? ⟨bb, oo + i, none⟩ = some (.int .u8 (x.toNat : Int)) := hcell i _ (by unfold BS; rw [List.getElem?_map, hx]; rfl)
                        clear hcell h5
                        by_cases hx0 : x = 0
                        · have HZS : Hid (∀ j y, k ≤ j → j < i + 1 → l[j]? = some y → y = 0) := Lib.hid fun j y h1 h2 h3 => by
                            by_cases hj : j < i
                            · exact hzs.out j y h1 hj h3
                            · rw [show j = i by omega, hx] at h3
                              injection h3 with h3
                              rw [← h3]; exact hx0
                          subst hx0
                          clear hzs hx
                          go_wp2_with fail
                          exact ⟨⟨i + 1, by go_num, by omega, hil, HZS, trivial⟩, by simp [intOf]; omega⟩
                        · have hxn : ¬ (x.toNat : Int) = 0 := fun h => hx0 (UInt8.toNat_inj.1 (by show x.toNat = 0; omega))
                          have hokf : ok = false := by
                            rw [HOKV.out]
                            apply Classical.byContradiction
                            intro hno
                            have hall : allNought (l.drop k) = true := by simpa using hno
                            have hg : (l.drop k)[i - k]? = some x := by rw [List.getElem?_drop, show k + (i - k) = i by omega]; exact hx
                            exact hx0 (nought_get hall hg)
                          subst hokf
                          obtain ⟨wf, hwf⟩ : ∃ wf, wf = ((wr.setCell ⟨w.heap.size, 0, none⟩ (.bool false)).setCell ⟨w.heap.size, 1, none⟩ (.slice none 0 0)).setCell ⟨w.heap.size, 2, none⟩ (.slice none 0 0) := ⟨_, rfl⟩
                          obtain ⟨⟨r0, r1, r2⟩, hbf⟩ := HZF.out wf hwf
                          have HBF := Lib.hid hbf
                          have HWF := Lib.hid hwf
                          clear hwf hbf hzs hx hx0
                          go_wp2_with fail
                          rw [← HWF.out]
                          refine bodyPost_ret (v := .tuple #[.agg #[.bool false, .slice none 0 0, .slice none 0 0], .int .i64 4]) (by rw [results_cell_tmp rfl]; go_simp; try rfl) rfl ?_
                          rw [HERR.out, HNOD.out]
                          exact ⟨_, rfl, NodeN.zeroV _, HBF.out⟩
                      · have a1 : ¬ (i : Int) < (l.length : Int) := by omega
                        have hall : allNought (l.drop k) = true := by
                          unfold allNought
                          rw [List.all_eq_true]
                          intro x hx
                          obtain ⟨j, hj, rfl⟩ := List.getElem_of_mem hx
                          rw [List.length_drop] at hj
                          have h1 : l[k + j]? = some ((l.drop k)[j]) := by
                            rw [← List.getElem?_drop]
                            exact List.getElem?_eq_getElem _
                          simpa using hzs.out (k + j) _ (by omega) (by omega) h1
                        have hokt : ok = true := by rw [HOKV.out, hall]; rfl
                        subst hokt
                        obtain ⟨wf, hwf⟩ : ∃ wf, wf = ((wr.setCell ⟨w.heap.size, 0, none⟩ (.bool m.leaf)).setCell ⟨w.heap.size, 1, none⟩ (.slice A m.cells.length c)).setCell ⟨w.heap.size, 2, none⟩ (.slice A' m.kids.length c') := ⟨_, rfl⟩
                        obtain ⟨⟨r0, r1, r2⟩, hnf, hbf⟩ := HMF.out wf hwf
                        have HBF := Lib.hid hbf
                        have HNF := Lib.hid hnf
                        have HWF := Lib.hid hwf
                        clear hwf hbf hnf hzs hall
                        go_wp2_with fail
                        rw [← HWF.out]
                        refine bodyPost_ret (v := .tuple #[.agg #[.bool m.leaf, .slice A m.cells.length c, .slice A' m.kids.length c'], .int .i64 0]) (by rw [results_cell_tmp rfl]; go_simp; try rfl) rfl ?_
                        rw [HERR.out, HNOD.out, HRN.out]
                        exact ⟨_, rfl, HNF.out, HBF.out⟩
  · have a1 : (512 : Int) < (l.length : Int) := by omega
    have hokf : ok = false := by rw [HOK.out]; unfold decOk; rw [decide_eq_false h512]; rfl
    subst hokf
    obtain ⟨⟨z0, z1, z2⟩, z3, z4, z5⟩ := HNO.out w1 HZ1.out
    obtain ⟨w4, hw4⟩ : ∃ w4, w4 = ((w1.setCell ⟨w.heap.size, 0, none⟩ (.bool false)).setCell ⟨w.heap.size, 1, none⟩ (.slice none 0 0)).setCell ⟨w.heap.size, 2, none⟩ (.slice none 0 0) := ⟨_, rfl⟩
    have e1 : w4.heap[w.heap.size]? = some (.cells #[.bool false, .slice none 0 0, .slice none 0 0] 25 (0, 0)) := by rw [hw4]; exact set3_at HZ1.out
    have hb4 : Below w.heap.size w w4 := by rw [hw4]; exact ((HB1.out.setCell (Nat.le_refl _) _).setCell (Nat.le_refl _) _).setCell (Nat.le_refl _) _
    have r0 : w4.cell? ⟨w.heap.size, 0, none⟩ = some (.bool false) := (row_cells e1).1 0
    have r1 : w4.cell? ⟨w.heap.size, 1, none⟩ = some (.slice none 0 0) := (row_cells e1).1 1
    have r2 : w4.cell? ⟨w.heap.size, 2, none⟩ = some (.slice none 0 0) := (row_cells e1).1 2
    have HB4 := Lib.hid hb4
    have HW4 := Lib.hid hw4
    clear hw4 e1 hb4
    go_upto_region 2 with fail
    rw [← HW1.out]
    go_wp2_with fail
    rw [← HW4.out]
    refine bodyPost_ret (v := .tuple #[.agg #[.bool false, .slice none 0 0, .slice none 0 0], .int .i64 4]) (by rw [results_cell_tmp rfl]; go_simp; try rfl) rfl ?_
    rw [HERR.out, HNOD.out]
    exact ⟨_, rfl, NodeN.zeroV _, HB4.out⟩
end Go.Proofs.Ytikkeenjalghmaa
