/-
  The program's ring: a piece's sector. No statement is proved here. No condition.
-/
import Derived.Test.YtplpfhgdanclhaaRLeaf
namespace Go.Proofs.Ytplpfhgdanclhaa
open Go.RowKit

theorem info_RSec : (Try.prog.info? 102).map (fun i => (i.zero, i.size)) = some (some (.agg (sec (List.replicate 512 0))), 512) := by kernel_rfl
theorem rsec_zero (w : World) : (zeroValue 102).run Try.prog w = .ok (.agg (sec (List.replicate 512 0))) w := (zero_of_info info_RSec).1 w
theorem rsec_info : (Try.prog.info? 102).map (·.size) = some 512 := (zero_of_info info_RSec).2

set_option maxRecDepth 100000 in
/-- bytes copied behind the first eleven, whatever the block's type -/
theorem copy_tailE {w w0 : World} {B g cv : Nat} {A : Option Addr} {E : TypeId} (ty : TypeId) (H data : List UInt8) (hH : H.length = 11) (hl : data.length ≤ 501) (hg : w.heap[g]? = some (.cells (BS (H ++ List.replicate 501 0)).toArray E (0, 0)))
    (hsrc : data ≠ [] → ∃ b o, A = some ⟨b, o, none⟩ ∧ ∀ i x, data[i]? = some x → w.cell? ⟨b, o + i, none⟩ = some (.int .u8 (x.toNat : Int))) (hb : Below B w0 w) (hB : B ≤ g) :
    ∃ w', (Builtin.copy_ #[39, 39] ty #[.slice (some ⟨g, 11, none⟩) 501 501, .slice A data.length cv]).run Try.prog w = .ok (goInt data.length) w' ∧
      w'.heap[g]? = some (.cells (BS (H ++ (data ++ List.replicate (501 - data.length) 0))).toArray E (0, 0)) ∧ Below B w0 w' := by
  by_cases hn : data = []
  · subst hn
    exact ⟨w, run_copy_none (P := Try.prog) w 39 39 ty 5 _ A 501 501 0 cv Try.underlying39 u8_ones (by rfl), hg, hb⟩
  · obtain ⟨b, o, rfl, hc⟩ := hsrc hn
    have h := run_copy_row (P := Try.prog) w 39 39 ty 5 g 11 501 501 ⟨b, o, none⟩ data.length cv _ E (BS data) Try.underlying39 u8_ones hg (by rw [BS_length]; exact (Nat.min_eq_left hl).symm) (fun j u hu => by
      obtain ⟨x, hx, rfl⟩ := BS_get hu
      rw [plus_zero]
      exact hc j x hx) (by simp only [List.size_toArray, BS_length, List.length_append, List.length_replicate]; omega) (BS_one data)
    have e : ((BS (H ++ List.replicate 501 0)).toArray.toList.take 11 ++ BS data ++ (BS (H ++ List.replicate 501 0)).toArray.toList.drop (11 + (BS data).length)) = BS (H ++ (data ++ List.replicate (501 - data.length) 0)) := by
      rw [BS_length, BS_append, BS_append, BS_append]
      show (BS H ++ BS (List.replicate 501 0)).take 11 ++ BS data ++ (BS H ++ BS (List.replicate 501 0)).drop (11 + data.length) = _
      rw [List.take_left' (by rw [BS_length, hH]), ← List.drop_drop, List.drop_left' (by rw [BS_length, hH]), List.append_assoc]
      congr 2
      unfold BS
      rw [List.map_replicate, List.map_replicate, List.drop_replicate]
    rw [e, BS_length] at h
    exact ⟨_, h, setRow_heap w g _ _ _ _ hg, below_setRow hb hB _⟩
theorem own_heapE {w : World} {B g : Nat} {e : TypeId} {l : List UInt8} (h : w.ownsRow B e 1 (.slice (some ⟨g, 0, none⟩) 512 512) 512 (BS l)) : w.heap[g]? = some (.cells (BS l).toArray e (0, 0)) ∧ B ≤ g := own_heap h
/-- a new block of 512 noughts -/
theorem own_noughts (w : World) (B : Nat) (e : TypeId) (Z : Array Value) (hZ : Z = sec (List.replicate 512 0)) (hB : B ≤ w.heap.size) : (w.alloc (.cells Z e)).ownsRow B e 1 (.slice (some ⟨w.heap.size, 0, none⟩) 512 512) 512 (BS (List.replicate 512 0)) := by
  have hz : Z.size = 512 := by rw [hZ, sec_size, List.length_replicate]
  refine ⟨by rw [BS_length, List.length_replicate], .inr ⟨w.heap.size, 512, Z, rfl, hB, heap_alloc_new w _, Nat.le_refl _, by unfold maxLen; omega, hz, ?_⟩⟩
  rw [hZ]
  unfold sec
  rw [List.toList_toArray]
  exact List.take_of_length_le (by rw [BS_length, List.length_replicate]; exact Nat.le_refl _)

set_option maxHeartbeats 2000000 in
theorem psector_any (p : Pc) (v : Value) (w : World) (hp : p.fine) (hv : Rd w w.heap.size v p.data) : Calls Try.prog 57 #[pcv p v] w fun e w' => e = .returned (.agg (sec p.sec)) ∧ Below w.heap.size w w' := by
  have hzero := rsec_zero
  obtain ⟨Z, hZ⟩ : ∃ Z, Z = sec (List.replicate 512 0) := ⟨_, rfl⟩
  have hZs : Z.size = 512 := by rw [hZ, sec_size, List.length_replicate]
  simp only [← hZ] at hzero
  obtain ⟨w0, hw0⟩ : ∃ w0, w0 = w.alloc (.cells #[.int .i64 (p.n : Int), .bool p.last, v] 81) := ⟨_, rfl⟩
  have hs0 : w0.heap.size = w.heap.size + 1 := by rw [hw0]; simp
  obtain ⟨w2, hw2⟩ : ∃ w2, w2 = w0.alloc (.cells Z 102) := ⟨_, rfl⟩
  have hs2 : w2.heap.size = w.heap.size + 2 := by rw [hw2]; simp; omega
  have ho1 := own_noughts w2 (w.heap.size + 2) 102 Z hZ (by omega)
  obtain ⟨w1, hw1⟩ : ∃ w1, w1 = w2.alloc (.cells Z 102) := ⟨_, rfl⟩
  rw [← hw1] at ho1
  have hb1 : Below w.heap.size w w1 := by rw [hw1, hw2, hw0]; exact (((Below.refl _ _).alloc (Nat.le_refl _) _).alloc (by simp) _).alloc (by simp; omega) _
  have hnb : w1.heap[w.heap.size + 1]? = some (.cells Z 102 (0, 0)) := by
    rw [hw1, Below.heap_alloc w2 _ _ (by omega), hw2, ← hs0]
    exact heap_alloc_new _ _
  have hbp : Below (w.heap.size + 1) w0 w1 := by rw [hw1, hw2]; exact ((Below.refl _ _).alloc (by omega) _).alloc (by simp; omega) _
  have hcn : w1.cell? ⟨w.heap.size, 0, none⟩ = some (.int .i64 (p.n : Int)) := by
    rw [hbp.cell (p := ⟨w.heap.size, 0, none⟩) (by show w.heap.size < _; omega), hw0]
    exact World.cell?_alloc_new _ _ _ _
  have hcl : w1.cell? ⟨w.heap.size, 1, none⟩ = some (.bool p.last) := by
    rw [hbp.cell (p := ⟨w.heap.size, 1, none⟩) (by show w.heap.size < _; omega), hw0]
    exact World.cell?_alloc_new _ _ _ _
  have hcd : w1.cell? ⟨w.heap.size, 2, none⟩ = some v := by
    rw [hbp.cell (p := ⟨w.heap.size, 2, none⟩) (by show w.heap.size < _; omega), hw0]
    exact World.cell?_alloc_new _ _ _ _
  obtain ⟨g, hg⟩ : ∃ g, g = w2.heap.size := ⟨_, rfl⟩
  have hgw : w.heap.size + 2 = g := by omega
  rw [← hg] at ho1
  have HG := Lib.hid hgw
  have HV := Lib.hid hv
  have HO1 := Lib.hid ho1
  have HB1 := Lib.hid hb1
  have HNB := Lib.hid hnb
  have HCN := Lib.hid hcn
  have HCL := Lib.hid hcl
  have HCD := Lib.hid hcd
  have HW : Hid (w1 = ((w.alloc (.cells #[.int .i64 (p.n : Int), .bool p.last, v] 81)).alloc (.cells Z 102)).alloc (.cells Z 102)) := by rw [hw1, hw2, hw0]; exact Lib.hid rfl
  have HZ := Lib.hid hZ
  clear ho1 hb1 hnb hcn hcl hcd hw1 hw2 hw0 hs0 hs2 hg hgw hv hbp hZ
  obtain ⟨n, last, data⟩ := p
  unfold pcv
  go_enter Try.func57, Try.ntmps57
  go_upto_region 3 with fail
  rw [show w.heap.size + 1 + 1 = g from HG.out, ← HW.out]
  have HLO : Hid (w1.ownsRow (w.heap.size + 2) 102 1 (.slice (some ⟨g, 0, none⟩) 512 512) 512 (BS (lowed n 0))) := HO1
  clear HO1 HW
  go_loopw [5] (fun i wr => ∃ r : Nat, i = .int .i64 r ∧ r ≤ 8 ∧ Hid (wr.ownsRow (w.heap.size + 2) 102 1 (.slice (some ⟨g, 0, none⟩) 512 512) 512 (BS (lowed n r))) ∧ Below g w1 wr) (fun i _ => 8 - (intOf i).toNat)
  case atStart => exact ⟨0, rfl, by omega, HLO, Below.refl _ _⟩
  case round =>
    obtain ⟨r, rfl, hr, hox, hb⟩ := hrel
    by_cases hrl : r < 8
    · have i1 : (r : Int) < 8 := by omega
      have i0 : (0 : Int) ≤ (r : Int) := by omega
      have i5 : (r : Int) < 512 := by omega
      obtain ⟨u, hu⟩ : ∃ u, wr.cell? ⟨g, r, none⟩ = some u := by
        rw [hox.out.cellAt r (by omega)]
        exact ⟨_, List.getElem?_eq_getElem (by rw [BS_length, lowed_length n r (by omega)]; omega)⟩
      have hz : wr.frozen? ⟨g, r, none⟩ = false := hox.out.frozenAt r
      have hcn : wr.cell? ⟨w.heap.size, 0, none⟩ = some (.int .i64 (n : Int)) := (hb.cell (p := ⟨w.heap.size, 0, none⟩) (by show w.heap.size < _; have := HG.out; omega)).trans HCN.out
      have hst := (hox.out.stored r (.int .u8 ((n : Int) / 2 ^ (8 * r) % 256))).1
      rw [low_byte, ← BS_set, lowed_set n r (by omega), ← low_byte] at hst
      have HST := Lib.hid hst
      have hbs := hb.setCell (p := ⟨g, r, none⟩) (Nat.le_refl _) (.int .u8 ((n : Int) / 2 ^ (8 * r) % 256))
      clear hst hox
      go_wp2_with fail
      exact ⟨⟨r + 1, by go_num, hrl, HST, hbs⟩, by simp [intOf]; omega⟩
    · have i1 : ¬ (r : Int) < 8 := by omega
      obtain rfl : r = 8 := by omega
      have hlt : w.heap.size < g := by have := HG.out; omega
      have hcl : wr.cell? ⟨w.heap.size, 1, none⟩ = some (.bool last) := (hb.cell (p := ⟨w.heap.size, 1, none⟩) hlt).trans HCL.out
      have hcd : wr.cell? ⟨w.heap.size, 2, none⟩ = some v := (hb.cell (p := ⟨w.heap.size, 2, none⟩) hlt).trans HCD.out
      have HX := hox
      have hb' := hb
      obtain ⟨F, hF⟩ : ∃ F : UInt8, F = if last then 1 else 0 := ⟨_, rfl⟩
      cases last with
      | false =>
        have hst := hox.out
        rw [show lowed n 8 = low 8 n ++ 0 :: List.replicate 503 0 from rfl] at hst
        have HST := Lib.hid hst
        clear hst hox HX hF
        obtain ⟨wq, hwq⟩ : ∃ wq, wq = wr := ⟨_, rfl⟩
        go_wp2_with fail
        rw [← hwq] at hcd hcl hb hb' HST ⊢
        clear hwq
        clear hb hcl
        obtain ⟨y9, hy9⟩ : ∃ u, wq.cell? ⟨g, 9, none⟩ = some u := ⟨_, (HST.out.cellAt 9 (by omega)).trans (List.getElem?_eq_getElem (by rw [BS_length, flag_length]; omega))⟩
        obtain ⟨y10, hy10⟩ : ∃ u, wq.cell? ⟨g, 10, none⟩ = some u := ⟨_, (HST.out.cellAt 10 (by omega)).trans (List.getElem?_eq_getElem (by rw [BS_length, flag_length]; omega))⟩
        have hz9 : wq.frozen? ⟨g, 9, none⟩ = false := HST.out.frozenAt 9
        have hz10 : wq.frozen? ⟨g, 10, none⟩ = false := HST.out.frozenAt 10
        have hl501 : data.length ≤ 501 := hp.2.2.1
        have e1 : (data.length : Int) % 256 = ((UInt8.ofNat data.length).toNat : Int) := by rw [UInt8.toNat_ofNat']; omega
        have e2 : (data.length : Int) / 256 = ((UInt8.ofNat (data.length / 256)).toNat : Int) := by rw [UInt8.toNat_ofNat']; omega
        have hs2 := ((HST.out.stored 9 (.int .u8 ((UInt8.ofNat data.length).toNat : Int))).1.stored 10 (.int .u8 ((UInt8.ofNat (data.length / 256)).toNat : Int))).1
        rw [← BS_set, ← BS_set, sizes_set] at hs2
        have hge := HG.out
        have hb2 := (hb'.setCell (p := ⟨g, 9, none⟩) (Nat.le_refl _) (.int .u8 ((UInt8.ofNat data.length).toNat : Int))).setCell (p := ⟨g, 10, none⟩) (Nat.le_refl _) (.int .u8 ((UInt8.ofNat (data.length / 256)).toNat : Int))
        have hb4 := HB1.out.trans (hb2.mono (by omega))
        have hrd := HV.out.below hb4 (Nat.le_refl _)
        obtain ⟨A, cv, rfl, v1, v2, v3, v4⟩ := hrd
        obtain ⟨w9, hcp, hg9, hb9⟩ := copy_tailE (w := ((wq.setCell ⟨g, 9, none⟩ (.int .u8 ((UInt8.ofNat data.length).toNat : Int))).setCell ⟨g, 10, none⟩ (.int .u8 ((UInt8.ofNat (data.length / 256)).toNat : Int))).drew.drew) (cv := cv) (A := A) 3 (low 8 n ++ [0, UInt8.ofNat data.length, UInt8.ofNat (data.length / 256)]) data (by rw [List.length_append, low_length]; rfl) hl501 (own_heapE hs2).1 (fun hn => by
          obtain ⟨b, o, hA, _, hc⟩ := v4 hn
          exact ⟨b, o, hA, hc⟩) (hb2.drew.drew) (Nat.le_refl _)
        rw [← e1, ← e2] at hcp
        have hpsec : low 8 n ++ [0, UInt8.ofNat data.length, UInt8.ofNat (data.length / 256)] ++ (data ++ List.replicate (501 - data.length) 0) = Pc.sec ⟨n, false, data⟩ := by unfold Pc.sec; rw [List.append_assoc]; rfl
        rw [hpsec] at hg9
        have hb9' := HB1.out.trans (hb9.mono (Nat.le_of_lt hlt))
        have hnb9 : w9.heap[w.heap.size + 1]? = some (.cells Z 102 (0, 0)) := (hb9.block _ (by omega)).trans HNB.out
        have hsl : (Pc.sec ⟨n, false, data⟩).length = 512 := Pc.sec_length _ hl501
        obtain ⟨T, hT⟩ : ∃ T, T = Pc.sec ⟨n, false, data⟩ := ⟨_, rfl⟩
        rw [← hT] at hg9 hsl
        have hts : (sec T).size = 512 := by rw [sec_size, hsl]
        have hto := sec_one T
        obtain ⟨ST, hST⟩ : ∃ ST, ST = sec T := ⟨_, rfl⟩
        rw [← hST] at hts hto
        have HE := Lib.hid hST
        have HT := Lib.hid hT
        have hg9' : w9.heap[g]? = some (.cells ST 102 (0, 0)) := by rw [hST]; exact hg9
        clear hg9 hs2 hb2 hb4 e1 e2 v1 v2 v3 v4 hge hpsec hT hST hsl HST hb' hb9 HB1 HNB HCN HCL HCD HV HLO
        go_region
        go_wp2_with fail
        go_region
        all_goals go_wp2_with (first
          | (refine wpList_load_row rfl 102 (.tmp 3) rfl g rfl 102 ST (0, 0) _ hg9' Try.underlying102 rfl (by rw [hts]; exact rsec_info) ?_)
          | (refine wpList_store_row rfl 102 (.tmp 2) (.tmp 35) rfl (w.heap.size + 1) ST rfl rfl 102 Z hnb9 (by rw [hts]; exact rsec_info) (by rw [hts]; exact hZs) hto ?_))
        all_goals
          have hfin := setRow_heap w9 (w.heap.size + 1) Z ST _ _ hnb9
          refine bodyPost_ret (v := .agg ST) ?_ rfl ⟨by rw [HE.out, HT.out], below_setRow hb9' (Nat.le_succ _) _⟩
          exact results_cell_row rfl _ _ (w.heap.size + 1) 102 ST (0, 0) _ rfl hfin Try.underlying102 rfl (by rw [hts]; exact rsec_info)
      | true =>
        obtain ⟨y8, hy8⟩ : ∃ u, wr.cell? ⟨g, 8, none⟩ = some u := ⟨_, (hox.out.cellAt 8 (by omega)).trans (List.getElem?_eq_getElem (by rw [BS_length, lowed_length n 8 (by omega)]; omega))⟩
        have hz8 : wr.frozen? ⟨g, 8, none⟩ = false := hox.out.frozenAt 8
        have hst := (hox.out.stored 8 (.int .u8 ((1 : UInt8).toNat : Int))).1
        rw [← BS_set, flag_set] at hst
        have HST := Lib.hid hst
        have hb'' := hb.setCell (p := ⟨g, 8, none⟩) (Nat.le_refl _) (.int .u8 ((1 : UInt8).toNat : Int))
        have hcd' : (wr.setCell ⟨g, 8, none⟩ (.int .u8 ((1 : UInt8).toNat : Int))).cell? ⟨w.heap.size, 2, none⟩ = some v := (hb''.cell (p := ⟨w.heap.size, 2, none⟩) hlt).trans HCD.out
        clear hst hox HX hF hb'
        go_wp2_with fail
        clear hb hcd hcl hy8 hz8
        obtain ⟨wq, hwq⟩ : ∃ wq, wq = wr.setCell ⟨g, 8, none⟩ (.int .u8 ((1 : UInt8).toNat : Int)) := ⟨_, rfl⟩
        have hcd := hcd'
        have hb := hb''
        have hb' := hb''
        have hcl := hlt
        clear hcd' hb''
        rw [show wr.setCell ⟨g, 8, none⟩ (.int .u8 1) = wq from hwq.symm]
        rw [← hwq] at hcd hb hb' HST
        clear hwq
        clear hb hcl
        obtain ⟨y9, hy9⟩ : ∃ u, wq.cell? ⟨g, 9, none⟩ = some u := ⟨_, (HST.out.cellAt 9 (by omega)).trans (List.getElem?_eq_getElem (by rw [BS_length, flag_length]; omega))⟩
        obtain ⟨y10, hy10⟩ : ∃ u, wq.cell? ⟨g, 10, none⟩ = some u := ⟨_, (HST.out.cellAt 10 (by omega)).trans (List.getElem?_eq_getElem (by rw [BS_length, flag_length]; omega))⟩
        have hz9 : wq.frozen? ⟨g, 9, none⟩ = false := HST.out.frozenAt 9
        have hz10 : wq.frozen? ⟨g, 10, none⟩ = false := HST.out.frozenAt 10
        have hl501 : data.length ≤ 501 := hp.2.2.1
        have e1 : (data.length : Int) % 256 = ((UInt8.ofNat data.length).toNat : Int) := by rw [UInt8.toNat_ofNat']; omega
        have e2 : (data.length : Int) / 256 = ((UInt8.ofNat (data.length / 256)).toNat : Int) := by rw [UInt8.toNat_ofNat']; omega
        have hs2 := ((HST.out.stored 9 (.int .u8 ((UInt8.ofNat data.length).toNat : Int))).1.stored 10 (.int .u8 ((UInt8.ofNat (data.length / 256)).toNat : Int))).1
        rw [← BS_set, ← BS_set, sizes_set] at hs2
        have hge := HG.out
        have hb2 := (hb'.setCell (p := ⟨g, 9, none⟩) (Nat.le_refl _) (.int .u8 ((UInt8.ofNat data.length).toNat : Int))).setCell (p := ⟨g, 10, none⟩) (Nat.le_refl _) (.int .u8 ((UInt8.ofNat (data.length / 256)).toNat : Int))
        have hb4 := HB1.out.trans (hb2.mono (by omega))
        have hrd := HV.out.below hb4 (Nat.le_refl _)
        obtain ⟨A, cv, rfl, v1, v2, v3, v4⟩ := hrd
        obtain ⟨w9, hcp, hg9, hb9⟩ := copy_tailE (w := ((wq.setCell ⟨g, 9, none⟩ (.int .u8 ((UInt8.ofNat data.length).toNat : Int))).setCell ⟨g, 10, none⟩ (.int .u8 ((UInt8.ofNat (data.length / 256)).toNat : Int))).drew.drew) (cv := cv) (A := A) 3 (low 8 n ++ [1, UInt8.ofNat data.length, UInt8.ofNat (data.length / 256)]) data (by rw [List.length_append, low_length]; rfl) hl501 (own_heapE hs2).1 (fun hn => by
          obtain ⟨b, o, hA, _, hc⟩ := v4 hn
          exact ⟨b, o, hA, hc⟩) (hb2.drew.drew) (Nat.le_refl _)
        rw [← e1, ← e2] at hcp
        have hpsec : low 8 n ++ [1, UInt8.ofNat data.length, UInt8.ofNat (data.length / 256)] ++ (data ++ List.replicate (501 - data.length) 0) = Pc.sec ⟨n, true, data⟩ := by unfold Pc.sec; rw [List.append_assoc]; rfl
        rw [hpsec] at hg9
        have hb9' := HB1.out.trans (hb9.mono (Nat.le_of_lt hlt))
        have hnb9 : w9.heap[w.heap.size + 1]? = some (.cells Z 102 (0, 0)) := (hb9.block _ (by omega)).trans HNB.out
        have hsl : (Pc.sec ⟨n, true, data⟩).length = 512 := Pc.sec_length _ hl501
        obtain ⟨T, hT⟩ : ∃ T, T = Pc.sec ⟨n, true, data⟩ := ⟨_, rfl⟩
        rw [← hT] at hg9 hsl
        have hts : (sec T).size = 512 := by rw [sec_size, hsl]
        have hto := sec_one T
        obtain ⟨ST, hST⟩ : ∃ ST, ST = sec T := ⟨_, rfl⟩
        rw [← hST] at hts hto
        have HE := Lib.hid hST
        have HT := Lib.hid hT
        have hg9' : w9.heap[g]? = some (.cells ST 102 (0, 0)) := by rw [hST]; exact hg9
        clear hg9 hs2 hb2 hb4 e1 e2 v1 v2 v3 v4 hge hpsec hT hST hsl HST hb' hb9 HB1 HNB HCN HCL HCD HV HLO
        go_region
        go_wp2_with fail
        go_region
        all_goals go_wp2_with (first
          | (refine wpList_load_row rfl 102 (.tmp 3) rfl g rfl 102 ST (0, 0) _ hg9' Try.underlying102 rfl (by rw [hts]; exact rsec_info) ?_)
          | (refine wpList_store_row rfl 102 (.tmp 2) (.tmp 35) rfl (w.heap.size + 1) ST rfl rfl 102 Z hnb9 (by rw [hts]; exact rsec_info) (by rw [hts]; exact hZs) hto ?_))
        all_goals
          have hfin := setRow_heap w9 (w.heap.size + 1) Z ST _ _ hnb9
          refine bodyPost_ret (v := .agg ST) ?_ rfl ⟨by rw [HE.out, HT.out], below_setRow hb9' (Nat.le_succ _) _⟩
          exact results_cell_row rfl _ _ (w.heap.size + 1) 102 ST (0, 0) _ rfl hfin Try.underlying102 rfl (by rw [hts]; exact rsec_info)
end Go.Proofs.Ytplpfhgdanclhaa
