/-
  The document's Cut (package butteryref11): the same packets. No statement is proved here. No condition.
-/
import Derived.Test.YtfmaocinckeagaaDoorQRefPk
namespace Go.Proofs.YtfmaocinckeagaaDoor
open Go.RowKit

/-- rows of texts -/
def strR : Rec (List UInt8) where
  vals d := [.string (tx d)]
  size := 1
  len _ := rfl
  one d u hu := by simp at hu; rw [hu]; rfl
theorem info_str : (Tryd.prog.info? 9).map (fun i => (i.zero, i.size, i.bytes)) = some (some (.string ⟨#[]⟩), 1, 16) := by kernel_rfl
theorem tx_take (l : List UInt8) (k : Nat) : (tx l).extract 0 k = tx (l.take k) := by
  apply ByteArray.ext
  unfold tx
  simp [ByteArray.data_extract]
theorem tx_drop (l : List UInt8) (k : Nat) : (tx l).extract k (tx l).size = tx (l.drop k) := by
  apply ByteArray.ext
  unfold tx
  simp [ByteArray.data_extract, ByteArray.size]
  exact List.take_of_length_le (by simp)
/-- one text put behind -/
theorem str_app {w : World} {B : Nat} {v : Value} {L : List (List UInt8)} {d : List UInt8} (h : strR.Own w B 9 v L) (hB : B ≤ w.heap.size) (hn : L.length ≤ 100000) :
    ∃ v' w3, (Builtin.append_ #[71, 71] 71 #[v, .slice (some ⟨w.heap.size, 0, none⟩) 1 1]).run Tryd.prog (w.alloc (.cells #[.string (tx d)] 9)) = .ok v' w3 ∧ strR.Own w3 B 9 v' (L ++ [d]) ∧ Below B w w3 := by
  obtain ⟨w2, hw2⟩ : ∃ w2, w2 = w.alloc (.cells #[.string (tx d)] 9) := ⟨_, rfl⟩
  have hb2 : Below w.heap.size w w2 := by rw [hw2]; exact (Below.refl _ _).alloc (Nat.le_refl _) _
  have hx2 : w2.heap[w.heap.size]? = some (.cells (strR.vals d).toArray 9 (0, 0)) := by rw [hw2]; exact heap_alloc_new w _
  have h2 := h.below hb2
  rw [← hw2]
  obtain ⟨i0, hi, hz0, hz1, hz2⟩ := info_parts info_str
  obtain ⟨v', w3, hr, hown, hg, hat⟩ := Rec.app (P := Tryd.prog) (R := strR) (t := 71) Tryd.underlying71 hi hz0 hz1 hz2 rfl (by decide) h2 (Rec.one_row (N := Any) hx2 trivial) (by unfold maxLen; simp; omega) (by simp; omega) (Nat.le_trans hB hb2.size)
  exact ⟨v', w3, hr, hown, (Joins.below_le hb2 hB).grown hg (Nat.le_trans hB hb2.size) (fun q hq => (h2.lt q hq).1)⟩
/-- texts stay where packets are put behind -/
theorem str_kept {w w' w3 : World} {B : Nat} {v u v' : Value} {ls L : List (List UInt8)} {ss : List Sl} {s : Sl} (h : Cuts w B v ls ss) (hS : strR.Own w B 9 u L) (hb : Below w.heap.size w w')
    (hap : (Builtin.append_ #[23, 23] 23 #[v, .slice (some ⟨w'.heap.size, 0, none⟩) 1 1]).run Tryd.prog (w'.alloc (.cells #[.slice s.a s.n s.c] 27)) = .ok v' w3) (hg : (w'.alloc (.cells #[.slice s.a s.n s.c] 27)).grownBy w3 v.ownBlock) : strR.Own w3 B 9 u L := by
  have h1 := hS.below hb
  have h2 := h1.below ((Below.refl _ _).alloc (Nat.le_refl _) (.cells #[.slice s.a s.n s.c] 27))
  have h0 := (h.row.below hb).below ((Below.refl _ _).alloc (Nat.le_refl _) (.cells #[.slice s.a s.n s.c] 27))
  exact row_same h2 fun p hp => hg.block p (h2.lt p hp).2 (fun e => rows_apart h0 h2 (by decide) e.symm hp rfl)
theorem range_piece (l : List UInt8) (k : Nat) : (List.range (k + 1)).map (piece l) = (List.range k).map (piece l) ++ [piece l k] := by rw [List.range_succ, List.map_append]; rfl
set_option maxHeartbeats 8000000 in
set_option maxRecDepth 100000 in
theorem refcut_any (n : Int) (l : List UInt8) (w : World) :
    Calls Tryd.prog 17 #[.int .i64 n, .string (tx l)] w (CutPost w (cutErr n l) (cutP n l)) := by
  obtain ⟨E, hE⟩ : ∃ E, E = cutErr n l := ⟨_, rfl⟩
  obtain ⟨CP, hCP⟩ : ∃ CP, CP = cutP n l := ⟨_, rfl⟩
  rw [← hE, ← hCP]
  by_cases h1 : n < 0 ∨ 2147483647 < n
  · have he : E = 1 := by rw [hE]; unfold cutErr; rw [if_pos h1]
    have hc : CP = [] := by rw [hCP]; unfold cutP; rw [← hE, he, if_neg (by decide)]
    have HE := Lib.hid he
    have HC := Lib.hid hc
    clear hE hCP he hc
    by_cases h2 : n < 0
    · clear h1
      go_enter Tryd.func17, Tryd.ntmps17
      go_wp2_with fail
      go_ret2
      exact CutPost.no HE HC rfl (Below.refl _ _)
    · have h3 : 2147483647 < n := by omega
      clear h1
      go_enter Tryd.func17, Tryd.ntmps17
      go_wp2_with fail
      go_ret2
      exact CutPost.no HE HC rfl (Below.refl _ _)
  · have h2 : ¬ n < 0 := by omega
    have h3 : ¬ 2147483647 < n := by omega
    have hsz := tx_size l
    by_cases h4 : 8192 < l.length
    · have he : E = 40 := by rw [hE]; unfold cutErr; rw [if_neg h1, if_pos h4]
      have hc : CP = [] := by rw [hCP]; unfold cutP; rw [← hE, he, if_neg (by decide)]
      have HE := Lib.hid he
      have HC := Lib.hid hc
      have h5 : (8192 : Int) < (l.length : Int) := by omega
      clear hE hCP he hc h1 h4
      go_enter Tryd.func17, Tryd.ntmps17
      go_wp2_with fail
      go_ret2
      exact CutPost.no HE HC rfl (Below.refl _ _)
    · have he : E = 0 := by rw [hE]; unfold cutErr; rw [if_neg h1, if_neg h4]
      have hc : CP = (List.range (many l)).map (fun i => pkt n.toNat i (many l) (piece l i)) := by rw [hCP]; unfold cutP; rw [← hE, he, if_pos rfl]
      have h5 : ¬ (8192 : Int) < (l.length : Int) := by omega
      have hl8 : l.length ≤ 8192 := by omega
      obtain ⟨k0, hk0⟩ := Int.eq_ofNat_of_zero_le (show 0 ≤ n by omega)
      subst hk0
      have hk1 : k0 ≤ 2147483647 := by omega
      rw [Int.toNat_natCast] at hc
      have HE := Lib.hid he
      have HC := Lib.hid hc
      clear hE hCP he hc h1 h4
      go_enter Tryd.func17, Tryd.ntmps17
      go_upto_region 6 with fail
      clear h2 h3 h5 hsz
      have HR0 : Hid (strR.Own w w.heap.size 9 (.slice none 0 0) ((List.range 0).map (piece l))) := Lib.hid (Rec.Own.none _ _ _ _)
      have HB0 := Lib.hid (Below.refl w.heap.size w)
      go_loopw [1, 6] (fun s1 s6 wr => ∃ (k : Nat) (A : Option Addr) (c : Nat), s1 = .string (tx (l.drop (380 * k))) ∧ s6 = .slice A k c ∧ (380 * k < l.length ∨ k = 0) ∧ Hid (strR.Own wr w.heap.size 9 (.slice A k c) ((List.range k).map (piece l))) ∧ Hid (Below w.heap.size w wr)) (fun s1 _ _ => match s1 with | .string s => s.size | _ => 0)
      case atStart => exact ⟨0, none, 0, by simp, rfl, .inr rfl, HR0, HB0⟩
      case round =>
        clear HR0 HB0
        obtain ⟨k, A, c, rfl, rfl, hk, hR, hB⟩ := hrel
        obtain ⟨wz, hwz⟩ : ∃ wz : World, wz = wr := ⟨_, rfl⟩
        subst hwz
        obtain ⟨r, hr⟩ : ∃ r, r = l.drop (380 * k) := ⟨_, rfl⟩
        have hrl : r.length = l.length - 380 * k := by rw [hr, List.length_drop]
        rw [← hr]
        have hrs := tx_size r
        have hkn : k ≤ 22 := by omega
        have HRE := Lib.hid hr
        clear hr
        by_cases hbig : 380 < r.length
        · have a1 : (380 : Int) < (r.length : Int) := by omega
          have hx1 := tx_take r 380
          have hx2 : (tx r).extract 380 r.length = tx (r.drop 380) := by rw [← tx_size r]; exact tx_drop r 380
          obtain ⟨v', w3, hap, hown, hb3⟩ := str_app (d := r.take 380) hR.out hB.out.size (by simp; omega)
          obtain ⟨A3, c3, rfl⟩ := hown.slice
          have hpk : r.take 380 = piece l k := by rw [HRE.out]; rfl
          rw [show ((List.range k).map (piece l) ++ [r.take 380]).length = k + 1 by simp] at hap hown
          rw [hpk, ← range_piece] at hown
          have HW := Lib.hid hown
          have HB3 := Lib.hid (hB.out.trans hb3)
          have hdd : r.drop 380 = l.drop (380 * (k + 1)) := by rw [HRE.out, List.drop_drop]; congr 1
          have HX2 : Hid ((tx r).extract 380 (l.length - 380 * k) = tx (l.drop (380 * (k + 1)))) := Lib.hid (by rw [← hrl, hx2, hdd])
          clear hown hb3 hpk hdd hx2
          have HAP := Lib.hid hap
          clear hap
          go_upto_region 8 with (at_builtin; go_must (refine Lib.wpList_append_run _ rfl (.tmp 21) (.tmp 24) 71 71 rfl _ _ rfl rfl _ _ HAP.out ?_))
          clear hx1 HAP
          go_wp2_with fail
          exact ⟨⟨k + 1, A3, c3, by rw [HX2.out], rfl, .inl (by omega), HW, HB3⟩, by simp only [HX2.out, tx_size, List.length_drop]; omega⟩
        · have a1 : ¬ (380 : Int) < (r.length : Int) := by omega
          obtain ⟨v', w3, hap, hown, hb3⟩ := str_app (d := r) hR.out hB.out.size (by simp; omega)
          obtain ⟨A3, c3, rfl⟩ := hown.slice
          rw [show ((List.range k).map (piece l) ++ [r]).length = k + 1 by simp] at hap hown
          have hpk : r = piece l k := by rw [HRE.out]; unfold piece; rw [List.take_of_length_le (by rw [← HRE.out]; omega)]
          have hM : many l = k + 1 := by unfold many; omega
          rw [show ((List.range k).map (piece l) ++ [r]) = (List.range (k + 1)).map (piece l) by rw [range_piece, ← hpk]] at hown
          have HW := Lib.hid hown
          have HB3 := Lib.hid (hB.out.trans hb3)
          have HAP := Lib.hid hap
          have HM := Lib.hid hM
          clear hap hown hb3 hM hpk
          rcases Nat.eq_zero_or_pos r.length with hr0 | hr0
          · have hk0' : k = 0 := by omega
            subst hk0'
            have a2 : ¬ (0 : Int) < ((l.length - 380 * 0 : Nat) : Int) := by omega
            have a2' : ¬ (0 : Int) < (r.length : Int) := by omega
            have a2'' : ¬ (0 : Int) < (l.length : Int) := by omega
            go_upto_region 10 with fail
            clear a1 a2 a2' a2''
            go_upto_region 11 with (at_builtin; go_must (refine Lib.wpList_append_run _ rfl (.tmp 36) (.tmp 38) 71 71 rfl _ _ rfl rfl _ _ HAP.out ?_))
            clear HAP hR hB HRE hrs hrl hk
            go_wp2_with fail
            have HO0 : Hid (∃ ss, Cuts w3 w.heap.size (.slice none 0 0) ((List.range 0).map (fun i => pkt k0 i (many l) (piece l i))) ss) := Lib.hid ⟨[], Cuts.nil _ _⟩
            go_loopw [7, 8] (fun s7 s8 wr => ∃ (i : Nat) (A : Option Addr) (c : Nat), s7 = .slice A i c ∧ s8 = .int .i64 (i : Int) ∧ i ≤ 0 + 1 ∧ Hid (∃ ss, Cuts wr w.heap.size (.slice A i c) ((List.range i).map (fun i => pkt k0 i (many l) (piece l i))) ss) ∧ Hid (strR.Own wr w.heap.size 9 (.slice A3 (0 + 1) c3) ((List.range (0 + 1)).map (piece l))) ∧ Hid (Below w.heap.size w wr)) (fun _ s8 _ => 0 + 1 - (intOf s8).toNat)
            case atStart => exact ⟨0, none, 0, rfl, rfl, Nat.zero_le _, HO0, HW, HB3⟩
            case round =>
              clear HO0 HW HB3
              obtain ⟨i, Ai, ci, rfl, rfl, hi, hC, hS, hB⟩ := hrel
              obtain ⟨wz, hwz⟩ : ∃ wz : World, wz = wr := ⟨_, rfl⟩
              subst hwz
              by_cases hik : i < 0 + 1
              · have b1 : (i : Int) < (1 : Int) := by omega
                have b1' : (i : Int) < ((0 + 1 : Nat) : Int) := by omega
                have b0 : (0 : Int) ≤ (i : Int) := by omega
                obtain ⟨b, o, n', c', hv, -, hbl, hcell⟩ := hS.out.n.cell (i := i) (a := piece l i) (by rw [List.getElem?_map, List.getElem?_range hik]; rfl)
                injection hv with e1 e2 e3
                subst e1 e3
                clear e2
                have hce := hcell 0 _ rfl
                rw [show o + i * strR.size + 0 = o + i by show o + i * 1 + 0 = o + i; omega] at hce
                have cP := refpacket_any (k0 : Int) (i : Int) ((0 + 1 : Nat) : Int) (piece l i) wz (by have := piece_length l i; omega)
                have hpx : xpkt (k0 : Int) (i : Int) ((0 + 1 : Nat) : Int) (piece l i) = pkt k0 i (many l) (piece l i) := by rw [HM.out]; exact xpkt_nat hk1 (by omega) (by omega)
                rw [hpx] at cP
                rw [show (((0 + 1 : Nat) : Int)) = (1 : Int) by omega] at cP
                clear hcell hpx
                go_wp2_with fail
                refine cP.mono ?_
                rintro e w4 ⟨v4, kk, rfl, ho, hb⟩
                clear cP hce
                obtain ⟨ss, hCs⟩ := hC.out
                obtain ⟨s, rfl⟩ := Sl.of ho
                obtain ⟨v5, w5, hap, hCs5, hb5, hg5⟩ := hCs.app hb hB.out.size ho (Nat.le_refl _) (by simp; omega)
                obtain ⟨A5, c5, hv5⟩ := hCs5.slice
                rw [show ((List.range i).map (fun i => pkt k0 i (many l) (piece l i)) ++ [pkt k0 i (many l) (piece l i)]).length = i + 1 by simp] at hv5
                subst hv5
                rw [show (List.range i).map (fun i => pkt k0 i (many l) (piece l i)) ++ [pkt k0 i (many l) (piece l i)] = (List.range (i + 1)).map (fun i => pkt k0 i (many l) (piece l i)) by rw [List.range_succ, List.map_append]; rfl] at hCs5
                have HAP := Lib.hid hap
                have HC5 := Lib.hid (show ∃ ss, Cuts w5 w.heap.size (.slice A5 (i + 1) c5) ((List.range (i + 1)).map (fun i => pkt k0 i (many l) (piece l i))) ss from ⟨_, hCs5⟩)
                have HB5 := Lib.hid (hB.out.trans hb5)
                have hx4 := hS.out.below hb
                have HS5 : Hid (strR.Own w5 w.heap.size 9 (.slice (some ⟨b, o, none⟩) (0 + 1) c3) ((List.range (0 + 1)).map (piece l))) := Lib.hid (str_kept hCs hS.out hb hap hg5)
                clear hap hCs5 hb5 hb ho hCs hx4 hg5
                unfold Sl.v
                go_upto_region 14 with (at_builtin; go_must (refine Lib.wpList_append_run _ rfl (.tmp 46) (.tmp 56) 23 23 rfl _ _ rfl rfl _ _ HAP.out ?_))
                clear HAP
                go_wp2_with fail
                exact ⟨⟨i + 1, A5, c5, rfl, by go_num, by omega, HC5, HS5, HB5⟩, by simp [intOf]; omega⟩
              · have b1 : ¬ (i : Int) < (1 : Int) := by omega
                have b1' : ¬ (i : Int) < ((0 + 1 : Nat) : Int) := by omega
                have hie : i = many l := by rw [HM.out]; omega
                obtain ⟨ss, hCs⟩ := hC.out
                have hCf : Cuts wz w.heap.size (.slice Ai i ci) CP ss := by rw [HC.out, show (List.range (many l)).map (fun i => pkt k0 i (many l) (piece l i)) = (List.range i).map (fun i => pkt k0 i (many l) (piece l i)) by rw [hie]]; exact hCs
                have HCF := Lib.hid hCf
                clear hCf hCs hie
                go_wp2_with fail
                go_ret2
                exact ⟨_, ss, by rw [HE.out]; rfl, HCF.out, hB.out⟩
          · have a2 : (0 : Int) < (r.length : Int) := by omega
            have a2' : (0 : Int) < ((l.length - 380 * k : Nat) : Int) := by omega
            go_upto_region 10 with fail
            clear a1 a2 a2'
            go_upto_region 11 with (at_builtin; go_must (refine Lib.wpList_append_run _ rfl (.tmp 36) (.tmp 38) 71 71 rfl _ _ rfl rfl _ _ HAP.out ?_))
            clear HAP hR hB HRE hrs hrl hk
            go_wp2_with fail
            have HO0 : Hid (∃ ss, Cuts w3 w.heap.size (.slice none 0 0) ((List.range 0).map (fun i => pkt k0 i (many l) (piece l i))) ss) := Lib.hid ⟨[], Cuts.nil _ _⟩
            go_loopw [7, 8] (fun s7 s8 wr => ∃ (i : Nat) (A : Option Addr) (c : Nat), s7 = .slice A i c ∧ s8 = .int .i64 (i : Int) ∧ i ≤ k + 1 ∧ Hid (∃ ss, Cuts wr w.heap.size (.slice A i c) ((List.range i).map (fun i => pkt k0 i (many l) (piece l i))) ss) ∧ Hid (strR.Own wr w.heap.size 9 (.slice A3 (k + 1) c3) ((List.range (k + 1)).map (piece l))) ∧ Hid (Below w.heap.size w wr)) (fun _ s8 _ => k + 1 - (intOf s8).toNat)
            case atStart => exact ⟨0, none, 0, rfl, rfl, Nat.zero_le _, HO0, HW, HB3⟩
            case round =>
              clear HO0 HW HB3
              obtain ⟨i, Ai, ci, rfl, rfl, hi, hC, hS, hB⟩ := hrel
              obtain ⟨wz, hwz⟩ : ∃ wz : World, wz = wr := ⟨_, rfl⟩
              subst hwz
              by_cases hik : i < k + 1
              · have b1 : (i : Int) < (k : Int) + 1 := by omega
                have b1' : (i : Int) < ((k + 1 : Nat) : Int) := by omega
                have b0 : (0 : Int) ≤ (i : Int) := by omega
                obtain ⟨b, o, n', c', hv, -, hbl, hcell⟩ := hS.out.n.cell (i := i) (a := piece l i) (by rw [List.getElem?_map, List.getElem?_range hik]; rfl)
                injection hv with e1 e2 e3
                subst e1 e3
                clear e2
                have hce := hcell 0 _ rfl
                rw [show o + i * strR.size + 0 = o + i by show o + i * 1 + 0 = o + i; omega] at hce
                have cP := refpacket_any (k0 : Int) (i : Int) ((k + 1 : Nat) : Int) (piece l i) wz (by have := piece_length l i; omega)
                have hpx : xpkt (k0 : Int) (i : Int) ((k + 1 : Nat) : Int) (piece l i) = pkt k0 i (many l) (piece l i) := by rw [HM.out]; exact xpkt_nat hk1 (by omega) (by omega)
                rw [hpx] at cP
                rw [show (((k + 1 : Nat) : Int)) = (k : Int) + 1 by omega] at cP
                clear hcell hpx
                go_wp2_with fail
                refine cP.mono ?_
                rintro e w4 ⟨v4, kk, rfl, ho, hb⟩
                clear cP hce
                obtain ⟨ss, hCs⟩ := hC.out
                obtain ⟨s, rfl⟩ := Sl.of ho
                obtain ⟨v5, w5, hap, hCs5, hb5, hg5⟩ := hCs.app hb hB.out.size ho (Nat.le_refl _) (by simp; omega)
                obtain ⟨A5, c5, hv5⟩ := hCs5.slice
                rw [show ((List.range i).map (fun i => pkt k0 i (many l) (piece l i)) ++ [pkt k0 i (many l) (piece l i)]).length = i + 1 by simp] at hv5
                subst hv5
                rw [show (List.range i).map (fun i => pkt k0 i (many l) (piece l i)) ++ [pkt k0 i (many l) (piece l i)] = (List.range (i + 1)).map (fun i => pkt k0 i (many l) (piece l i)) by rw [List.range_succ, List.map_append]; rfl] at hCs5
                have HAP := Lib.hid hap
                have HC5 := Lib.hid (show ∃ ss, Cuts w5 w.heap.size (.slice A5 (i + 1) c5) ((List.range (i + 1)).map (fun i => pkt k0 i (many l) (piece l i))) ss from ⟨_, hCs5⟩)
                have HB5 := Lib.hid (hB.out.trans hb5)
                have hx4 := hS.out.below hb
                have HS5 : Hid (strR.Own w5 w.heap.size 9 (.slice (some ⟨b, o, none⟩) (k + 1) c3) ((List.range (k + 1)).map (piece l))) := Lib.hid (str_kept hCs hS.out hb hap hg5)
                clear hap hCs5 hb5 hb ho hCs hx4 hg5
                unfold Sl.v
                go_upto_region 14 with (at_builtin; go_must (refine Lib.wpList_append_run _ rfl (.tmp 46) (.tmp 56) 23 23 rfl _ _ rfl rfl _ _ HAP.out ?_))
                clear HAP
                go_wp2_with fail
                exact ⟨⟨i + 1, A5, c5, rfl, by go_num, by omega, HC5, HS5, HB5⟩, by simp [intOf]; omega⟩
              · have b1 : ¬ (i : Int) < (k : Int) + 1 := by omega
                have b1' : ¬ (i : Int) < ((k + 1 : Nat) : Int) := by omega
                have hie : i = many l := by rw [HM.out]; omega
                obtain ⟨ss, hCs⟩ := hC.out
                have hCf : Cuts wz w.heap.size (.slice Ai i ci) CP ss := by rw [HC.out, show (List.range (many l)).map (fun i => pkt k0 i (many l) (piece l i)) = (List.range i).map (fun i => pkt k0 i (many l) (piece l i)) by rw [hie]]; exact hCs
                have HCF := Lib.hid hCf
                clear hCf hCs hie
                go_wp2_with fail
                go_ret2
                exact ⟨_, ss, by rw [HE.out]; rfl, HCF.out, hB.out⟩
end Go.Proofs.YtfmaocinckeagaaDoor
