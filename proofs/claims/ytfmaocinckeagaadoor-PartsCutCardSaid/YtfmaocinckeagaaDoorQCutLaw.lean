/-
  PartsCut walked. No statement is proved here. Condition: the table reads as the program lays it.
-/
import Derived.Test.YtfmaocinckeagaaDoorQRefCut
import Derived.Test.YtfmaocinckeagaaDoorQPoke
namespace Go.Proofs.YtfmaocinckeagaaDoor
open Go.RowKit

theorem cutP_le (n : Int) (l : List UInt8) : (cutP n l).length ≤ 22 := by
  unfold cutP
  split
  · rename_i h0
    have h8 : l.length ≤ 8192 := by
      unfold cutErr at h0
      split at h0
      · cases h0
      · split at h0
        · cases h0
        · omega
    have := many_small h8
    simp
    omega
  · exact Nat.zero_le _
theorem Cuts.where_ {w : World} {B : Nat} {v : Value} {ls : List (List UInt8)} {ss : List Sl} (h : Cuts w B v ls ss) : ∀ (i : Nat) (s : Sl) (p : Nat), ss[i]? = some s → s.v.ownBlock = some p → B ≤ p ∧ p < w.heap.size := fun i s p hs hp => by
  obtain ⟨m, hm⟩ : ∃ m, ls[i]? = some m := ⟨_, List.getElem?_eq_getElem (by rw [← h.len]; exact (List.getElem?_eq_some_iff.1 hs).1)⟩
  exact (h.own i s m hs hm).lt p hp
set_option maxHeartbeats 8000000 in
set_option maxRecDepth 100000 in
theorem cut_walk (n : Int) (l : List UInt8) (v : Value) (w : World) (ht : Tab w) (hv : Rd w w.heap.size v l) (hl : l.length ≤ 140737488351232) :
    Calls Tryd.prog 5 #[.int .i64 n, v] w fun e w' => e = .returned (.bool true) ∧ Below w.heap.size w w' := by
  have HV := Lib.hid hv
  obtain ⟨A, c, rfl, -⟩ := hv
  by_cases hbig : 20000 < l.length
  · have t1 : (20000 : Int) < (l.length : Int) := by omega
    clear hbig
    go_enter Tryd.func5, Tryd.ntmps5
    go_wp2_with fail
    go_ret
    exact ⟨rfl, Below.refl _ _⟩
  · have t1 : ¬ (20000 : Int) < (l.length : Int) := by omega
    obtain ⟨v1, w1, hr1, ho1, hb1⟩ := copy_new HV.out hl
    obtain ⟨A1, c1, hv1⟩ := own_slice ho1
    subst hv1
    have HR := Lib.hid hr1
    have HO : Hid (w1.ownsRow w.heap.size 5 1 (.slice A1 l.length c1) l.length (BS l)) := Lib.hid ho1
    have HB := Lib.hid hb1
    have HT := Lib.hid ht
    clear hr1 ho1 hb1 ht hbig
    go_enter Tryd.func5, Tryd.ntmps5
    go_upto_region 4 with (at_builtin; go_must (refine Lib.wpList_append_run _ rfl (.tmp 16) (.tmp 17) 27 27 rfl _ _ rfl rfl _ _ HR.out ?_))
    clear HR t1
    go_wp2_with fail
    go_loopw [6, 7, 8, 9, 10, 11, 12] (fun s6 _ _ _ _ _ _ wr => ∃ r : Nat, s6 = .int .i64 (r : Int) ∧ r ≤ 2 ∧ Hid (wr.ownsRow w.heap.size 5 1 (.slice A1 l.length c1) l.length (BS l)) ∧ Hid (Below w.heap.size w wr)) (fun s6 _ _ _ _ _ _ _ => 2 - (intOf s6).toNat)
    case atStart => exact ⟨0, rfl, by omega, HO, HB⟩
    case round =>
      clear HO HB
      obtain ⟨r, rfl, hr, hO, hB⟩ := hrel
      obtain ⟨wz, hwz⟩ : ∃ wz : World, wz = wr := ⟨_, rfl⟩
      subst hwz
      by_cases hr2 : r < 2
      · have a1 : (r : Int) < 2 := by omega
        have cC := cut_any n l (.slice A1 l.length c1) wz (HT.out.below hB.out HT.out.1) (Rd.own hO.out) (by omega)
        obtain ⟨E, hE⟩ : ∃ E, E = cutErr n l := ⟨_, rfl⟩
        obtain ⟨L, hL⟩ : ∃ L, L = cutP n l := ⟨_, rfl⟩
        rw [← hE, ← hL] at cC
        have cR := fun W => refcut_any n l W
        rw [← hE, ← hL] at cR
        have hL22 : L.length ≤ 22 := by rw [hL]; exact cutP_le n l
        have eE : (E != E) = false := by simp
        clear hE hL
        go_wp2_with fail
        refine cC.mono ?_
        rintro e w2 ⟨va, ss, rfl, hCa, hb2⟩
        clear cC
        have hB2 := hB.out.trans (Joins.below_le hb2 hB.out.size)
        have hO2 := own_below hO.out hb2 (Nat.le_refl _)
        have hcm : (convert 27 9 (.slice A l.length c)).run Tryd.prog w2 = .ok (.string (tx l)) w2 := conv_str (HV.out.below hB2 (Nat.le_refl _))
        have LA := Lib.hid hCa.where_
        have LI := Lib.hid hO.out.lt
        have HCA := Lib.hid hCa
        have HB2 := Lib.hid hB2
        have HO2 := Lib.hid hO2
        have HSS := Lib.hid hB.out.size
        have HW2 := Lib.hid hb2.size
        clear hCa hb2 hB2 hO2
        go_wp2_with fail
        refine (cR _).mono ?_
        rintro e w3 ⟨vb, sb, rfl, hCb, hb3⟩
        clear cR hcm
        have hB3 := HB2.out.trans (Joins.below_le hb3 HB2.out.size)
        have hO3 := own_below HO2.out hb3 (Nat.le_refl _)
        have hCa3 := HCA.out.below hb3
        have hcm : (convert 27 9 (.slice A l.length c)).run Tryd.prog w3 = .ok (.string (tx l)) w3 := conv_str (HV.out.below hB3 (Nat.le_refl _))
        have hci : (convert 27 9 (.slice A1 l.length c1)).run Tryd.prog w3 = .ok (.string (tx l)) w3 := conv_str (Rd.own hO3)
        obtain ⟨Aa, ca, rfl⟩ := hCa3.slice
        obtain ⟨Ab, cb', rfl⟩ := hCb.slice
        have HCA3 := Lib.hid hCa3
        have HCB3 := Lib.hid hCb
        have HB3 := Lib.hid hB3
        have HO3 := Lib.hid hO3
        clear hCa3 hCb hB3 hO3 hb3 HCA HO2 HB2 hO hB
        obtain ⟨Ba, hBa⟩ : ∃ Ba, Ba = wz.heap.size := ⟨_, rfl⟩
        obtain ⟨Bb, hBb⟩ : ∃ Bb, Bb = w2.heap.size := ⟨_, rfl⟩
        rw [← hBa] at HCA3 LA LI HW2 HSS
        rw [← hBb] at HCB3 LA HW2
        go_upto_region 12 with fail
        clear hcm hci eE hBa hBb
        go_loopw [11, 12] (fun s11 _ wr => ∃ (i : Nat) (la : List (List UInt8)), s11 = .int .i64 (i : Int) ∧ i ≤ L.length ∧ la.length = L.length ∧ Hid (∀ j, i ≤ j → la[j]? = L[j]?) ∧ Hid (Cuts wr Ba (.slice Aa L.length ca) la ss) ∧ Hid (Cuts wr Bb (.slice Ab L.length cb') L sb) ∧ Hid (wr.ownsRow w.heap.size 5 1 (.slice A1 l.length c1) l.length (BS l)) ∧ Hid (Below w.heap.size w wr)) (fun s11 _ _ => L.length - (intOf s11).toNat)
        case atStart => exact ⟨0, L, rfl, Nat.zero_le _, rfl, Lib.hid (fun _ _ => rfl), HCA3, HCB3, HO3, HB3⟩
        case round =>
          clear HCA3 HCB3 HO3 HB3
          obtain ⟨i, la, rfl, hi, hlal, hla, hCa, hCb, hO, hB⟩ := hrel
          obtain ⟨wy, hwy⟩ : ∃ wy : World, wy = wr := ⟨_, rfl⟩
          subst hwy
          by_cases hiL : i < L.length
          · have b1 : (i : Int) < (L.length : Int) := by omega
            have b0 : (0 : Int) ≤ (i : Int) := by omega
            obtain ⟨x, hx⟩ : ∃ x, L[i]? = some x := ⟨_, List.getElem?_eq_getElem hiL⟩
            have hxa : la[i]? = some x := (hla.out i (Nat.le_refl _)).trans hx
            obtain ⟨s, hs⟩ := hCa.out.sl (i := i) (by omega)
            obtain ⟨t, htt⟩ := hCb.out.sl hiL
            obtain ⟨b, o, n1, k1, hv, hbl, hcell⟩ := hCa.out.cell hs
            injection hv with e1 e2 e3
            subst e1 e3
            clear e2
            obtain ⟨b2, o2, n2, k2, hv, hbl2, hcell2⟩ := hCb.out.cell htt
            injection hv with e1 e2 e3
            subst e1 e3
            clear e2
            have hsn2 : s.n = x.length := by
              obtain ⟨A0, c0, he, -⟩ := hCa.out.rd hs hxa
              unfold Sl.v at he
              injection he
            have htn2 : t.n = x.length := by
              obtain ⟨A0, c0, he, -⟩ := hCb.out.rd htt hx
              unfold Sl.v at he
              injection he
            have hxlen : x.length ≤ 9223372036854775807 := by
              obtain ⟨A0, c0, he, q1, q2, -⟩ := hCa.out.rd hs hxa
              unfold maxLen at q2
              omega
            obtain ⟨sa, sn, sc⟩ := s
            obtain ⟨ta, tn, tc⟩ := t
            dsimp only at hsn2 htn2 hcell hcell2
            subst hsn2 htn2
            have hc1 : (convert 27 9 (.slice sa x.length sc)).run Tryd.prog wy = .ok (.string (tx x)) wy := conv_str (hCa.out.rd hs hxa)
            have hc2 : (convert 27 9 (.slice ta x.length tc)).run Tryd.prog wy = .ok (.string (tx x)) wy := conv_str (hCb.out.rd htt hx)
            have hCad := hCa.out.below (Below.refl wy.heap.size wy).drew
            have hCbd := hCb.out.below (Below.refl wy.heap.size wy).drew
            have hc3 : (convert 27 9 (.slice sa x.length sc)).run Tryd.prog wy.drew = .ok (.string (tx x)) wy.drew := conv_str (hCad.rd hs hxa)
            have hc4 : (convert 27 9 (.slice ta x.length tc)).run Tryd.prog wy.drew = .ok (.string (tx x)) wy.drew := conv_str (hCbd.rd htt hx)
            clear hCad hCbd
            go_upto_region 14 with fail
            go_region
            go_upto_region 17 with fail
            have hbd : Below wy.heap.size wy wy.drew := (Below.refl _ _).drew
            have HCA0 := Lib.hid (hCa.out.below hbd)
            have HCB0 := Lib.hid (hCb.out.below hbd)
            have HO0 := Lib.hid (own_below hO.out hbd (Nat.le_refl _))
            have HB0 := Lib.hid hB.out.drew
            have HS := Lib.hid hs
            have HY0 : Hid (∃ y : List UInt8, la[i]? = some y ∧ y.length = x.length) := Lib.hid ⟨x, hxa, rfl⟩
            have HL0 : Hid (∀ j, i + 1 ≤ j → la[j]? = L[j]?) := Lib.hid (fun j hj => hla.out j (by omega))
            clear hc1 hc2 hc3 hc4 hbd hCa hCb hO hB hs htt hxa hcell hcell2 hbl hbl2 hla hx
            go_loopw [12] (fun s12 wr => ∃ (k : Nat) (lb : List (List UInt8)), s12 = .int .i64 (k : Int) ∧ k ≤ x.length ∧ lb.length = L.length ∧ Hid (∀ j, i + 1 ≤ j → lb[j]? = L[j]?) ∧ Hid (∃ y : List UInt8, lb[i]? = some y ∧ y.length = x.length) ∧ Hid (Cuts wr Ba (.slice (some ⟨b, o, none⟩) L.length ca) lb ss) ∧ Hid (Cuts wr Bb (.slice (some ⟨b2, o2, none⟩) L.length cb') L sb) ∧ Hid (wr.ownsRow w.heap.size 5 1 (.slice A1 l.length c1) l.length (BS l)) ∧ Hid (Below w.heap.size w wr)) (fun s12 _ => x.length - (intOf s12).toNat)
            case atStart => exact ⟨0, la, rfl, Nat.zero_le _, hlal, HL0, HY0, HCA0, HCB0, HO0, HB0⟩
            case round =>
              clear HL0 HY0 HCA0 HCB0 HO0 HB0
              obtain ⟨k, lb, rfl, hk, hlbl, hlb, hy, hCa, hCb, hO, hB⟩ := hrel
              obtain ⟨wx, hwx⟩ : ∃ wx : World, wx = wr := ⟨_, rfl⟩
              subst hwx
              obtain ⟨b', o', n', k', hv, hbl', hcell⟩ := hCa.out.cell HS.out
              injection hv with e1 e2 e3
              injection e1 with e1
              injection e1 with e0 e1
              subst e0 e1
              clear e2 e3
              by_cases hkx : k < x.length
              · have d1 : (k : Int) < (x.length : Int) := by omega
                have d0 : (0 : Int) ≤ (k : Int) := by omega
                obtain ⟨y, hyi, hyl⟩ := hy.out
                obtain ⟨g, cg, hse, hgB, ⟨z, hz⟩, hfz, hCa2, hbel⟩ := hCa.out.poke HS.out hyi (k := k) (by omega) 9
                injection hse with f1 f2 f3
                subst f1
                have hg2 := LA.out i _ g HS.out rfl
                have hlt : Below w.heap.size w (wx.setCell ⟨g, k, none⟩ (.int .u8 9)) := hB.out.setCell (p := ⟨g, k, none⟩) (by have := HSS.out; dsimp only; omega) _
                have HCA1 : Hid (Cuts (wx.setCell ⟨g, k, none⟩ (.int .u8 9)) Ba (.slice (some ⟨b, o, none⟩) L.length ca) (lb.set i (y.set k 9)) ss) := Lib.hid hCa2
                have HCB1 : Hid (Cuts (wx.setCell ⟨g, k, none⟩ (.int .u8 9)) Bb (.slice (some ⟨b2, o2, none⟩) L.length cb') L sb) := Lib.hid (hCb.out.same fun q hq _ => set_far (by omega))
                have HO1 := Lib.hid (own_same (w' := wx.setCell ⟨g, k, none⟩ (.int .u8 9)) hO.out fun q hq => set_far (by have := (LI.out q hq).2; omega))
                have HB1 := Lib.hid hlt
                have HY1 : Hid (∃ y' : List UInt8, (lb.set i (y.set k 9))[i]? = some y' ∧ y'.length = x.length) := Lib.hid ⟨y.set k 9, by rw [List.getElem?_set_self (by rw [hlbl]; exact hiL)], by simp [hyl]⟩
                have HL1 : Hid (∀ j, i + 1 ≤ j → (lb.set i (y.set k 9))[j]? = L[j]?) := Lib.hid (fun j hj => by rw [List.getElem?_set_ne (by omega)]; exact hlb.out j hj)
                clear hCa2 hbel hlt hCa hCb hO hB hy hlb hyi hyl f2 f3 hg2
                go_wp2_with fail
                exact ⟨⟨k + 1, _, by go_num, hkx, by simp [hlbl], HL1, HY1, HCA1, HCB1, HO1, HB1⟩, by simp [intOf]; omega⟩
              · have d1 : ¬ (k : Int) < (x.length : Int) := by omega
                go_wp2_with fail
                exact ⟨⟨i + 1, lb, by go_num, hiL, hlbl, hlb, hCa, hCb, hO, hB⟩, by simp [intOf]; omega⟩
          · have b1 : ¬ (i : Int) < (L.length : Int) := by omega
            go_wp2_with fail
            exact ⟨⟨r + 1, by go_num, by omega, hO, hB⟩, by simp [intOf]; omega⟩
      · have a1 : ¬ (r : Int) < 2 := by omega
        go_wp2_with fail
        go_ret
        exact ⟨rfl, hB.out⟩
end Go.Proofs.YtfmaocinckeagaaDoor
