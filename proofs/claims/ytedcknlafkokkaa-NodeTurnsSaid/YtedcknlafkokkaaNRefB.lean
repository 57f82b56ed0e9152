/-
  A node's bytes, its size, Encode, by the document's words. No statement is proved here. No condition.
-/
import Derived.Test.YtedcknlafkokkaaNRefC
import Derived.Test.YtedcknlafkokkaaRef
import Derived.Test.YtedcknlafkokkaaNPut
namespace Go.Proofs.Ytedcknlafkokkaa
open Go.RowKit

theorem xcount_cnt (l : List UInt8) (v : Value) (n : Int) (w : World) (hr : Rd w w.heap.size v l) (hl : l.length ≤ 140737488355318) :
    Calls Try.prog 62 #[v, .int .i64 n] w fun e w' => ∃ v', e = .returned v' ∧ Rd w' w'.heap.size v' (l ++ cnt n) ∧ Below w.heap.size w w' := by
  unfold cnt
  by_cases h : 0 ≤ n ∧ n ≤ 2147483647
  · rw [if_pos h]
    refine (xcount_any l v n w hr h.1 h.2 hl).mono ?_
    rintro e w' ⟨v', he, ho, hb⟩
    exact ⟨v', he, Rd.own ho, hb⟩
  · rw [if_neg h, List.append_nil]
    refine (xcount_no l v n w hr (by omega) hl).mono ?_
    rintro e w' ⟨v', he, ho, hb⟩
    exact ⟨v', he, Rd.own ho, hb⟩
theorem xstr_tx (l : List UInt8) (v : Value) (s : ByteArray) (w : World) (hr : Rd w w.heap.size v l) (hs : s.size ≤ 10000) (hl : l.length ≤ 140737488300000) :
    Calls Try.prog 63 #[v, .string s] w fun e w' => ∃ v', e = .returned v' ∧ Rd w' w'.heap.size v' (l ++ tx s) ∧ Below w.heap.size w w' := by
  refine (xstr_any l v s w hr (by omega) (by omega)).mono ?_
  rintro e w' ⟨v', he, ho, hb⟩
  rw [tx_tv hs] at ho
  exact ⟨v', he, Rd.own ho, hb⟩
theorem xflag_fv (t : Bool) (w : World) :
    Calls Try.prog 61 #[.slice none 0 0, .bool t] w fun e w' => ∃ v', e = .returned v' ∧ Rd w' w'.heap.size v' (fv t) ∧ Below w.heap.size w w' := by
  refine (xflag_any [] (.slice none 0 0) t w (Rd.nil _ _) (by simp)).mono ?_
  rintro e w' ⟨v', he, ho, hb⟩
  rw [List.nil_append] at ho
  exact ⟨v', he, Rd.own ho, hb⟩
def byPre (n : PN) (i : Nat) : List UInt8 := fv n.leaf ++ cnt n.cells.length ++ csBy n.leaf (n.cells.take i)
theorem byPre_snoc {n : PN} {i : Nat} {c : PC} (h : n.cells[i]? = some c) : byPre n (i + 1) = byPre n i ++ c.by n.leaf := by
  unfold byPre
  rw [csBy_snoc h, ← List.append_assoc]
theorem byPre_len {n : PN} (h : n.small) (i : Nat) : (byPre n i).length ≤ 21000011 := by
  unfold byPre
  have h1 := csBy_le (leaf := n.leaf) (take_small h.each i)
  have h2 := cnt_length (n.cells.length : Int)
  have h3 := h.cells
  have h4 : (n.cells.take i).length ≤ 1000 := by rw [List.length_take]; omega
  have h5 : (fv n.leaf).length = 1 := by cases n.leaf <;> rfl
  rw [List.length_append, List.length_append, h5]
  have : (n.cells.take i).length * 21000 ≤ 1000 * 21000 := Nat.mul_le_mul_right _ h4
  omega
set_option maxHeartbeats 800000 in
set_option maxRecDepth 100000 in
theorem xbytes_any (n : PN) (v : Value) (w : World) (h : NodeN w Any v n) (hs : n.small) :
    Calls Try.prog 30 #[v] w fun e w' => ∃ v', e = .returned v' ∧ Rd w' w'.heap.size v' n.by ∧ Below w.heap.size w w' := by
  obtain ⟨vc, vk, rfl, hc, hk⟩ := h
  obtain ⟨Ac, cc, rfl, -, -⟩ := hc.slice
  obtain ⟨Ak, ck, rfl, hkl, hkm⟩ := hk.slice
  obtain ⟨lf, hlf⟩ : ∃ lf, lf = n.leaf := ⟨_, rfl⟩
  obtain ⟨w1, hw1⟩ : ∃ w1, w1 = w.alloc (.cells #[.bool n.leaf, .slice Ac n.cells.length cc, .slice Ak n.kids.length ck] 25) := ⟨_, rfl⟩
  rw [← hlf] at hw1 ⊢
  have hb1 : Below w.heap.size w w1 := by rw [hw1]; exact (Below.refl _ _).alloc (Nat.le_refl _) _
  have hx1 : w1.heap[w.heap.size]? = some (.cells #[.bool lf, .slice Ac n.cells.length cc, .slice Ak n.kids.length ck] 25 (0, 0)) := by rw [hw1]; exact heap_alloc_new w _
  have hl1 : w.heap.size < w1.heap.size := (Array.getElem?_eq_some_iff.1 hx1).1
  have hkeep : ∀ W, Below w1.heap.size w1 W → (W.cell? ⟨w.heap.size, 0, none⟩ = some (.bool lf) ∧ W.cell? ⟨w.heap.size, 1, none⟩ = some (.slice Ac n.cells.length cc) ∧ W.cell? ⟨w.heap.size, 2, none⟩ = some (.slice Ak n.kids.length ck)) ∧ CsN W Any (.slice Ac n.cells.length cc) n.cells ∧ KsN W Any (.slice Ak n.kids.length ck) n.kids ∧ Below w.heap.size w W := fun W hW => by
    have e := (hW.block _ hl1).trans hx1
    have hbW := hb1.trans (Joins.below_le hW hb1.size)
    exact ⟨⟨(row_cells e).1 0, (row_cells e).1 1, (row_cells e).1 2⟩, hc.grow hbW, hk.grow hbW, hbW⟩
  have HKEEP := Lib.hid hkeep
  have HW1 := Lib.hid hw1
  have HLF := Lib.hid hlf
  have HSM := Lib.hid hs
  have hC1 := hs.cells
  have hK1 := hs.kids
  obtain ⟨x0, x1, x2⟩ := (hkeep w1 (Below.refl _ _)).1
  have hfv : fv lf = fv n.leaf := by rw [hlf]
  have cF := xflag_fv lf w1
  rw [hfv] at cF
  clear hc hk hw1 hb1 hx1 hl1 hkeep hs hlf hfv
  go_enter Try.func30, Try.ntmps30
  go_upto_region 1 with fail
  rw [← HW1.out]
  go_wp2_with fail
  refine cF.mono ?_
  rintro e w2 ⟨v2, rfl, hr2, hb2⟩
  have HB2 := Lib.hid hb2
  have cC := xcount_cnt (fv n.leaf) v2 (n.cells.length : Int) w2 hr2 (by have : (fv n.leaf).length = 1 := by cases n.leaf <;> rfl
                                                                         omega)
  clear cF hr2 hb2 x0 x1 x2
  obtain ⟨x0, x1, x2⟩ := (HKEEP.out _ HB2.out).1
  go_wp2_with fail
  refine cC.mono ?_
  rintro e w3 ⟨v3, rfl, hr3, hb3⟩
  have HR3 : Hid (Rd w3 w3.heap.size v3 (byPre n 0)) := Lib.hid (by unfold byPre; simpa [csBy] using hr3)
  have HB3 := Lib.hid (HB2.out.trans (Joins.below_le hb3 HB2.out.size))
  clear cC hr3 hb3 x0 x1 x2 HB2
  go_wp2_with fail
  go_loopw [3, 4, 5] (fun s3 s4 _ wr => ∃ (i : Nat) (vb : Value), s4 = .int .i64 (i : Int) ∧ i ≤ n.cells.length ∧ s3 = vb ∧ Hid (Rd wr wr.heap.size vb (byPre n i)) ∧ Hid (Below w1.heap.size w1 wr)) (fun _ s4 _ _ => n.cells.length - (intOf s4).toNat)
  case atStart => exact ⟨0, _, rfl, Nat.zero_le _, rfl, HR3, HB3⟩
  case round =>
    clear HR3 HB3
    obtain ⟨i, vb, rfl, hi, hs3, hrd, hbw⟩ := hrel
    have hs3 := hs3.symm
    subst hs3
    obtain ⟨wz, hwz⟩ : ∃ wz : World, wz = wr := ⟨_, rfl⟩
    subst hwz
    obtain ⟨⟨x0, x1, x2⟩, hcz, hkz, hbz⟩ := HKEEP.out _ hbw.out
    have hpl := byPre_len HSM.out i
    by_cases hil : i < n.cells.length
    · have a1 : (i : Int) < (n.cells.length : Int) := by omega
      have a0 : (0 : Int) ≤ (i : Int) := by omega
      obtain ⟨c, hci⟩ : ∃ c, n.cells[i]? = some c := ⟨_, List.getElem?_eq_getElem hil⟩
      have hcs := HSM.out.each c (List.mem_of_getElem? hci)
      obtain ⟨b, o, n', k', hv, -, hbs, c0, c1, c2, c3⟩ := hcz.cell hci
      injection hv with e1 e2 e3
      subst e1 e2 e3
      obtain ⟨wa, hwa⟩ : ∃ wa, wa = wz.alloc (.cells #[.string c.key, .string c.val, .int .i64 c.long, .int .i64 c.size] 62) := ⟨_, rfl⟩
      have hba : Below wz.heap.size wz wa := by rw [hwa]; exact (Below.refl _ _).alloc (Nat.le_refl _) _
      have hxa : wa.heap[wz.heap.size]? = some (.cells #[.string c.key, .string c.val, .int .i64 c.long, .int .i64 c.size] 62 (0, 0)) := by rw [hwa]; exact heap_alloc_new wz _
      have hla : wz.heap.size < wa.heap.size := (Array.getElem?_eq_some_iff.1 hxa).1
      have hV : ∀ W, Below wa.heap.size wa W → (W.cell? ⟨w.heap.size, 0, none⟩ = some (.bool lf) ∧ W.cell? ⟨w.heap.size, 1, none⟩ = some (.slice (some ⟨b, o, none⟩) n.cells.length cc)) ∧ (W.cell? ⟨wz.heap.size, 0, none⟩ = some (.string c.key) ∧ W.cell? ⟨wz.heap.size, 1, none⟩ = some (.string c.val) ∧ W.cell? ⟨wz.heap.size, 2, none⟩ = some (.int .i64 c.long) ∧ W.cell? ⟨wz.heap.size, 3, none⟩ = some (.int .i64 c.size)) ∧ Below w1.heap.size w1 W := fun W hW => by
        have e := (hW.block _ hla).trans hxa
        have h1 := (hbw.out.trans (Joins.below_le hba hbw.out.size))
        have h2 := h1.trans (Joins.below_le hW h1.size)
        obtain ⟨⟨y0, y1, -⟩, -⟩ := HKEEP.out _ h2
        exact ⟨⟨y0, y1⟩, ⟨(row_cells e).1 0, (row_cells e).1 1, (row_cells e).1 2, (row_cells e).1 3⟩, h2⟩
      have HV := Lib.hid hV
      have HWA := Lib.hid hwa
      have hra : Rd wa wa.heap.size vb (byPre n i) := hrd.out.below hba hba.size
      have cS := xstr_tx (byPre n i) vb c.key wa hra hcs.1 (by omega)
      have hkb := tx_length c.key
      have hkc := cnt_length (c.key.size : Int)
      have hvb := tx_length c.val
      have hvc := cnt_length (c.val.size : Int)
      have hlb := cnt_length c.long
      have hsb := cnt_length c.size
      have hsz1 := hcs.1
      have hsz2 := hcs.2
      have HNEXT : Hid (byPre n (i + 1) = byPre n i ++ c.by n.leaf) := Lib.hid (byPre_snoc hci)
      clear hV hwa hba hxa hla hra hrd hcz hkz hbz hci hcs x0 x2
      go_upto_region 7 with fail
      rw [← HWA.out]
      clear x1 c0 c1 c2 c3
      obtain ⟨⟨x0, x1⟩, ⟨y0, y1, y2, y3⟩, hb1a⟩ := HV.out _ (Below.refl _ _)
      clear hb1a
      go_wp2_with fail
      refine cS.mono ?_
      rintro e w4 ⟨v4, rfl, hr4, hb4⟩
      have HB4 := Lib.hid hb4
      clear cS x0 x1 y0 y1 y2 y3 hb4
      obtain ⟨⟨x0, x1⟩, ⟨y0, y1, y2, y3⟩, hb14⟩ := HV.out _ HB4.out
      cases lf with
      | false =>
        have hby : byPre n (i + 1) = byPre n i ++ tx c.key := by rw [HNEXT.out, ← HLF.out]; simp [PC.by]
        have HR : Hid (Rd w4 w4.heap.size v4 (byPre n (i + 1))) := Lib.hid (by rw [hby]; exact hr4)
        have HB14 := Lib.hid hb14
        clear hr4 hby hb14
        go_wp2_with fail
        exact ⟨⟨i + 1, _, by go_num, hil, rfl, HR, HB14⟩, by simp [intOf]; omega⟩
      | true =>
        have cL := xcount_cnt (byPre n i ++ tx c.key) v4 c.long w4 hr4 (by rw [List.length_append]; omega)
        clear hr4 hb14
        go_wp2_with fail
        refine cL.mono ?_
        rintro e w5 ⟨v5, rfl, hr5, hb5⟩
        have HB5 := Lib.hid (HB4.out.trans (Joins.below_le hb5 HB4.out.size))
        clear cL hb5 x0 x1 y0 y1 y2 y3
        obtain ⟨⟨x0, x1⟩, ⟨y0, y1, y2, y3⟩, hb15⟩ := HV.out _ HB5.out
        by_cases hl0 : c.long = 0
        · have hby : byPre n (i + 1) = ((byPre n i ++ tx c.key) ++ cnt c.long) ++ tx c.val := by rw [HNEXT.out, ← HLF.out]; simp [PC.by, hl0]
          have cV := xstr_tx ((byPre n i ++ tx c.key) ++ cnt c.long) v5 c.val w5 hr5 hsz2 (by rw [List.length_append, List.length_append]; omega)
          rw [← hby] at cV
          clear hr5 hby hb15
          go_wp2_with fail
          refine cV.mono ?_
          rintro e w6 ⟨v6, rfl, hr6, hb6⟩
          have hb16 := (HV.out _ (HB5.out.trans (Joins.below_le hb6 HB5.out.size))).2.2
          have HR := Lib.hid hr6
          have HB16 := Lib.hid hb16
          clear cV hr6 hb6 hb16
          go_wp2_with fail
          exact ⟨⟨i + 1, _, by go_num, hil, rfl, HR, HB16⟩, by simp [intOf]; omega⟩
        · have hby : byPre n (i + 1) = ((byPre n i ++ tx c.key) ++ cnt c.long) ++ cnt c.size := by rw [HNEXT.out, ← HLF.out]; simp [PC.by, hl0]
          have cV := xcount_cnt ((byPre n i ++ tx c.key) ++ cnt c.long) v5 c.size w5 hr5 (by rw [List.length_append, List.length_append]; omega)
          rw [← hby] at cV
          clear hr5 hby hb15
          go_wp2_with fail
          refine cV.mono ?_
          rintro e w6 ⟨v6, rfl, hr6, hb6⟩
          have hb16 := (HV.out _ (HB5.out.trans (Joins.below_le hb6 HB5.out.size))).2.2
          have HR := Lib.hid hr6
          have HB16 := Lib.hid hb16
          clear cV hr6 hb6 hb16
          go_wp2_with fail
          exact ⟨⟨i + 1, _, by go_num, hil, rfl, HR, HB16⟩, by simp [intOf]; omega⟩
    · have a1 : ¬ (i : Int) < (n.cells.length : Int) := by omega
      have hie : i = n.cells.length := by omega
      have hpe : byPre n i = fv n.leaf ++ cnt n.cells.length ++ csBy n.leaf n.cells := by unfold byPre; rw [List.take_of_length_le (by omega)]
      have HR0 := hrd.out
      obtain ⟨P0, hP0⟩ : ∃ P0, P0 = byPre n i := ⟨_, rfl⟩
      rw [← hP0] at HR0 hpl hpe
      have HRP : Hid (Rd wz wz.heap.size vb (P0 ++ ksBy (n.kids.take 0))) := Lib.hid (by simpa [ksBy] using HR0)
      have HPE := Lib.hid hpe
      have HBW := Lib.hid hbw.out
      clear hrd HR0 hP0 hpe hie hcz hkz hbz hbw
      cases lf with
      | true =>
        have hby : n.by = P0 := by rw [HPE.out]; unfold PN.by; rw [← HLF.out]; simp
        have HR : Hid (Rd wz wz.heap.size vb n.by) := Lib.hid (by rw [hby]; simpa [ksBy] using HRP.out)
        have HF := Lib.hid (HKEEP.out _ HBW.out).2.2.2
        clear hby HRP
        go_wp2_with fail
        go_loopw [3, 6] (fun s3 s6 wr => s3 = vb ∧ s6 = .int .i64 0 ∧ wr = wz) (fun _ _ _ => 0)
        case atStart => exact ⟨rfl, rfl, rfl⟩
        case round =>
          obtain ⟨rfl, rfl, rfl⟩ := hrel
          by_cases hk0 : (0 : Int) < (n.kids.length : Int)
          · go_wp2_with fail
            go_ret
            exact ⟨_, rfl, HR.out, HF.out⟩
          · go_wp2_with fail
            go_ret
            exact ⟨_, rfl, HR.out, HF.out⟩
      | false =>
        have hby : n.by = P0 ++ ksBy n.kids := by rw [HPE.out]; unfold PN.by; rw [← HLF.out]; simp
        have HBY := Lib.hid hby
        clear hby
        go_wp2_with fail
        go_loopw [3, 6] (fun s3 s6 wr => ∃ (j : Nat) (vd : Value), s6 = .int .i64 (j : Int) ∧ j ≤ n.kids.length ∧ s3 = vd ∧ Hid (Rd wr wr.heap.size vd (P0 ++ ksBy (n.kids.take j))) ∧ Hid (Below w1.heap.size w1 wr)) (fun _ s6 _ => n.kids.length - (intOf s6).toNat)
        case atStart => exact ⟨0, _, rfl, Nat.zero_le _, rfl, HRP, HBW⟩
        case round =>
          clear HRP HBW x0 x1 x2
          obtain ⟨j, vd, rfl, hj, hs3, hrd, hbw⟩ := hrel
          have hs3 := hs3.symm
          subst hs3
          obtain ⟨wv, hwv⟩ : ∃ wv : World, wv = wr := ⟨_, rfl⟩
          subst hwv
          obtain ⟨⟨x0, x1, x2⟩, hcz, hkz, hbz⟩ := HKEEP.out _ hbw.out
          by_cases hjl : j < n.kids.length
          · have b1 : (j : Int) < (n.kids.length : Int) := by omega
            have b0 : (0 : Int) ≤ (j : Int) := by omega
            obtain ⟨k, hkj⟩ : ∃ k, n.kids[j]? = some k := ⟨_, List.getElem?_eq_getElem hjl⟩
            obtain ⟨b, o, n', k', hv, -, hbs, c0⟩ := hkz.cell hkj
            injection hv with e1 e2 e3
            subst e1 e2 e3
            have hkl2 := ksBy_le (n.kids.take j)
            have hkt : (n.kids.take j).length ≤ 1000 := by rw [List.length_take]; omega
            have cK := xcount_cnt (P0 ++ ksBy (n.kids.take j)) vd k wv hrd.out (by rw [List.length_append]; omega)
            rw [List.append_assoc, ← ksBy_snoc hkj] at cK
            clear hrd hcz hkz hbz hkj
            go_wp2_with fail
            refine cK.mono ?_
            rintro e w6 ⟨v6, rfl, hr6, hb6⟩
            have HR := Lib.hid hr6
            have HB16 := Lib.hid (hbw.out.trans (Joins.below_le hb6 hbw.out.size))
            clear cK hr6 hb6 hbw
            go_wp2_with fail
            exact ⟨⟨j + 1, _, by go_num, hjl, rfl, HR, HB16⟩, by simp [intOf]; omega⟩
          · have b1 : ¬ (j : Int) < (n.kids.length : Int) := by omega
            have HR : Hid (Rd wv wv.heap.size vd n.by) := Lib.hid (by have := hrd.out; rw [List.take_of_length_le (by omega)] at this; rw [HBY.out]; exact this)
            have HF := Lib.hid hbz
            clear hrd hcz hkz hbz
            go_wp2_with fail
            go_ret
            exact ⟨_, rfl, HR.out, HF.out⟩
theorem refsize_any (n : PN) (v : Value) (w : World) (h : NodeN w Any v n) (hs : n.small) :
    Calls Try.prog 16 #[v] w fun e w' => e = .returned (.int .i64 (n.size : Int)) ∧ Below w.heap.size w w' := by
  obtain ⟨vc, vk, rfl, hc, hk⟩ := id h
  obtain ⟨Ac, cc, rfl, -, -⟩ := hc.slice
  obtain ⟨Ak, ck, rfl, -, -⟩ := hk.slice
  obtain ⟨w1, hw1⟩ : ∃ w1, w1 = w.alloc (.cells #[.bool n.leaf, .slice Ac n.cells.length cc, .slice Ak n.kids.length ck] 25) := ⟨_, rfl⟩
  have hb1 : Below w.heap.size w w1 := by rw [hw1]; exact (Below.refl _ _).alloc (Nat.le_refl _) _
  have hx1 : w1.heap[w.heap.size]? = some (.cells #[.bool n.leaf, .slice Ac n.cells.length cc, .slice Ak n.kids.length ck] 25 (0, 0)) := by rw [hw1]; exact heap_alloc_new w _
  have hl1 : w.heap.size < w1.heap.size := (Array.getElem?_eq_some_iff.1 hx1).1
  have hkeep : ∀ W, Below w1.heap.size w1 W → (W.cell? ⟨w.heap.size, 0, none⟩ = some (.bool n.leaf) ∧ W.cell? ⟨w.heap.size, 1, none⟩ = some (.slice Ac n.cells.length cc) ∧ W.cell? ⟨w.heap.size, 2, none⟩ = some (.slice Ak n.kids.length ck)) ∧ NodeN W Any (.agg #[.bool n.leaf, .slice Ac n.cells.length cc, .slice Ak n.kids.length ck]) n ∧ Below w.heap.size w W := fun W hW => by
    have e := (hW.block _ hl1).trans hx1
    have hbW := hb1.trans (Joins.below_le hW hb1.size)
    exact ⟨⟨(row_cells e).1 0, (row_cells e).1 1, (row_cells e).1 2⟩, h.grow hbW, hbW⟩
  have HKEEP := Lib.hid hkeep
  have HW1 := Lib.hid hw1
  obtain ⟨⟨x0, x1, x2⟩, hn1, -⟩ := hkeep w1 (Below.refl _ _)
  have cC := refcheck_any n _ w1 hn1 (by have := hs.cells; omega)
  obtain ⟨K, hK⟩ : ∃ K, K = n.chk := ⟨_, rfl⟩
  have hsize : n.size = if K = true then n.by.length else 0 := by rw [hK]; rfl
  rw [← hK] at cC
  have HSZ := Lib.hid hsize
  clear h hc hk hw1 hb1 hx1 hl1 hkeep hn1 hK hsize
  go_enter Try.func16, Try.ntmps16
  go_upto_region 1 with fail
  rw [← HW1.out]
  go_wp2_with fail
  refine cC.mono ?_
  rintro e w2 ⟨rfl, hb2⟩
  clear cC x0 x1 x2
  obtain ⟨⟨x0, x1, x2⟩, hn2, hbf⟩ := HKEEP.out _ hb2
  cases K with
  | false =>
    have HF := Lib.hid hbf
    clear hb2 hn2 hbf
    go_wp2_with fail
    go_ret
    exact ⟨by rw [HSZ.out]; first | rfl | simp, HF.out⟩
  | true =>
    have cB := xbytes_any n _ w2 hn2 hs
    have HB2 := Lib.hid hb2
    clear hb2 hn2 hbf
    go_wp2_with fail
    refine cB.mono ?_
    rintro e w3 ⟨v3, rfl, hr3, hb3⟩
    obtain ⟨A3, c3, rfl, -⟩ := hr3
    have HF := Lib.hid (HKEEP.out _ (HB2.out.trans (Joins.below_le hb3 HB2.out.size))).2.2
    clear cB hb3
    go_wp2_with fail
    go_ret
    exact ⟨by rw [HSZ.out]; first | rfl | simp, HF.out⟩
set_option maxRecDepth 100000 in
theorem refencode_any (n : PN) (v : Value) (w : World) (h : NodeN w Any v n) (hs : n.small) :
    Calls Try.prog 11 #[v] w fun e w' => ∃ v', e = .returned (.tuple #[v', .int .i64 n.err]) ∧ Rd w' w'.heap.size v' (if n.err = 0 then n.by else []) ∧ Below w.heap.size w w' := by
  obtain ⟨er, her⟩ : ∃ er, er = n.err := ⟨_, rfl⟩
  obtain ⟨ob, hob⟩ : ∃ ob, ob = if n.err = 0 then n.by else [] := ⟨_, rfl⟩
  rw [← hob, ← her]
  rw [← her] at hob
  obtain ⟨vc, vk, rfl, hc, hk⟩ := id h
  obtain ⟨Ac, cc, rfl, -, -⟩ := hc.slice
  obtain ⟨Ak, ck, rfl, -, -⟩ := hk.slice
  obtain ⟨w1, hw1⟩ : ∃ w1, w1 = w.alloc (.cells #[.bool n.leaf, .slice Ac n.cells.length cc, .slice Ak n.kids.length ck] 25) := ⟨_, rfl⟩
  have hb1 : Below w.heap.size w w1 := by rw [hw1]; exact (Below.refl _ _).alloc (Nat.le_refl _) _
  have hx1 : w1.heap[w.heap.size]? = some (.cells #[.bool n.leaf, .slice Ac n.cells.length cc, .slice Ak n.kids.length ck] 25 (0, 0)) := by rw [hw1]; exact heap_alloc_new w _
  have hl1 : w.heap.size < w1.heap.size := (Array.getElem?_eq_some_iff.1 hx1).1
  have hkeep : ∀ W, Below w1.heap.size w1 W → (W.cell? ⟨w.heap.size, 0, none⟩ = some (.bool n.leaf) ∧ W.cell? ⟨w.heap.size, 1, none⟩ = some (.slice Ac n.cells.length cc) ∧ W.cell? ⟨w.heap.size, 2, none⟩ = some (.slice Ak n.kids.length ck)) ∧ NodeN W Any (.agg #[.bool n.leaf, .slice Ac n.cells.length cc, .slice Ak n.kids.length ck]) n ∧ Below w.heap.size w W := fun W hW => by
    have e := (hW.block _ hl1).trans hx1
    have hbW := hb1.trans (Joins.below_le hW hb1.size)
    exact ⟨⟨(row_cells e).1 0, (row_cells e).1 1, (row_cells e).1 2⟩, h.grow hbW, hbW⟩
  have HKEEP := Lib.hid hkeep
  have HW1 := Lib.hid hw1
  obtain ⟨⟨x0, x1, x2⟩, hn1, -⟩ := hkeep w1 (Below.refl _ _)
  have cC := refcheck_any n _ w1 hn1 (by have := hs.cells; omega)
  obtain ⟨K, hK⟩ : ∃ K, K = n.chk := ⟨_, rfl⟩
  have herr : er = if K = true then (if 512 < n.by.length then 40 else 0) else 4 := by rw [her, hK]; rfl
  have HOB := Lib.hid hob
  rw [← hK] at cC
  have HER := Lib.hid herr
  clear h hc hk hw1 hb1 hx1 hl1 hkeep hn1 hK herr her hob
  go_enter Try.func11, Try.ntmps11
  go_upto_region 1 with fail
  rw [← HW1.out]
  go_wp2_with fail
  refine cC.mono ?_
  rintro e w2 ⟨rfl, hb2⟩
  clear cC x0 x1 x2
  obtain ⟨⟨x0, x1, x2⟩, hn2, hbf⟩ := HKEEP.out _ hb2
  cases K with
  | false =>
    have he : er = 4 := by rw [HER.out]; simp
    have ho : ob = [] := by rw [HOB.out, he]; simp
    have HE := Lib.hid he
    have HO := Lib.hid ho
    have HF := Lib.hid hbf
    clear hb2 hn2 hbf he ho
    go_wp2_with fail
    go_ret2
    refine ⟨.slice none 0 0, by rw [HE.out]; rfl, by rw [HO.out]; exact Rd.nil _ _, HF.out⟩
  | true =>
    have cB := xbytes_any n _ w2 hn2 hs
    have HB2 := Lib.hid hb2
    clear hb2 hn2 hbf
    go_wp2_with fail
    refine cB.mono ?_
    rintro e w3 ⟨v3, rfl, hr3, hb3⟩
    obtain ⟨A3, c3, rfl, -⟩ := id hr3
    have HF := Lib.hid (HKEEP.out _ (HB2.out.trans (Joins.below_le hb3 HB2.out.size))).2.2
    have HR := Lib.hid hr3
    clear cB hb3 hr3
    by_cases h5 : 512 < n.by.length
    · have a1 : (512 : Int) < (n.by.length : Int) := by omega
      have he : er = 40 := by rw [HER.out]; simp [h5]
      have ho : ob = [] := by rw [HOB.out, he]; simp
      have HE := Lib.hid he
      have HO := Lib.hid ho
      clear he ho
      go_wp2_with fail
      go_ret2
      refine ⟨.slice none 0 0, by rw [HE.out]; rfl, by rw [HO.out]; exact Rd.nil _ _, HF.out⟩
    · have a1 : ¬ (512 : Int) < (n.by.length : Int) := by omega
      have he : er = 0 := by rw [HER.out]; simp [h5]
      have ho : ob = n.by := by rw [HOB.out, he]; simp
      have HE := Lib.hid he
      have HO := Lib.hid ho
      clear he ho
      go_wp2_with fail
      go_ret2
      refine ⟨_, by rw [HE.out]; rfl, by rw [HO.out]; exact HR.out, HF.out⟩
end Go.Proofs.Ytedcknlafkokkaa
