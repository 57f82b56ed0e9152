/-
  A node as bytes: the program's Encode. No statement is proved here. No condition.
-/
import Derived.Test.YtedcknlafkokkaaNCell
namespace Go.Proofs.Ytedcknlafkokkaa
open Go.RowKit

noncomputable def PN.err (n : PN) : Int := if n.chk = true then (if 512 < n.by.length then 40 else 0) else 4
/-- what Encode tells -/
def EncV (w w' : World) (n : PN) (v : Value) : Prop := (n.err = 0 → w'.ownsRow w.heap.size 5 1 v n.by.length (BS n.by)) ∧ (¬ n.err = 0 → v = .slice none 0 0)
theorem own_nil (w : World) (base : Nat) : w.ownsRow base 5 1 (.slice none 0 0) 0 (BS []) := ⟨rfl, .inl ⟨rfl, rfl⟩⟩
theorem own_base {w : World} {b c : Nat} {e : TypeId} {size : Nat} {v : Value} {n : Nat} {xs : List Value} (h : w.ownsRow b e size v n xs) (hc : c ≤ b) : w.ownsRow c e size v n xs := by
  refine ⟨h.1, ?_⟩
  rcases h.2 with h0 | ⟨g, cap, cur, h1, h2, h3⟩
  · exact .inl h0
  · exact .inr ⟨g, cap, cur, h1, Nat.le_trans hc h2, h3⟩
set_option maxRecDepth 100000 in
theorem encode_any (n : PN) (v : Value) (w : World) (h : NodeN w Any v n) (hs : n.small) :
    Calls Try.prog 12 #[v] w fun e w' => ∃ v', e = .returned (.tuple #[v', .int .i64 n.err]) ∧ EncV w w' n v' ∧ Below w.heap.size w w' := by
  have cC := fun W hW => size_any n v W hW hs
  obtain ⟨vc, vk, rfl, hc, hk⟩ := id h
  obtain ⟨Ac, cc, rfl, -, -⟩ := hc.slice
  obtain ⟨Ak, ck, rfl, hkl, hkm⟩ := hk.slice
  unfold maxLen at hkm
  have hlc := hs.cells
  have hlk := hs.kids
  have HC := Lib.hid hc
  have HK := Lib.hid hk
  have HE := Lib.hid hs.each
  have HH := Lib.hid h
  clear hc hk h hs
  obtain ⟨w1, hw1⟩ : ∃ w1, w1 = w.alloc (.cells #[.bool n.leaf, .slice Ac n.cells.length cc, .slice Ak n.kids.length ck] 31) := ⟨_, rfl⟩
  have hb1 : Below w.heap.size w w1 := by rw [hw1]; exact (Below.refl _ _).alloc (Nat.le_refl _) _
  have hx1 : w1.heap[w.heap.size]? = some (.cells #[.bool n.leaf, .slice Ac n.cells.length cc, .slice Ak n.kids.length ck] 31 (0, 0)) := by rw [hw1]; exact heap_alloc_new w _
  have cC1 := cC w1 (HH.out.grow hb1)
  rw [hw1] at cC1
  have HW1 := Lib.hid hw1
  clear cC hw1
  obtain ⟨z, hz⟩ : ∃ z, z = n.size := ⟨_, rfl⟩
  rw [← hz] at cC1
  have HZ := Lib.hid hz
  clear hz
  go_enter Try.func12, Try.ntmps12
  go_wp2_with fail
  refine cC1.mono ?_
  rintro e w2 ⟨rfl, hb2⟩
  rw [← HW1.out] at hb2
  have hbw : Below w.heap.size w w2 := hb1.trans (Joins.below_le hb2 hb1.size)
  have hx2 := (hb2.block _ (boxed hx1)).trans hx1
  clear cC1 hb1 hx1 hb2 HW1
  by_cases hch : n.chk = true
  · have hsz : z = n.by.length := by rw [HZ.out]; unfold PN.size; rw [if_pos hch]
    have hm := n.chk_iff.1 hch
    have hpos : 1 ≤ n.by.length := by unfold PN.by fv; simp
    by_cases h512 : (512 : Int) < (z : Int)
    · have z0 : ¬ (z : Int) = 0 := by omega
      have herr : n.err = 40 := by unfold PN.err; rw [if_pos hch, if_pos (by omega)]
      have HERR := Lib.hid herr
      clear herr
      go_wp2_with fail
      go_ret2
      exact ⟨_, by rw [HERR.out]; rfl, ⟨fun h0 => by rw [HERR.out] at h0; omega, fun _ => rfl⟩, hbw⟩
    · have z0 : ¬ (z : Int) = 0 := by omega
      have herr : n.err = 0 := by unfold PN.err; rw [if_pos hch, if_neg (by omega)]
      have HERR := Lib.hid herr
      have HM := Lib.hid hm
      have HSZ := Lib.hid hsz
      have h512' : n.by.length ≤ 512 := by omega
      have HBW := Lib.hid hbw
      have HX2 := Lib.hid hx2
      have x0 : w2.cell? ⟨w.heap.size, 0, none⟩ = some (.bool n.leaf) := (row_cells hx2).1 0
      have x1 : w2.cell? ⟨w.heap.size, 1, none⟩ = some (.slice Ac n.cells.length cc) := (row_cells hx2).1 1
      have hlt := boxed hx2
      clear herr hm hsz hbw hx2
      go_upto_region 6 with fail
      have hk : ∀ W, Below w2.heap.size w2 W → W.cell? ⟨w.heap.size, 0, none⟩ = some (.bool n.leaf) ∧ W.cell? ⟨w.heap.size, 1, none⟩ = some (.slice Ac n.cells.length cc) := fun W hW => ⟨(hW.cell (p := ⟨w.heap.size, 0, none⟩) hlt).trans x0, (hW.cell (p := ⟨w.heap.size, 1, none⟩) hlt).trans x1⟩
      have HK2 := Lib.hid hk
      have hst := hk _ (Below.refl _ _).drew
      have hbe : Below w2.heap.size w2 w2.drew := (Below.refl _ _).drew
      have hput : ∀ (wy : World), Below w2.heap.size w2 wy → ∀ va vb la lb, la ++ lb = fv n.leaf ++ cnt n.cells.length → BN wy (fun b => w2.heap.size ≤ b) va la → BN wy (fun b => w2.heap.size ≤ b) vb lb → Calls Try.prog 31 #[.slice none 0 0, .slice (some ⟨wy.heap.size, 0, none⟩) 2 2] (wy.alloc (.cells #[va, vb] 26)) fun e w' => ∃ v', e = .returned v' ∧ w'.ownsRow w2.heap.size 5 1 v' (fv n.leaf ++ cnt n.cells.length).length (BS (fv n.leaf ++ cnt n.cells.length)) ∧ Below w2.heap.size w2 w' := by
        intro wy hby va vb la lb hab ha hb
        have hlen : la.length + lb.length ≤ 20 := by
          rw [← List.length_append, hab, List.length_append]
          have := cnt_length (n.cells.length : Int)
          unfold fv
          simp
          omega
        refine (put_two [] (.slice none 0 0) w2.heap.size wy va vb la lb (own_nil _ _) hby.size (RowN.mono ha fun b h hl e => by cases e) (RowN.mono hb fun b h hl e => by cases e) (by simp; omega)).mono ?_
        rintro e w' ⟨v', he, ho', hp'⟩
        rw [List.nil_append, hab] at ho'
        exact ⟨v', he, ho', hby.trans (Puts.below (base := w2.heap.size) hp' hby.size (fun b hb => by cases hb))⟩
      have HPUT := Lib.hid hput
      clear hk hput x0 x1
      go_region_held3 (fun w' => w'.cell? ⟨w.heap.size, 0, none⟩ = some (.bool n.leaf) ∧ w'.cell? ⟨w.heap.size, 1, none⟩ = some (.slice Ac n.cells.length cc)) (first | exact hst | exact HK2.out _ hbe | exact HK2.out _ (hbe.alloc hbe.size _))
        (first
          | (go_at_call 32; refine (cFlag _ _).mono ?_; rintro e wy ⟨Aa, ma, da, rfl, hna, hby⟩; (try replace hnb := RowN.grow hnb hby); replace hna := RowN.mono hna (fun b h hl => Nat.le_trans hbe.size h); replace hbe := hbe.trans (Joins.below_le hby hbe.size))
          | (go_at_call 33; refine (cCount _ _).mono ?_; rintro e wy ⟨Ab, mb, db, rfl, hnb, hby⟩; (try replace hna := RowN.grow hna hby); replace hnb := RowN.mono hnb (fun b h hl => Nat.le_trans hbe.size h); replace hbe := hbe.trans (Joins.below_le hby hbe.size))
          | (go_at_call 31; refine (HPUT.out _ hbe _ _ _ _ rfl hna hnb).mono ?_; rintro e w3 ⟨v3, rfl, ho3, hbe⟩))
      all_goals
        have hb03 : Below w.heap.size w w3 := HBW.out.trans (Joins.below_le hbe HBW.out.size)
        have hx3 := (hbe.block _ hlt).trans HX2.out
        have HO3 : Hid (w3.ownsRow w2.heap.size 5 1 v3 (fv n.leaf ++ cnt n.cells.length ++ csBy n.leaf (n.cells.take 0)).length (BS (fv n.leaf ++ cnt n.cells.length ++ csBy n.leaf (n.cells.take 0)))) := Lib.hid (by simpa [csBy] using ho3)
        have HB03 := Lib.hid hb03
        have HX3 := Lib.hid hx3
        have hs23 := hbe.size
        have x1 : w3.cell? ⟨w.heap.size, 1, none⟩ = some (.slice Ac n.cells.length cc) := (row_cells hx3).1 1
        clear hst hna hnb hby ho3 hbe hb03 hx3
        go_wp2_with fail
        go_loopw [5, 7, 30] (fun s5 _ s30 wr => ∃ i : Nat, s30 = .int .i64 (i : Int) ∧ i ≤ n.cells.length ∧ Hid (wr.ownsRow w2.heap.size 5 1 s5 (fv n.leaf ++ cnt n.cells.length ++ csBy n.leaf (n.cells.take i)).length (BS (fv n.leaf ++ cnt n.cells.length ++ csBy n.leaf (n.cells.take i)))) ∧ Hid (Below w.heap.size w wr) ∧ Hid (wr.heap[w.heap.size]? = some (.cells #[.bool n.leaf, .slice Ac n.cells.length cc, .slice Ak n.kids.length ck] 31 (0, 0))) ∧ w2.heap.size ≤ wr.heap.size) (fun _ _ s30 _ => n.cells.length - (intOf s30).toNat)
        case atStart => exact ⟨0, rfl, Nat.zero_le _, HO3, HB03, HX3, hs23⟩
        case round =>
          clear HO3 HB03 HX3 x1 HX2 HBW HPUT HK2
          obtain ⟨i, rfl, hi, ho, hbw, hx, hs2⟩ := hrel
          obtain ⟨wz, hwz⟩ : ∃ wz : World, wz = wr := ⟨_, rfl⟩
          subst hwz
          have hltz := boxed hx.out
          have hle := csBy_le (leaf := n.leaf) (take_small HE.out i)
          rw [List.length_take, Nat.min_eq_left hi] at hle
          obtain ⟨pre, hpre⟩ : ∃ pre, pre = fv n.leaf ++ cnt n.cells.length := ⟨_, rfl⟩
          have hprel : pre.length ≤ 20 := by
            rw [hpre, List.length_append]
            have := cnt_length (n.cells.length : Int)
            unfold fv
            simp
            omega
          rw [← hpre] at ho ⊢
          have HPRE := Lib.hid hpre
          clear hpre
          by_cases hil : i < n.cells.length
          · have a1 : (i : Int) < (n.cells.length : Int) := by omega
            have a0 : (0 : Int) ≤ (i : Int) := by omega
            obtain ⟨c, hci⟩ : ∃ c, n.cells[i]? = some c := ⟨_, List.getElem?_eq_getElem hil⟩
            have hcs := HE.out c (List.mem_of_getElem? hci)
            obtain ⟨b, o, n', k', hv, -, hbs, c0, c1, c2, c3⟩ := (HC.out.grow hbw.out).cell hci
            injection hv with e1 e2 e3
            subst e1 e2 e3
            have x0 : wz.cell? ⟨w.heap.size, 0, none⟩ = some (.bool n.leaf) := (row_cells hx.out).1 0
            have hcl := PC.by_length n.leaf hcs
            have hsn := csBy_snoc (leaf := n.leaf) hci
            obtain ⟨wa, hwa⟩ : ∃ wa, wa = wz.alloc (.cells #[.string c.key, .string c.val, .int .i64 c.long, .int .i64 c.size] 59) := ⟨_, rfl⟩
            have hba : Below wz.heap.size wz wa := by rw [hwa]; exact (Below.refl _ _).alloc (Nat.le_refl _) _
            have hsa := hba.size
            have cP := putcell_any (pre ++ csBy n.leaf (n.cells.take i)) u5 w2.heap.size c n.leaf wa (row_same ho.out fun p hp => hba.block p (ho.out.lt p hp).2) (by omega) hcs (by rw [List.length_append]; omega)
            have e4 : (pre ++ csBy n.leaf (n.cells.take i)) ++ c.by n.leaf = pre ++ csBy n.leaf (n.cells.take (i + 1)) := by rw [hsn, List.append_assoc]
            rw [e4, hwa] at cP
            unfold PC.agg at cP
            have HWA := Lib.hid hwa
            have HBA := Lib.hid hba
            clear hsn e4 hwa hba
            go_wp2_with fail
            refine cP.mono ?_
            rintro e w4 ⟨v4, rfl, ho4, hp4⟩
            rw [← HWA.out] at hp4
            have hvo : ∀ b, u5.ownBlock = some b → w2.heap.size ≤ b := fun b hb => (ho.out.lt b hb).1
            have hpz : Puts wz w4 u5 v4 := Puts.after HBA.out hp4
            have hb4 : Below w2.heap.size wz w4 := hpz.below hs2 hvo
            have HO4 := Lib.hid ho4
            have HB4 := Lib.hid (hbw.out.trans (Joins.below_le hb4 (by omega)))
            have HX4 := Lib.hid ((hb4.block _ hlt).trans hx.out)
            have hs4 := hb4.size
            clear cP ho4 hp4 hvo hpz hb4
            go_wp2_with fail
            exact ⟨⟨i + 1, by go_num, hil, HO4, HB4, HX4, by omega⟩, by simp [intOf]; omega⟩
          · have a1 : ¬ (i : Int) < (n.cells.length : Int) := by omega
            have hie : i = n.cells.length := by omega
            have ho' := ho.out
            rw [hie, List.take_length] at ho'
            have HO' := Lib.hid ho'
            have x2 : wz.cell? ⟨w.heap.size, 2, none⟩ = some (.slice Ak n.kids.length ck) := (row_cells hx.out).1 2
            clear ho' ho hie
            have hcl := csBy_le (leaf := n.leaf) HE.out
            obtain ⟨q, hq⟩ : ∃ q, q = pre ++ csBy n.leaf n.cells := ⟨_, rfl⟩
            have hql : q.length ≤ 21000020 := by rw [hq, List.length_append]; omega
            rw [← hq] at HO'
            have HQ := Lib.hid hq
            have HOQ : Hid (wz.ownsRow w2.heap.size 5 1 u5 (q ++ ksBy (n.kids.take 0)).length (BS (q ++ ksBy (n.kids.take 0)))) := Lib.hid (by simpa [ksBy] using HO'.out)
            clear hq hcl hle HO' hx hltz
            go_wp2_with fail
            go_loopw [5, 9, 43] (fun s5 _ s43 wr => ∃ j : Nat, s43 = .int .i64 (j : Int) ∧ j ≤ n.kids.length ∧ Hid (wr.ownsRow w2.heap.size 5 1 s5 (q ++ ksBy (n.kids.take j)).length (BS (q ++ ksBy (n.kids.take j)))) ∧ Hid (Below w.heap.size w wr) ∧ w2.heap.size ≤ wr.heap.size) (fun _ _ s43 _ => n.kids.length - (intOf s43).toNat)
            case atStart => exact ⟨0, rfl, Nat.zero_le _, HOQ, hbw, hs2⟩
            case round =>
              clear HOQ hbw x2 hs2
              obtain ⟨j, rfl, hj, ho, hbw, hs2⟩ := hrel
              rename World => wz2
              have hle := ksBy_le (n.kids.take j)
              rw [List.length_take, Nat.min_eq_left hj] at hle
              by_cases hjl : j < n.kids.length
              · have b1 : (j : Int) < (n.kids.length : Int) := by omega
                have b0 : (0 : Int) ≤ (j : Int) := by omega
                obtain ⟨k, hkj⟩ : ∃ k, n.kids[j]? = some k := ⟨_, List.getElem?_eq_getElem hjl⟩
                obtain ⟨b, o, n', k', hv, -, hbs, c0⟩ := (HK.out.grow hbw.out).cell hkj
                injection hv with e1 e2 e3
                subst e1 e2 e3
                have hcl := cnt_length k
                have hsn := ksBy_snoc hkj
                have e4 : (q ++ ksBy (n.kids.take j)) ++ cnt k = q ++ ksBy (n.kids.take (j + 1)) := by rw [hsn, List.append_assoc]
                have HE4 := Lib.hid e4
                clear hsn e4
                go_wp2_with fail
                refine (cCount k _).mono ?_
                rintro e w4 ⟨A4, m4, d4, rfl, hn4, hb4⟩
                have hs4 := hb4.size
                have cP := put_one (q ++ ksBy (n.kids.take j)) u5 w2.heap.size w4 (.slice A4 m4 d4) (cnt k) (row_same ho.out fun p hp => hb4.block p (ho.out.lt p hp).2) (by omega) (RowN.mono hn4 fun b h hl e => by have := (ho.out.lt b e).2; omega) (by rw [List.length_append]; omega)
                rw [HE4.out] at cP
                have HB4 := Lib.hid hb4
                clear hn4 hb4
                go_wp2_with fail
                refine cP.mono ?_
                rintro e w5 ⟨v5, rfl, ho5, hp5⟩
                have hvo : ∀ b, u5.ownBlock = some b → w2.heap.size ≤ b := fun b hb => (ho.out.lt b hb).1
                have hpz := Puts.after HB4.out hp5
                have hb5 := hpz.below hs2 hvo
                have HO5 := Lib.hid ho5
                have HB5 := Lib.hid (hbw.out.trans (Joins.below_le hb5 (by omega)))
                have hs5 := hb5.size
                clear cP ho5 hp5 hvo hpz hb5
                go_wp2_with fail
                exact ⟨⟨j + 1, by go_num, hjl, HO5, HB5, by omega⟩, by simp [intOf]; omega⟩
              · have b1 : ¬ (j : Int) < (n.kids.length : Int) := by omega
                have hje : j = n.kids.length := by omega
                have hby : q ++ ksBy (n.kids.take j) = n.by := by
                  rw [hje, List.take_length, HQ.out, HPRE.out]
                  unfold PN.by
                  have h3 := HM.out.2.2
                  cases hlf : n.leaf with
                  | true =>
                    rw [hlf] at h3
                    have : n.kids = [] := List.eq_nil_of_length_eq_zero h3
                    simp [this, ksBy]
                  | false => simp
                have ho' := own_base ho.out (c := w.heap.size) (by omega)
                rw [hby] at ho'
                have HO' := Lib.hid ho'
                clear ho' ho hby hje
                go_wp2_with fail
                go_ret2
                exact ⟨_, by rw [HERR.out]; rfl, ⟨fun _ => HO'.out, fun h => absurd HERR.out h⟩, hbw.out⟩
  · have hsz : z = 0 := by rw [HZ.out]; unfold PN.size; rw [if_neg hch]
    have herr : n.err = 4 := by unfold PN.err; rw [if_neg hch]
    have HERR := Lib.hid herr
    clear herr
    subst hsz
    go_wp2_with fail
    go_ret2
    exact ⟨_, by rw [HERR.out]; rfl, ⟨fun h0 => by rw [HERR.out] at h0; omega, fun _ => rfl⟩, hbw⟩
end Go.Proofs.Ytedcknlafkokkaa
