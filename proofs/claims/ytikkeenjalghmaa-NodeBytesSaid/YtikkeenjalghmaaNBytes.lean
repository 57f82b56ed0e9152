/-
  NodeBytes, walked. No condition.
-/
import Derived.Test.YtikkeenjalghmaaNRefD
import Derived.Test.YtikkeenjalghmaaNRefB
import Derived.Test.YtikkeenjalghmaaNSpoil
import Derived.Test.YtikkeenjalghmaaNBack
namespace Go.Proofs.Ytikkeenjalghmaa
open Go.RowKit

/-- got, told or refused -/
theorem enc_own {w w' : World} {n : PN} {v : Value} (h : EncV w w' n v) : ∃ A c, v = .slice A (if n.err = 0 then n.by else []).length c ∧ w'.ownsRow w.heap.size 5 1 v (if n.err = 0 then n.by else []).length (BS (if n.err = 0 then n.by else [])) := by
  by_cases he : n.err = 0
  · rw [if_pos he]
    have h1 := h.1 he
    obtain ⟨A, c, rfl⟩ := own_slice h1
    exact ⟨A, c, rfl, h1⟩
  · rw [if_neg he]
    have h1 := h.2 he
    exact ⟨none, 0, h1, by rw [h1]; exact own_nil _ _⟩
theorem dec_small (l : List UInt8) : (decNode l).cells.length ≤ 600 ∧ (decNode l).kids.length ≤ 601 := by
  unfold decNode
  by_cases hok : decOk l = true
  · rw [if_pos hok]
    obtain ⟨hm, h5, -⟩ := decOk_back hok
    have h1 := rdNode_many (some l)
    have h2 : (rdNode (some l)).1.cells.length ≤ 512 := Nat.le_trans h1 (by show l.length ≤ 512; exact h5)
    refine ⟨by omega, ?_⟩
    obtain ⟨-, -, h3⟩ := hm
    split at h3 <;> omega
  · rw [if_neg hok]
    exact ⟨by decide, by decide⟩
theorem Rd.any {w : World} {B : Nat} {v : Value} {l : List UInt8} (h : Rd w B v l) (hB : B ≤ w.heap.size) : BN w Any v l := RowN.mono (Rd.toBN h hB) fun _ _ _ => trivial
set_option maxHeartbeats 16000000 in
set_option maxRecDepth 1000000 in
theorem nodebytes_walk (n : PN) (v : Value) (l : List UInt8) (vb : Value) (w : World) (h : NodeN w Any v n) (hs : ∀ c ∈ n.cells, c.key.size ≤ 140737488355328 ∧ c.val.size ≤ 140737488355328) (hl : n.cells.length ≤ 140737488355328) (hk : n.kids.length ≤ 140737488355328)
    (hb : Rd w w.heap.size vb l) (hbl : l.length ≤ 140737488355328) :
    Calls Try.prog 3 #[v, vb] w fun e w' => e = .returned (.bool true) ∧ Below w.heap.size w w' := by
  obtain ⟨iu, hiu, zu0, zu1, zu2⟩ := info_parts info_U8
  obtain ⟨vc, vk, rfl, hc, hk'⟩ := id h
  obtain ⟨Ac, cc, rfl, -, -⟩ := hc.slice
  obtain ⟨Ak, ck, rfl, -, -⟩ := hk'.slice
  obtain ⟨Ab, cb, rfl, -⟩ := id hb
  obtain ⟨w1, hw1⟩ : ∃ w1, w1 = w.alloc (.cells #[.bool n.leaf, .slice Ac n.cells.length cc, .slice Ak n.kids.length ck] 25) := ⟨_, rfl⟩
  have hb1 : Below w.heap.size w w1 := by rw [hw1]; exact (Below.refl _ _).alloc (Nat.le_refl _) _
  have hx1 : w1.heap[w.heap.size]? = some (.cells #[.bool n.leaf, .slice Ac n.cells.length cc, .slice Ak n.kids.length ck] 25 (0, 0)) := by rw [hw1]; exact heap_alloc_new w _
  have hl1 : w.heap.size < w1.heap.size := (Array.getElem?_eq_some_iff.1 hx1).1
  have hkeep : ∀ W : World, W.heap[w.heap.size]? = w1.heap[w.heap.size]? → W.cell? ⟨w.heap.size, 0, none⟩ = some (.bool n.leaf) ∧ W.cell? ⟨w.heap.size, 1, none⟩ = some (.slice Ac n.cells.length cc) ∧ W.cell? ⟨w.heap.size, 2, none⟩ = some (.slice Ak n.kids.length ck) := fun W hW => by
    have e := hW.trans hx1
    exact ⟨(row_cells e).1 0, (row_cells e).1 1, (row_cells e).1 2⟩
  have hnode : ∀ W, Below w.heap.size w W → NodeN W Any (.agg #[.bool n.leaf, .slice Ac n.cells.length cc, .slice Ak n.kids.length ck]) n := fun W hW => h.grow hW
  have hbyte : ∀ W, Below w.heap.size w W → BN W Any (.slice Ab l.length cb) l := fun W hW => Rd.any (hb.below hW (Nat.le_refl _)) hW.size
  have cL := large_any n _ w1 (hnode _ hb1) hs hl hk
  have HKEEP := Lib.hid hkeep
  have HNODE := Lib.hid hnode
  have HBYTE := Lib.hid hbyte
  have HB1 := Lib.hid hb1
  have HW1 := Lib.hid hw1
  have HL1 := Lib.hid hl1
  obtain ⟨T, hT⟩ : ∃ T, T = n.large := ⟨_, rfl⟩
  rw [← hT] at cL
  have HT := Lib.hid hT
  obtain ⟨x0, x1, x2⟩ := hkeep w1 rfl
  have hfin : ∀ W, Below w1.heap.size w1 W → Below w.heap.size w W := fun W hW => hb1.trans (Joins.below_le hW hb1.size)
  have HFIN := Lib.hid hfin
  clear hc hk' h hb hs hl hk hw1 hb1 hx1 hl1 hkeep hnode hbyte hT hfin
  go_enter Try.func3, Try.ntmps3
  go_upto_region 1 with fail
  rw [← HW1.out]
  go_wp2_with fail
  refine cL.mono ?_
  rintro e w2 ⟨rfl, hb2⟩
  clear cL x0 x1 x2
  have cA := awake_any w2
  have HB2 := Lib.hid hb2
  clear hb2
  cases T with
  | true =>
    go_wp2_with fail
    refine cA.mono ?_
    rintro e w3 ⟨rfl, hb3⟩
    have HF := Lib.hid (HFIN.out _ (HB2.out.trans (Joins.below_le hb3 HB2.out.size)))
    clear cA hb3
    go_wp2_with fail
    go_ret
    exact ⟨rfl, HF.out⟩
  | false =>
    have hsm : n.small := large_no HT.out.symm
    by_cases hb2000 : l.length ≤ 2000
    · have a1 : ¬ (2000 : Int) < (l.length : Int) := by omega
      clear cA
      obtain ⟨x0, x1, x2⟩ := HKEEP.out w2 (HB2.out.block _ HL1.out)
      have cG := given_any n _ w2 (HNODE.out _ (HFIN.out _ HB2.out)) hsm.cells hsm.kids
      go_wp2_with fail
      refine cG.mono ?_
      rintro e w3 ⟨v3, rfl, ho3, hb3⟩
      have hn3 : NodeN w3 Any v3 n := ho3.node.any
      obtain ⟨A3, c3, A3', c3', rfl, -, -⟩ := id ho3
      have hb13 := HB2.out.trans (Joins.below_le hb3 HB2.out.size)
      have hba : Below w3.heap.size w3 (w3.alloc (.cells #[] 5)) := (Below.refl _ _).alloc (Nat.le_refl _) _
      have hown1 : (w3.alloc (.cells #[] 5)).ownsRow w3.heap.size 5 1 (.slice (some ⟨w3.heap.size, 0, none⟩) 0 0) 0 (BS []) := World.ownsRow_lit w3 #[] 0 (Nat.le_refl _) (by unfold maxLen; omega) rfl
      have hb1a := hb13.trans (Joins.below_le hba hb13.size)
      obtain ⟨v4, w4, hr4, h4, hg4⟩ := run_app (P := Try.prog) (w := w3.alloc (.cells #[] 5)) w3.heap.size 26 26 5 iu Try.underlying26 hiu zu0 zu1 zu2 _ (.slice Ab l.length cb) [] l 0 hown1 _ (HBYTE.out _ (HFIN.out _ hb1a)).rd (by simp; omega) hba.size
      rw [Nat.zero_add, List.nil_append] at h4
      obtain ⟨A4, c4, rfl⟩ := own_slice h4
      have hb34 : Below w3.heap.size w3 w4 := hba.grown hg4 hba.size (fun p hp => by have h1 : w3.heap.size = p := Option.some.inj hp; omega)
      obtain ⟨w5, hw5⟩ : ∃ w5, w5 = w4.alloc (.cells #[.bool n.leaf, .slice A3 n.cells.length c3, .slice A3' n.kids.length c3'] 31) := ⟨_, rfl⟩
      have hb45 : Below w4.heap.size w4 w5 := by rw [hw5]; exact (Below.refl _ _).alloc (Nat.le_refl _) _
      have hx5 : w5.heap[w4.heap.size]? = some (.cells #[.bool n.leaf, .slice A3 n.cells.length c3, .slice A3' n.kids.length c3'] 31 (0, 0)) := by rw [hw5]; exact heap_alloc_new w4 _
      have hl5 : w4.heap.size < w5.heap.size := (Array.getElem?_eq_some_iff.1 hx5).1
      have hb14 := hb13.trans (Joins.below_le hb34 hb13.size)
      have hb15 := hb14.trans (Joins.below_le hb45 hb14.size)
      have hs15 := hb15.size
      have hs1w := HL1.out
      -- what stands at w5, wherever the blocks below w5 are as they were
      have hat : ∀ W : World, w5.heap.size ≤ W.heap.size → (∀ b, b < w5.heap.size → W.heap[b]? = w5.heap[b]?) → Below w.heap.size w W → (W.cell? ⟨w.heap.size, 0, none⟩ = some (.bool n.leaf) ∧ W.cell? ⟨w.heap.size, 1, none⟩ = some (.slice Ac n.cells.length cc) ∧ W.cell? ⟨w.heap.size, 2, none⟩ = some (.slice Ak n.kids.length ck)) ∧ (W.cell? ⟨w4.heap.size, 0, none⟩ = some (.bool n.leaf) ∧ W.cell? ⟨w4.heap.size, 1, none⟩ = some (.slice A3 n.cells.length c3) ∧ W.cell? ⟨w4.heap.size, 2, none⟩ = some (.slice A3' n.kids.length c3')) ∧
          NodeN W Any (.agg #[.bool n.leaf, .slice Ac n.cells.length cc, .slice Ak n.kids.length ck]) n ∧ NodeN W Any (.agg #[.bool n.leaf, .slice A3 n.cells.length c3, .slice A3' n.kids.length c3']) n ∧ BN W Any (.slice Ab l.length cb) l ∧ BN W Any (.slice A4 l.length c4) l := fun W hsz hW hbw => by
        have e5 := (hW _ hl5).trans hx5
        have hn5 : NodeN w5 Any (.agg #[.bool n.leaf, .slice A3 n.cells.length c3, .slice A3' n.kids.length c3']) n := (hn3.grow hb34).grow hb45
        have hb5 : BN w5 Any (.slice A4 l.length c4) l := RowN.grow (own_any h4 rfl) hb45
        exact ⟨HKEEP.out W ((hW _ (by omega)).trans (hb15.block _ hs1w)), ⟨(row_cells e5).1 0, (row_cells e5).1 1, (row_cells e5).1 2⟩, HNODE.out _ hbw, hn5.kept (fun _ _ _ => trivial) hsz (fun b _ hb => hW b hb), HBYTE.out _ hbw, hb5.kept (fun _ _ _ => trivial) hsz (fun b _ hb => hW b hb)⟩
      have hat5 : ∀ W, Below w5.heap.size w5 W → _ := fun W hW => hat W hW.size (fun b hb => hW.block b hb) (HFIN.out _ (hb15.trans (Joins.below_le hW hb15.size)))
      have HAT := Lib.hid hat
      have HAT5 := Lib.hid hat5
      have HAP := Lib.hid hr4
      have HW5 := Lib.hid hw5
      have HB15 := Lib.hid hb15
      have HL5 := Lib.hid hl5
      clear cG ho3 hb3 hn3 hb13 hba hown1 hb1a hr4 h4 hg4 hb34 hw5 hb45 hx5 hl5 hb14 hb15 hat hat5 x0 x1 x2
      go_upto_region 4 with (at_builtin; go_must (refine Lib.wpList_append_run _ rfl (.tmp 26) (.tmp 27) 26 26 rfl _ _ rfl rfl _ _ HAP.out ?_))
      rw [← HW5.out]
      clear HAP
      obtain ⟨⟨x0, x1, x2⟩, -, hn5, -, -, -⟩ := HAT5.out w5 (Below.refl _ _)
      obtain ⟨er, her⟩ : ∃ er, er = n.err := ⟨_, rfl⟩
      obtain ⟨ob, hob⟩ : ∃ ob, ob = if n.err = 0 then n.by else [] := ⟨_, rfl⟩
      have cR := refencode_any n _ w5 hn5 hsm
      rw [← hob, ← her] at cR
      have HOB := Lib.hid hob
      have HER := Lib.hid her
      clear hn5 hob her
      go_wp2_with fail
      refine cR.mono ?_
      rintro e w6 ⟨v6, rfl, hr6, hb6⟩
      obtain ⟨A6, c6, rfl, -⟩ := id hr6
      have HB56 := Lib.hid hb6
      clear cR x0 x1 x2
      obtain ⟨-, ⟨i0, i1, i2⟩, -, hin6, -, -⟩ := HAT5.out w6 hb6
      have cE := encode_any n _ w6 hin6 hsm
      rw [← HER.out] at cE
      clear hin6
      go_wp2_with fail
      refine cE.mono ?_
      rintro e w7 ⟨v7, rfl, hE, hb7⟩
      have hE2 := enc_own hE
      rw [← HOB.out] at hE2
      obtain ⟨A7, c7, rfl, ho7⟩ := hE2
      have hb57 := HB56.out.trans (Joins.below_le hb7 HB56.out.size)
      obtain ⟨so, hso⟩ : ∃ so : ByteArray, so = ⟨ob.toArray⟩ := ⟨_, rfl⟩
      have hS : ∀ W, Below w7.heap.size w7 W → ((W.cell? ⟨w.heap.size, 0, none⟩ = some (.bool n.leaf) ∧ W.cell? ⟨w.heap.size, 1, none⟩ = some (.slice Ac n.cells.length cc) ∧ W.cell? ⟨w.heap.size, 2, none⟩ = some (.slice Ak n.kids.length ck)) ∧ (W.cell? ⟨w4.heap.size, 0, none⟩ = some (.bool n.leaf) ∧ W.cell? ⟨w4.heap.size, 1, none⟩ = some (.slice A3 n.cells.length c3) ∧ W.cell? ⟨w4.heap.size, 2, none⟩ = some (.slice A3' n.kids.length c3')) ∧ (convert 26 9 (.slice A7 ob.length c7)).run Try.prog W = .ok (.string so) W ∧ (convert 26 9 (.slice A6 ob.length c6)).run Try.prog W = .ok (.string so) W) ∧ Below w5.heap.size w5 W := fun W hW => by
        have hb5W := hb57.trans (Joins.below_le hW hb57.size)
        obtain ⟨h1, h2, -⟩ := HAT5.out W hb5W
        exact ⟨⟨h1, h2, by rw [hso]; exact string_of (RowN.grow (own_any ho7 rfl) hW), by rw [hso]; exact string_of (RowN.grow (Rd.any hr6 (Nat.le_refl _)) (hb7.trans (Joins.below_le hW hb7.size)))⟩, hb5W⟩
      have HS := Lib.hid hS
      have HB67 := Lib.hid hb7
      have hox : OwnX w7 w6.heap.size 5 1 (.slice A7 ob.length c7) ob.length := ⟨_, ho7⟩
      have HOX := Lib.hid hox
      have hobl : ob.length ≤ 512 := by
        rw [HOB.out]
        by_cases he : n.err = 0
        · rw [if_pos he]
          unfold PN.err at he
          split at he
          · split at he
            · omega
            · omega
          · omega
        · rw [if_neg he]; simp
      obtain ⟨K, hK⟩ : ∃ K, K = n.chk := ⟨_, rfl⟩
      obtain ⟨Z, hZ⟩ : ∃ Z, Z = n.size := ⟨_, rfl⟩
      have HK := Lib.hid hK
      have HZ := Lib.hid hZ
      clear cE hE hr6 hb6 hb7 hb57 ho7 hox hS hso hK hZ i0 i1 i2
      go_upto_region 6 with fail
      have hbe : Below w7.heap.size w7 w7.drew := (Below.refl _ _).drew
      have hst := (HS.out _ hbe).1
      have TOK1 : Hid True := Lib.hid trivial
      go_region_held3 (fun W => (W.cell? ⟨w.heap.size, 0, none⟩ = some (.bool n.leaf) ∧ W.cell? ⟨w.heap.size, 1, none⟩ = some (.slice Ac n.cells.length cc) ∧ W.cell? ⟨w.heap.size, 2, none⟩ = some (.slice Ak n.kids.length ck)) ∧ (W.cell? ⟨w4.heap.size, 0, none⟩ = some (.bool n.leaf) ∧ W.cell? ⟨w4.heap.size, 1, none⟩ = some (.slice A3 n.cells.length c3) ∧ W.cell? ⟨w4.heap.size, 2, none⟩ = some (.slice A3' n.kids.length c3')) ∧ (convert 26 9 (.slice A7 ob.length c7)).run Try.prog W = .ok (.string so) W ∧ (convert 26 9 (.slice A6 ob.length c6)).run Try.prog W = .ok (.string so) W) (first | with_reducible exact hst | exact (HS.out _ hbe).1)
        (first
          | (go_at_call 12; refine (check_any n _ _ (HAT5.out _ (HS.out _ hbe).2).2.2.2.1 (by have := hsm.cells; omega)).mono ?_; rintro e wy ⟨rfl, hby⟩; rw [← HK.out]; replace hbe := hbe.trans (Joins.below_le hby hbe.size); clear hby)
          | (go_at_call 13; refine (refcheck_any n _ _ (HAT5.out _ (HS.out _ hbe).2).2.2.1 (by have := hsm.cells; omega)).mono ?_; rintro e wy ⟨rfl, hby⟩; rw [← HK.out]; replace hbe := hbe.trans (Joins.below_le hby hbe.size); clear hby)
          | (go_at_call 14; refine (size_any n _ _ (HAT5.out _ (HS.out _ hbe).2).2.2.2.1 hsm).mono ?_; rintro e wy ⟨rfl, hby⟩; rw [← HZ.out]; replace hbe := hbe.trans (Joins.below_le hby hbe.size); clear hby)
          | (go_at_call 15; refine (refsize_any n _ _ (HAT5.out _ (HS.out _ hbe).2).2.2.1 hsm).mono ?_; rintro e wy ⟨rfl, hby⟩; rw [← HZ.out]; replace hbe := hbe.trans (Joins.below_le hby hbe.size); clear hby))
      obtain ⟨wq, hwq⟩ : ∃ wq, wq = wy := ⟨_, rfl⟩
      rw [← hwq] at hbe ⊢
      have HB6Q := Lib.hid (HB67.out.trans (Joins.below_le hbe HB67.out.size))
      have HOQ : Hid (OwnX wq w6.heap.size 5 1 (.slice A7 ob.length c7) ob.length) := Lib.hid (HOX.out.same fun p hp => hbe.block p (HOX.out.lt p hp).2)
      clear hwq hbe hst HS HB67 HOX TOK1
      go_wp2_with fail
      go_loopw [11] (fun s11 wr => ∃ i : Nat, s11 = .int .i64 (i : Int) ∧ i ≤ ob.length ∧ Hid (Below w6.heap.size w6 wr) ∧ Hid (OwnX wr w6.heap.size 5 1 (.slice A7 ob.length c7) ob.length)) (fun s11 _ => ob.length - (intOf s11).toNat)
      case atStart => exact ⟨0, rfl, Nat.zero_le _, HB6Q, HOQ⟩
      case round =>
        clear HB6Q HOQ
        obtain ⟨i, rfl, hi, hbw, hox⟩ := hrel
        obtain ⟨wa, hwa⟩ : ∃ wa : World, wa = wr := ⟨_, rfl⟩
        subst hwa
        by_cases hil : i < ob.length
        · have b1 : (i : Int) < (ob.length : Int) := by omega
          have b0 : (0 : Int) ≤ (i : Int) := by omega
          obtain ⟨g, u, hA, -, -, q0, q1, hnext⟩ := hox.out.poke (j := i) (by omega)
          subst hA
          have hg6 := (hox.out.lt g rfl).1
          have HN := Lib.hid (hnext (.int .u8 85))
          have HBN := Lib.hid (hbw.out.setCell (p := ⟨g, i, none⟩) (show w6.heap.size ≤ g from hg6) (.int .u8 85))
          have q0' : wa.cell? ⟨g, 0 + i, none⟩ = some u := by rw [Nat.zero_add]; exact q0
          have q1' : wa.frozen? ⟨g, 0 + i, none⟩ = false := by rw [Nat.zero_add]; exact q1
          clear hnext hox hbw
          go_wp2_with fail
          exact ⟨⟨i + 1, by go_num, hil, HBN, HN⟩, by simp [intOf]; omega⟩
        · have b1 : ¬ (i : Int) < (ob.length : Int) := by omega
          have hb5a := HB56.out.trans (Joins.below_le hbw.out HB56.out.size)
          obtain ⟨-, -, -, -, hba, -⟩ := HAT5.out wa hb5a
          have cD := refdecode_any l _ wa hba (by omega)
          obtain ⟨m, hm⟩ : ∃ m, m = decNode l := ⟨_, rfl⟩
          obtain ⟨de, hde⟩ : ∃ de, de = decErr l := ⟨_, rfl⟩
          rw [← hm, ← hde] at cD
          have hms := dec_small l
          rw [← hm] at hms
          obtain ⟨hmc, hmk⟩ := hms
          have HM := Lib.hid hm
          have HDE := Lib.hid hde
          have HB5A := Lib.hid hb5a
          clear hox hbw hba hm hde hb5a
          go_wp2_with fail
          refine cD.mono ?_
          rintro e w8 ⟨v8, rfl, hx8, hb8⟩
          obtain ⟨vxc, vxk, rfl, hxc, hxk⟩ := id hx8
          obtain ⟨A8, c8, rfl, -, -⟩ := hxc.slice
          obtain ⟨A8', c8', rfl, -, -⟩ := hxk.slice
          clear hxc hxk
          obtain ⟨w9, hw9⟩ : ∃ w9, w9 = w8.alloc (.cells #[.bool m.leaf, .slice A8 m.cells.length c8, .slice A8' m.kids.length c8'] 25) := ⟨_, rfl⟩
          have hb89 : Below w8.heap.size w8 w9 := by rw [hw9]; exact (Below.refl _ _).alloc (Nat.le_refl _) _
          have hx9 : w9.heap[w8.heap.size]? = some (.cells #[.bool m.leaf, .slice A8 m.cells.length c8, .slice A8' m.kids.length c8'] 25 (0, 0)) := by rw [hw9]; exact heap_alloc_new w8 _
          have hl9 : w8.heap.size < w9.heap.size := (Array.getElem?_eq_some_iff.1 hx9).1
          have hb58 := HB5A.out.trans (Joins.below_le hb8 HB5A.out.size)
          have hb59 := hb58.trans (Joins.below_le hb89 hb58.size)
          obtain ⟨-, -, -, -, -, hby9⟩ := HAT5.out w9 hb59
          have cY := decode_any l _ w9 hby9 (by omega)
          rw [← HM.out, ← HDE.out] at cY
          have HW9 := Lib.hid hw9
          clear cD hw9 hby9
          go_upto_region 13 with fail
          rw [← HW9.out]
          go_wp2_with fail
          refine cY.mono ?_
          rintro e w10 ⟨v10, rfl, ho10, hb10⟩
          obtain ⟨A10, c10, A10', c10', rfl, -, -⟩ := id ho10
          obtain ⟨w11, hw11⟩ : ∃ w11, w11 = w10.alloc (.cells #[.bool m.leaf, .slice A10 m.cells.length c10, .slice A10' m.kids.length c10'] 31) := ⟨_, rfl⟩
          have hb1011 : Below w10.heap.size w10 w11 := by rw [hw11]; exact (Below.refl _ _).alloc (Nat.le_refl _) _
          have hx11 : w11.heap[w10.heap.size]? = some (.cells #[.bool m.leaf, .slice A10 m.cells.length c10, .slice A10' m.kids.length c10'] 31 (0, 0)) := by rw [hw11]; exact heap_alloc_new w10 _
          have hl11 : w10.heap.size < w11.heap.size := (Array.getElem?_eq_some_iff.1 hx11).1
          have hb510 := hb59.trans (Joins.below_le hb10 hb59.size)
          have hb511 := hb510.trans (Joins.below_le hb1011 hb510.size)
          obtain ⟨-, -, -, -, -, hby11⟩ := HAT5.out w11 hb511
          have cZ := decode_any l _ w11 hby11 (by omega)
          rw [← HM.out, ← HDE.out] at cZ
          have HW11 := Lib.hid hw11
          clear cY hw11 hby11
          go_upto_region 14 with fail
          rw [← HW11.out]
          go_wp2_with fail
          refine cZ.mono ?_
          rintro e w12 ⟨v12, rfl, ho12, hb12⟩
          have hn12 : NodeN w12 (fun b => w11.heap.size ≤ b) v12 m := ho12.node
          obtain ⟨A12, c12, A12', c12', rfl, -, -⟩ := id ho12
          obtain ⟨w13, hw13⟩ : ∃ w13, w13 = w12.alloc (.cells #[.bool m.leaf, .slice A12 m.cells.length c12, .slice A12' m.kids.length c12'] 31) := ⟨_, rfl⟩
          have hb1213 : Below w12.heap.size w12 w13 := by rw [hw13]; exact (Below.refl _ _).alloc (Nat.le_refl _) _
          have hx13 : w13.heap[w12.heap.size]? = some (.cells #[.bool m.leaf, .slice A12 m.cells.length c12, .slice A12' m.kids.length c12'] 31 (0, 0)) := by rw [hw13]; exact heap_alloc_new w12 _
          have hl13 : w12.heap.size < w13.heap.size := (Array.getElem?_eq_some_iff.1 hx13).1
          have hb513 := (hb511.trans (Joins.below_le hb12 hb511.size)).trans (Joins.below_le hb1213 (by have := hb511.size; have := hb12.size; omega))
          have z1 := hb59.size
          have z2 := hb10.size
          have z3 := hb12.size
          have z4 := hb8.size
          have z5 := HB15.out.size
          have z6 := HB5A.out.size
          have zw := HL1.out
          have hb1013 : Below w10.heap.size w10 w13 := (hb1011.trans (Joins.below_le hb12 hb1011.size)).trans (Joins.below_le hb1213 (by omega))
          have hb813 : Below w8.heap.size w8 w13 := ((hb89.trans (Joins.below_le hb10 hb89.size)).trans (Joins.below_le hb1013 (by omega)))
          obtain ⟨sl, hsl⟩ : ∃ sl : ByteArray, sl = ⟨l.toArray⟩ := ⟨_, rfl⟩
          obtain ⟨Q, hQ⟩ : ∃ Q : World → Prop, Q = fun W => Below w.heap.size w W ∧ w13.heap.size ≤ W.heap.size ∧ ∀ b, b < w13.heap.size → (b < w9.heap.size ∨ w10.heap.size ≤ b) → W.heap[b]? = w13.heap[b]? := ⟨_, rfl⟩
          have hQS : ∀ W, Q W → ((W.cell? ⟨w8.heap.size, 0, none⟩ = some (.bool m.leaf) ∧ W.cell? ⟨w8.heap.size, 1, none⟩ = some (.slice A8 m.cells.length c8) ∧ W.cell? ⟨w8.heap.size, 2, none⟩ = some (.slice A8' m.kids.length c8')) ∧ (W.cell? ⟨w12.heap.size, 0, none⟩ = some (.bool m.leaf) ∧ W.cell? ⟨w12.heap.size, 1, none⟩ = some (.slice A12 m.cells.length c12) ∧ W.cell? ⟨w12.heap.size, 2, none⟩ = some (.slice A12' m.kids.length c12')) ∧ (W.cell? ⟨w.heap.size, 0, none⟩ = some (.bool n.leaf) ∧ W.cell? ⟨w.heap.size, 1, none⟩ = some (.slice Ac n.cells.length cc) ∧ W.cell? ⟨w.heap.size, 2, none⟩ = some (.slice Ak n.kids.length ck)) ∧ (W.cell? ⟨w4.heap.size, 0, none⟩ = some (.bool n.leaf) ∧ W.cell? ⟨w4.heap.size, 1, none⟩ = some (.slice A3 n.cells.length c3) ∧ W.cell? ⟨w4.heap.size, 2, none⟩ = some (.slice A3' n.kids.length c3')) ∧ (convert 26 9 (.slice A4 l.length c4)).run Try.prog W = .ok (.string sl) W ∧ (convert 26 9 (.slice Ab l.length cb)).run Try.prog W = .ok (.string sl) W) ∧ (W.cell? ⟨w10.heap.size, 0, none⟩ = some (.bool m.leaf) ∧ W.cell? ⟨w10.heap.size, 1, none⟩ = some (.slice A10 m.cells.length c10) ∧ W.cell? ⟨w10.heap.size, 2, none⟩ = some (.slice A10' m.kids.length c10')) ∧ NodeN W Any (.agg #[.bool m.leaf, .slice A8 m.cells.length c8, .slice A8' m.kids.length c8']) m ∧ NodeN W Any (.agg #[.bool m.leaf, .slice A12 m.cells.length c12, .slice A12' m.kids.length c12']) m ∧ NodeN W Any (.agg #[.bool n.leaf, .slice Ac n.cells.length cc, .slice Ak n.kids.length ck]) n ∧ NodeN W Any (.agg #[.bool n.leaf, .slice A3 n.cells.length c3, .slice A3' n.kids.length c3']) n ∧ Below w.heap.size w W := fun W hW => by
            rw [hQ] at hW
            obtain ⟨q1, q2, q3⟩ := hW
            obtain ⟨h1, h2, h3, h4, h5, h6⟩ := HAT.out W (by omega) (fun b hb => (q3 b (by omega) (.inl (by omega))).trans (hb513.block b hb)) q1
            have e9 := (q3 w8.heap.size (by omega) (.inl hl9)).trans (((hb10.trans (Joins.below_le hb1013 hb10.size)).block _ hl9).trans hx9)
            have e11 := (q3 w10.heap.size (by omega) (.inr (Nat.le_refl _))).trans (((hb12.trans (Joins.below_le hb1213 hb12.size)).block _ hl11).trans hx11)
            have e13 := (q3 w12.heap.size (by omega) (.inr (by omega))).trans hx13
            exact ⟨⟨⟨(row_cells e9).1 0, (row_cells e9).1 1, (row_cells e9).1 2⟩, ⟨(row_cells e13).1 0, (row_cells e13).1 1, (row_cells e13).1 2⟩, h1, h2, by rw [hsl]; exact string_of h6, by rw [hsl]; exact string_of h5⟩, ⟨(row_cells e11).1 0, (row_cells e11).1 1, (row_cells e11).1 2⟩,
              hx8.kept (fun _ _ _ => trivial) (by omega) (fun b _ hb => (q3 b (by omega) (.inl (by omega))).trans (hb813.block b hb)), hn12.kept (fun _ _ _ => trivial) (by omega) (fun b hN hb => (q3 b (by omega) (.inr (by omega))).trans (hb1213.block b hb)), h3, h4, q1⟩
          have hQB : ∀ W, Below w13.heap.size w13 W → Q W := fun W hW => by
            rw [hQ]
            exact ⟨HFIN.out _ ((HB15.out.trans (Joins.below_le hb513 HB15.out.size)).trans (Joins.below_le hW (by have := hb513.size; omega))), hW.size, fun b hb _ => hW.block b hb⟩
          have hQG : ∀ W W', Q W → Below W.heap.size W W' → Q W' := fun W W' hW hb => by
            rw [hQ] at hW ⊢
            obtain ⟨q1, q2, q3⟩ := hW
            exact ⟨q1.trans (Joins.below_le hb q1.size), Nat.le_trans q2 hb.size, fun b hb1 hb2 => (hb.block b (by omega)).trans (q3 b hb1 hb2)⟩
          have hOY : ∀ W, Below w13.heap.size w13 W → OwnN W w9.heap.size (.agg #[.bool m.leaf, .slice A10 m.cells.length c10, .slice A10' m.kids.length c10']) m ∧ w9.heap.size ≤ W.heap.size := fun W hW => ⟨(ho10.below hb1013).below hW, by have := hW.size; omega⟩
          have hQP : ∀ W W' b0 vc vk, Below w13.heap.size w13 W → (.agg #[.bool m.leaf, .slice A10 m.cells.length c10, .slice A10' m.kids.length c10'] : Value) = .agg #[b0, vc, vk] → Kept W W' (SpF vc vk) → Q W' := fun W W' b0 vc vk hW he hkp => by
            have hW0 := hQB W hW
            rw [hQ] at hW0 ⊢
            obtain ⟨q1, q2, q3⟩ := hW0
            injection he with he
            have e1 : vc = .slice A10 m.cells.length c10 := by have := congrArg (fun a : Array Value => a[1]?) he; simpa using this.symm
            have e2 : vk = .slice A10' m.kids.length c10' := by have := congrArg (fun a : Array Value => a[2]?) he; simpa using this.symm
            have hF : ∀ b, SpF vc vk b → w9.heap.size ≤ b ∧ b < w10.heap.size := fun b hb => by
              obtain ⟨A, c, A', c', hv, h1, h2⟩ := ho10
              injection hv with hv
              have f1 : (Value.slice A10 m.cells.length c10) = .slice A m.cells.length c := by have := congrArg (fun a : Array Value => a[1]?) hv; simpa using this
              have f2 : (Value.slice A10' m.kids.length c10') = .slice A' m.kids.length c' := by have := congrArg (fun a : Array Value => a[2]?) hv; simpa using this
              rcases hb with hb | hb
              · rw [e1, f1] at hb
                exact h1.lt b hb
              · rw [e2, f2] at hb
                exact h2.lt b hb
            have hsz := hkp.size
            refine ⟨⟨hkp.os.trans q1.os, hkp.tape.trans q1.tape, hkp.output.trans q1.output, Nat.le_trans q1.size hsz, fun b hb => (hkp.block b (by have := q1.size; omega) (fun hf => by have := hF b hf; omega)).trans (q1.block b hb)⟩, by omega, fun b hb hb2 => (hkp.block b (by omega) (fun hf => by have := hF b hf; omega)).trans (q3 b hb hb2)⟩
          have HQS := Lib.hid hQS
          have HQB := Lib.hid hQB
          have HQG := Lib.hid hQG
          have HOY := Lib.hid hOY
          have HQP := Lib.hid hQP
          have HW13 := Lib.hid hw13
          have HSL := Lib.hid hsl
          have hkk : m.kids.length ≤ 1000 := by omega
          have hcc : m.cells.length ≤ 1000 := by omega
          clear cZ hw13 ho10 ho12 hn12 hx8 hx9 hx11 hx13 hb8 hb89 hb10 hb1011 hb12 hb1213 hb58 hb59 hb510 hb511 hb513 hb1013 hb813 hQ hQS hQB hQG hOY hQP hsl hl9 hl11 hl13
          go_upto_region 15 with fail
          rw [← HW13.out]
          have hbe : Below w13.heap.size w13 w13.drew := (Below.refl _ _).drew
          have hst : (w13.drew.cell? ⟨w8.heap.size, 0, none⟩ = some (.bool m.leaf) ∧ w13.drew.cell? ⟨w8.heap.size, 1, none⟩ = some (.slice A8 m.cells.length c8) ∧ w13.drew.cell? ⟨w8.heap.size, 2, none⟩ = some (.slice A8' m.kids.length c8')) ∧ (w13.drew.cell? ⟨w10.heap.size, 0, none⟩ = some (.bool m.leaf) ∧ w13.drew.cell? ⟨w10.heap.size, 1, none⟩ = some (.slice A10 m.cells.length c10) ∧ w13.drew.cell? ⟨w10.heap.size, 2, none⟩ = some (.slice A10' m.kids.length c10')) := by
            obtain ⟨⟨h1, -⟩, h2, -⟩ := HQS.out _ (HQB.out _ hbe)
            exact ⟨h1, h2⟩
          have HS15 : Hid (∀ W, Q W → (W.cell? ⟨w8.heap.size, 0, none⟩ = some (.bool m.leaf) ∧ W.cell? ⟨w8.heap.size, 1, none⟩ = some (.slice A8 m.cells.length c8) ∧ W.cell? ⟨w8.heap.size, 2, none⟩ = some (.slice A8' m.kids.length c8')) ∧ (W.cell? ⟨w10.heap.size, 0, none⟩ = some (.bool m.leaf) ∧ W.cell? ⟨w10.heap.size, 1, none⟩ = some (.slice A10 m.cells.length c10) ∧ W.cell? ⟨w10.heap.size, 2, none⟩ = some (.slice A10' m.kids.length c10'))) := Lib.hid fun W hW => by
            obtain ⟨⟨h1, -⟩, h2, -⟩ := HQS.out W hW
            exact ⟨h1, h2⟩
          go_region_held3 (fun W => (W.cell? ⟨w8.heap.size, 0, none⟩ = some (.bool m.leaf) ∧ W.cell? ⟨w8.heap.size, 1, none⟩ = some (.slice A8 m.cells.length c8) ∧ W.cell? ⟨w8.heap.size, 2, none⟩ = some (.slice A8' m.kids.length c8')) ∧ (W.cell? ⟨w10.heap.size, 0, none⟩ = some (.bool m.leaf) ∧ W.cell? ⟨w10.heap.size, 1, none⟩ = some (.slice A10 m.cells.length c10) ∧ W.cell? ⟨w10.heap.size, 2, none⟩ = some (.slice A10' m.kids.length c10'))) (first | with_reducible exact hst | exact HS15.out _ hq | exact HS15.out _ (HQB.out _ hbe))
            (first
              | (go_at_call 19; refine (back_any m _ _ (HOY.out _ hbe).1.node.any hcc hkk).mono ?_; rintro e wy ⟨vB, rfl, hoB, hby⟩; have HOB := Lib.hid (show NodeN wy Any vB m from hoB.node.any); replace hbe := hbe.trans (Joins.below_le hby hbe.size); clear hoB hby)
              | (go_at_call 18; refine (same_yes m _ _ _ HOB.out (HQS.out _ (HQB.out _ hbe)).2.2.1 (by omega) (by omega)).mono ?_; rintro e wy ⟨rfl, hby⟩; replace hbe := hbe.trans (Joins.below_le hby hbe.size); clear hby)
              | (go_at_call 20; refine (spoil_any m _ w9.heap.size _ (HOY.out _ hbe).1 (HOY.out _ hbe).2 hcc (by omega)).mono ?_; rintro e wy ⟨zz, rfl, hzz, b0, vc, vk, hev, hkp⟩; have hq := HQP.out _ _ _ _ _ hbe hev hkp; have hz0 := Int.natCast_nonneg zz; clear hkp hev hzz))
          obtain ⟨wp, hwp⟩ : ∃ wp, wp = wy := ⟨_, rfl⟩
          rw [← hwp] at hq ⊢
          have HQ := Lib.hid hq
          clear hwp hq hbe hst HS15 HOB HOY HQP
          go_upto_region 17 with fail
          have hqd : Q wp.drew := HQG.out _ _ HQ.out (Below.refl _ _).drew
          have hst := (HQS.out _ hqd).1
          have TOK1 : Hid True := Lib.hid trivial
          have TOK2 : Hid True := Lib.hid trivial
          go_region_held3 (fun W => (W.cell? ⟨w8.heap.size, 0, none⟩ = some (.bool m.leaf) ∧ W.cell? ⟨w8.heap.size, 1, none⟩ = some (.slice A8 m.cells.length c8) ∧ W.cell? ⟨w8.heap.size, 2, none⟩ = some (.slice A8' m.kids.length c8')) ∧ (W.cell? ⟨w12.heap.size, 0, none⟩ = some (.bool m.leaf) ∧ W.cell? ⟨w12.heap.size, 1, none⟩ = some (.slice A12 m.cells.length c12) ∧ W.cell? ⟨w12.heap.size, 2, none⟩ = some (.slice A12' m.kids.length c12')) ∧ (W.cell? ⟨w.heap.size, 0, none⟩ = some (.bool n.leaf) ∧ W.cell? ⟨w.heap.size, 1, none⟩ = some (.slice Ac n.cells.length cc) ∧ W.cell? ⟨w.heap.size, 2, none⟩ = some (.slice Ak n.kids.length ck)) ∧ (W.cell? ⟨w4.heap.size, 0, none⟩ = some (.bool n.leaf) ∧ W.cell? ⟨w4.heap.size, 1, none⟩ = some (.slice A3 n.cells.length c3) ∧ W.cell? ⟨w4.heap.size, 2, none⟩ = some (.slice A3' n.kids.length c3')) ∧ (convert 26 9 (.slice A4 l.length c4)).run Try.prog W = .ok (.string sl) W ∧ (convert 26 9 (.slice Ab l.length cb)).run Try.prog W = .ok (.string sl) W) (first | with_reducible exact hst | exact (HQS.out _ hqd).1)
            (first
              | (go_at_call 19; have htok := TOK1.out; refine (back_any m _ _ (HQS.out _ hqd).2.2.2.1 hcc hkk).mono ?_; rintro e wy ⟨vB, rfl, hoB, hby⟩; have HOB := Lib.hid (show NodeN wy Any vB m from hoB.node.any); replace hqd := HQG.out _ _ hqd hby; clear hoB hby htok TOK1)
              | (go_at_call 18; have htok := TOK2.out; refine (same_yes m _ _ _ HOB.out (HQS.out _ hqd).2.2.1 (by omega) (by omega)).mono ?_; rintro e wy ⟨rfl, hby⟩; replace hqd := HQG.out _ _ hqd hby; clear hby htok TOK2)
              | (go_at_call 19; refine (back_any n _ _ (HQS.out _ hqd).2.2.2.2.2.1 hsm.cells hsm.kids).mono ?_; rintro e wy ⟨vB2, rfl, hoB, hby⟩; have HOB2 := Lib.hid (show NodeN wy Any vB2 n from hoB.node.any); replace hqd := HQG.out _ _ hqd hby; clear hoB hby)
              | (go_at_call 18; refine (same_yes n _ _ _ HOB2.out (HQS.out _ hqd).2.2.2.2.1 (by have := hsm.cells; omega) (by have := hsm.kids; omega)).mono ?_; rintro e wy ⟨rfl, hby⟩; replace hqd := HQG.out _ _ hqd hby; clear hby)
              | (go_at_call 8; refine (awake_any _).mono ?_; rintro e wy ⟨rfl, hby⟩; replace hqd := HQG.out _ _ hqd hby; clear hby))
          have HF := Lib.hid (HQS.out _ hqd).2.2.2.2.2.2
          clear hqd hst
          go_wp2_with fail
          go_ret
          exact ⟨rfl, HF.out⟩
    · have a1 : (2000 : Int) < (l.length : Int) := by omega
      go_wp2_with fail
      refine cA.mono ?_
      rintro e w3 ⟨rfl, hb3⟩
      have HF := Lib.hid (HFIN.out _ (HB2.out.trans (Joins.below_le hb3 HB2.out.size)))
      clear cA hb3
      go_wp2_with fail
      go_ret
      exact ⟨rfl, HF.out⟩
end Go.Proofs.Ytikkeenjalghmaa
