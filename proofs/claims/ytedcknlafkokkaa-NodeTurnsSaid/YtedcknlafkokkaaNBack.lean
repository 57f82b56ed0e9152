/-
  NodeBack, walked. No condition.
-/
import Derived.Test.YtedcknlafkokkaaNBackP
import Derived.Test.YtedcknlafkokkaaNGiv
import Derived.Test.YtedcknlafkokkaaNZer
import Derived.Test.YtedcknlafkokkaaNLaw
import Derived.Test.YtedcknlafkokkaaNSame
import Derived.Test.YtedcknlafkokkaaNAwake
namespace Go.Proofs.Ytedcknlafkokkaa
open Go.RowKit

theorem may_small {n : PN} (h : n.may) (hl : n.cells.length ≤ 600) : n.small := by
  have hok := may_ok h
  have hk : n.kids.length ≤ 1000 := by
    obtain ⟨-, -, h3⟩ := h
    split at h3 <;> omega
  refine ⟨by omega, hk, fun c hc => ?_⟩
  obtain ⟨h1, h2⟩ := hok c hc
  refine ⟨by omega, ?_⟩
  split at h2
  · split at h2
    · omega
    · omega
  · omega
theorem own_any {w : World} {base : Nat} {v : Value} {n : Nat} {l : List UInt8} (h : w.ownsRow base 5 1 v n (BS l)) (hn : n = l.length) : BN w Any v l := by
  subst hn
  exact RowN.of_own h fun _ _ => trivial
theorem BN.take {w : World} {N : Nat → Prop} {A : Option Addr} {c k : Nat} {l : List UInt8} (h : BN w N (.slice A l.length c) l) (hk : k ≤ l.length) : BN w N (.slice A k c) (l.take k) := by
  have := RowN.take h hk
  unfold BN
  rw [show BS (l.take k) = (BS l).take (k * 1) by simp [BS, List.map_take], List.length_take, Nat.min_eq_left hk]
  exact this
theorem tillU (W : World) (A : Option Addr) (n c k : Nat) (hc : k ≤ c) : (Instr.slice 26 (.slice A n c) none (some (.int .i64 (k : Int))) none).run Try.prog W = .ok (.slice A k c) W := by
  rw [run_slice_h _ _ _ _ _ elem_U .i64 (k : Int) (by omega) (by omega), size_U]
  simp only [Result.andThen, sliced, Int.toNat_natCast, Nat.sub_zero, Nat.zero_mul]
  split
  · rfl
  · cases A with
    | none => rfl
    | some a => simp [Addr.add]
theorem nought_get {t : List UInt8} (h : allNought t = true) {j : Nat} {x : UInt8} (hx : t[j]? = some x) : x = 0 := by
  unfold allNought at h
  rw [List.all_eq_true] at h
  have := h x (List.mem_of_getElem? hx)
  simpa using this
theorem I64_wrap (z : Int) : ∃ k : Nat, IntKind.u64.wrap z = (k : Int) := ⟨(IntKind.u64.wrap z).toNat, by
  have : 0 ≤ IntKind.u64.wrap z := by rw [IntKind.wrap_u64]; omega
  omega⟩
set_option maxHeartbeats 8000000 in
set_option maxRecDepth 1000000 in
theorem nodeback_walk (n : PN) (v : Value) (z : Int) (l : List UInt8) (vb : Value) (w : World) (h : NodeN w Any v n) (hs : ∀ c ∈ n.cells, c.key.size ≤ 140737488355328 ∧ c.val.size ≤ 140737488355328) (hl : n.cells.length ≤ 140737488355328) (hk : n.kids.length ≤ 140737488355328)
    (hb : Rd w w.heap.size vb l) (hbl : l.length ≤ 140737488355328) :
    Calls Try.prog 6 #[v, .int .i64 z, vb] w fun e w' => e = .returned (.bool true) ∧ Below w.heap.size w w' := by
  obtain ⟨vc, vk, rfl, hc, hk'⟩ := id h
  obtain ⟨Ac, cc, rfl, -, -⟩ := hc.slice
  obtain ⟨Ak, ck, rfl, -, -⟩ := hk'.slice
  obtain ⟨Ab, cb, rfl, -⟩ := id hb
  obtain ⟨w1, hw1⟩ : ∃ w1, w1 = w.alloc (.cells #[.bool n.leaf, .slice Ac n.cells.length cc, .slice Ak n.kids.length ck] 25) := ⟨_, rfl⟩
  have hb1 : Below w.heap.size w w1 := by rw [hw1]; exact (Below.refl _ _).alloc (Nat.le_refl _) _
  have hx1 : w1.heap[w.heap.size]? = some (.cells #[.bool n.leaf, .slice Ac n.cells.length cc, .slice Ak n.kids.length ck] 25 (0, 0)) := by rw [hw1]; exact heap_alloc_new w _
  have hl1 : w.heap.size < w1.heap.size := (Array.getElem?_eq_some_iff.1 hx1).1
  have hkeep : ∀ W, Below w1.heap.size w1 W → W.cell? ⟨w.heap.size, 0, none⟩ = some (.bool n.leaf) ∧ W.cell? ⟨w.heap.size, 1, none⟩ = some (.slice Ac n.cells.length cc) ∧ W.cell? ⟨w.heap.size, 2, none⟩ = some (.slice Ak n.kids.length ck) := fun W hW => by
    have e := (hW.block _ hl1).trans hx1
    exact ⟨(row_cells e).1 0, (row_cells e).1 1, (row_cells e).1 2⟩
  have hnode : ∀ W, Below w1.heap.size w1 W → NodeN W Any (.agg #[.bool n.leaf, .slice Ac n.cells.length cc, .slice Ak n.kids.length ck]) n := fun W hW => h.grow (hb1.trans (Joins.below_le hW hb1.size))
  have hbyte : ∀ W, Below w1.heap.size w1 W → BN W Any (.slice Ab l.length cb) l := fun W hW => RowN.mono (Rd.toBN (hb.below (hb1.trans (Joins.below_le hW hb1.size)) (Nat.le_refl _)) (by have := hb1.size; have := hW.size; omega)) fun _ _ _ => trivial
  have cL := large_any n _ w1 (hnode _ (Below.refl _ _)) hs hl hk
  have HKEEP := Lib.hid hkeep
  have HNODE := Lib.hid hnode
  have HBYTE := Lib.hid hbyte
  have HB1 := Lib.hid hb1
  have HW1 := Lib.hid hw1
  obtain ⟨T, hT⟩ : ∃ T, T = n.large := ⟨_, rfl⟩
  rw [← hT] at cL
  have HT := Lib.hid hT
  obtain ⟨x0, x1, x2⟩ := hkeep w1 (Below.refl _ _)
  clear hc hk' h hb hs hl hk hw1 hb1 hx1 hl1 hkeep hnode hbyte hT
  go_enter Try.func6, Try.ntmps6
  go_upto_region 1 with fail
  rw [← HW1.out]
  go_wp2_with fail
  refine cL.mono ?_
  rintro e w2 ⟨rfl, hb2⟩
  clear cL x0 x1 x2
  have cA := awake_any w2
  have HB2 := Lib.hid hb2
  clear hb2
  have hfin : ∀ W, Below w1.heap.size w1 W → Below w.heap.size w W := fun W hW => HB1.out.trans (Joins.below_le hW HB1.out.size)
  have HFIN := Lib.hid hfin
  clear hfin
  cases T with
  | true =>
    go_wp2_with fail
    refine cA.mono ?_
    rintro e w3 ⟨rfl, hb3⟩
    have HF := Lib.hid (HFIN.out _ (HB2.out.trans (Joins.below_le hb3 HB2.out.size)))
    clear cA hb3
    go_wp2_with fail
    go_ret
    exact ⟨rfl, HF.out⟩
  | false =>
    have hsm : n.small := large_no HT.out.symm
    by_cases hb2000 : l.length ≤ 2000
    · have a1 : ¬ (2000 : Int) < (l.length : Int) := by omega
      go_wp2_with fail
      refine cA.mono ?_
      rintro e w3 ⟨rfl, hb3⟩
      have hb13 := HB2.out.trans (Joins.below_le hb3 HB2.out.size)
      have HB13 := Lib.hid hb13
      obtain ⟨x0, x1, x2⟩ := HKEEP.out _ hb13
      have cG := given_any n _ w3 (HNODE.out _ hb13) hsm.cells hsm.kids
      clear cA hb3 hb13
      go_wp2_with fail
      refine cG.mono ?_
      rintro e w4 ⟨v4, rfl, ho4, hb4⟩
      have hb14 := HB13.out.trans (Joins.below_le hb4 HB13.out.size)
      have HB14 := Lib.hid hb14
      have cE := encode_any n v4 w4 ho4.node.any hsm
      obtain ⟨A4, c4, A4', c4', rfl, -, -⟩ := ho4
      clear cG hb4 hb14 x0 x1 x2
      go_wp2_with fail
      refine cE.mono ?_
      rintro e w5 ⟨vE, rfl, hE, hb5⟩
      have hs45 := hb5.size
      have hb15 := HB14.out.trans (Joins.below_le hb5 HB14.out.size)
      have HB15 := Lib.hid hb15
      have hE0 := hE.1
      have hE1 := hE.2
      obtain ⟨er, her⟩ : ∃ er, er = n.err := ⟨_, rfl⟩
      rw [← her] at hE0 hE1 ⊢
      have HER := Lib.hid her
      clear cE hb5 hb15 her hE
      by_cases he0 : er = 0
      · subst he0
        have ho5 := hE0 rfl
        have hlen : n.by.length ≤ 512 := by
          have := HER.out
          unfold PN.err at this
          split at this
          · split at this
            · omega
            · omega
          · omega
        have hmay : n.may := by
          have := HER.out
          unfold PN.err at this
          split at this
          · rename_i hc; exact n.chk_iff.1 hc
          · omega
        obtain ⟨A5, c5, rfl⟩ := own_slice ho5
        obtain ⟨k, hk1, hk2⟩ : ∃ k : Nat, wrap64 ((IntKind.u64.wrap z).tmod (513 - (n.by.length : Int))) = (k : Int) ∧ k ≤ 512 - n.by.length := by
          obtain ⟨q, hq⟩ := I64_wrap z
          rw [hq]
          have e : (q : Int).tmod (513 - (n.by.length : Int)) = ((q % (513 - n.by.length) : Nat) : Int) := by
            rw [show (513 - (n.by.length : Int)) = ((513 - n.by.length : Nat) : Int) by omega]
            rfl
          have h1 : q % (513 - n.by.length) < 513 - n.by.length := Nat.mod_lt _ (by omega)
          refine ⟨q % (513 - n.by.length), ?_, by omega⟩
          rw [e]
          unfold wrap64
          omega
        have hd : ¬ (513 - (n.by.length : Int) = 0) := by omega
        obtain ⟨iu, hiu, z0, z1, z2⟩ := info_parts info_U8
        obtain ⟨A6, c6, w6, hr6, ho6, hg6⟩ := run_append_zeros (P := Try.prog) (w := w5) w4.heap.size 26 3 26 5 iu Try.underlying26 Try.underlying3 hiu z0 z1 z2 _ n.by ho5 k (by omega) hs45
        have hb16 : Below w1.heap.size w1 w6 := HB15.out.grown hg6 HB15.out.size (fun p hp => by have := (ho5.lt p hp).1; have := HB14.out.size; omega)
        obtain ⟨s6, hs6⟩ : ∃ s, s = n.by ++ nzs k := ⟨_, rfl⟩
        have hs6l : s6.length ≤ 512 := by rw [hs6, List.length_append, nzs_length]; omega
        rw [← hs6] at hr6 ho6
        rw [← hk1] at hr6
        obtain ⟨hd0, hdn⟩ := decOk_by hmay (t := nzs k) (by rw [← hs6]; exact hs6l) (by have := hsm.cells; omega) (by unfold allNought nzs; simp)
        rw [← hs6] at hd0 hdn
        have cD := decode_any s6 _ w6 (own_any ho6 rfl) (by omega)
        rw [hd0, hdn] at cD
        have HAP := Lib.hid hr6
        have HB16 := Lib.hid hb16
        clear hr6 ho6 hg6 hb16 hs6 hd0 hdn ho5 hE0 hE1 hiu z0 z1 z2
        go_wp2_with (at_builtin; go_must (refine Lib.wpList_append_run _ rfl (.tmp 34) (.tmp 42) 26 3 rfl _ _ rfl rfl _ _ HAP.out ?_))
        refine cD.mono ?_
        rintro e w7 ⟨v7, rfl, ho7, hb7⟩
        obtain ⟨A7, c7, A7', c7', rfl, -, -⟩ := id ho7
        obtain ⟨w8, hw8⟩ : ∃ w8, w8 = w7.alloc (.cells #[.bool n.leaf, .slice A7 n.cells.length c7, .slice A7' n.kids.length c7'] 31) := ⟨_, rfl⟩
        have hb8 : Below w7.heap.size w7 w8 := by rw [hw8]; exact (Below.refl _ _).alloc (Nat.le_refl _) _
        have hx8 : w8.heap[w7.heap.size]? = some (.cells #[.bool n.leaf, .slice A7 n.cells.length c7, .slice A7' n.kids.length c7'] 31 (0, 0)) := by rw [hw8]; exact heap_alloc_new w7 _
        have hb17 := HB16.out.trans (Joins.below_le hb7 HB16.out.size)
        have hb18 := hb17.trans (Joins.below_le hb8 hb17.size)
        have hl8 : w7.heap.size < w8.heap.size := (Array.getElem?_eq_some_iff.1 hx8).1
        have hS : ∀ W, Below w8.heap.size w8 W → (W.cell? ⟨w.heap.size, 0, none⟩ = some (.bool n.leaf) ∧ W.cell? ⟨w.heap.size, 1, none⟩ = some (.slice Ac n.cells.length cc) ∧ W.cell? ⟨w.heap.size, 2, none⟩ = some (.slice Ak n.kids.length ck)) ∧ (W.cell? ⟨w7.heap.size, 0, none⟩ = some (.bool n.leaf) ∧ W.cell? ⟨w7.heap.size, 1, none⟩ = some (.slice A7 n.cells.length c7) ∧ W.cell? ⟨w7.heap.size, 2, none⟩ = some (.slice A7' n.kids.length c7')) := fun W hW => by
          have e := (hW.block _ hl8).trans hx8
          exact ⟨HKEEP.out _ (hb18.trans (Joins.below_le hW hb18.size)), (row_cells e).1 0, (row_cells e).1 1, (row_cells e).1 2⟩
        have hN8 : ∀ W, Below w8.heap.size w8 W → NodeN W Any (.agg #[.bool n.leaf, .slice Ac n.cells.length cc, .slice Ak n.kids.length ck]) n := fun W hW => HNODE.out _ (hb18.trans (Joins.below_le hW hb18.size))
        have hX8 : ∀ W, Below w8.heap.size w8 W → NodeN W Any (.agg #[.bool n.leaf, .slice A7 n.cells.length c7, .slice A7' n.kids.length c7']) n := fun W hW => ((ho7.below hb8).node.any).grow hW
        have HS := Lib.hid hS
        have HN8 := Lib.hid hN8
        have HX8 := Lib.hid hX8
        have HB18 := Lib.hid hb18
        have HW8 := Lib.hid hw8
        clear cD ho7 hb7 hw8 hb8 hx8 hb17 hb18 hl8 hS hN8 hX8 HAP HB16
        go_upto_region 7 with fail
        rw [← HW8.out]
        have hbe : Below w8.heap.size w8 w8.drew := (Below.refl _ _).drew
        have hst := HS.out _ hbe
        go_region_held3 (fun w' => (w'.cell? ⟨w.heap.size, 0, none⟩ = some (.bool n.leaf) ∧ w'.cell? ⟨w.heap.size, 1, none⟩ = some (.slice Ac n.cells.length cc) ∧ w'.cell? ⟨w.heap.size, 2, none⟩ = some (.slice Ak n.kids.length ck)) ∧ (w'.cell? ⟨w7.heap.size, 0, none⟩ = some (.bool n.leaf) ∧ w'.cell? ⟨w7.heap.size, 1, none⟩ = some (.slice A7 n.cells.length c7) ∧ w'.cell? ⟨w7.heap.size, 2, none⟩ = some (.slice A7' n.kids.length c7'))) (first | with_reducible exact hst | exact HS.out _ hbe)
          (first
            | (go_at_call 20; refine (back_any n _ _ (HX8.out _ hbe) hsm.cells hsm.kids).mono ?_; rintro e wy ⟨vB, rfl, hoB, hby⟩; have HOB := Lib.hid (show NodeN wy Any vB n from hoB.node.any); replace hbe := hbe.trans (Joins.below_le hby hbe.size); clear hoB hby)
            | (go_at_call 19; refine (same_yes n _ _ _ HOB.out (HN8.out _ hbe) (by have := hsm.cells; omega) (by have := hsm.kids; omega)).mono ?_; rintro e wy ⟨rfl, hby⟩; replace hbe := hbe.trans (Joins.below_le hby hbe.size); clear hby))
        obtain ⟨wx, hwx⟩ : ∃ wx, wx = wy := ⟨_, rfl⟩
        rw [← hwx]
        have HBX : Hid (Below w1.heap.size w1 wx) := by rw [hwx]; exact Lib.hid (HB18.out.trans (Joins.below_le hbe HB18.out.size))
        clear hwx hbe hst HB18 HS HN8 HX8 HOB
        have cD := decode_any l _ wx (HBYTE.out _ HBX.out) (by omega)
        go_wp2_with fail
        refine cD.mono ?_
        rintro e wa ⟨va, rfl, hoa, hba⟩
        obtain ⟨m, hm⟩ : ∃ m, m = decNode l := ⟨_, rfl⟩
        rw [← hm] at hoa
        obtain ⟨Aa, ca, Aa', ca', rfl, -, -⟩ := id hoa
        obtain ⟨wd, hwd⟩ : ∃ wd, wd = wa.alloc (.cells #[.bool m.leaf, .slice Aa m.cells.length ca, .slice Aa' m.kids.length ca'] 31) := ⟨_, rfl⟩
        have hbd : Below wa.heap.size wa wd := by rw [hwd]; exact (Below.refl _ _).alloc (Nat.le_refl _) _
        have hxd : wd.heap[wa.heap.size]? = some (.cells #[.bool m.leaf, .slice Aa m.cells.length ca, .slice Aa' m.kids.length ca'] 31 (0, 0)) := by rw [hwd]; exact heap_alloc_new wa _
        have hb1a := HBX.out.trans (Joins.below_le hba HBX.out.size)
        have hb1d := hb1a.trans (Joins.below_le hbd hb1a.size)
        have hld : wa.heap.size < wd.heap.size := (Array.getElem?_eq_some_iff.1 hxd).1
        have hX : ∀ W, Below wd.heap.size wd W → W.cell? ⟨wa.heap.size, 0, none⟩ = some (.bool m.leaf) ∧ W.cell? ⟨wa.heap.size, 1, none⟩ = some (.slice Aa m.cells.length ca) ∧ W.cell? ⟨wa.heap.size, 2, none⟩ = some (.slice Aa' m.kids.length ca') := fun W hW => by
          have e := (hW.block _ hld).trans hxd
          exact ⟨(row_cells e).1 0, (row_cells e).1 1, (row_cells e).1 2⟩
        have hND : ∀ W, Below wd.heap.size wd W → NodeN W Any (.agg #[.bool m.leaf, .slice Aa m.cells.length ca, .slice Aa' m.kids.length ca']) m := fun W hW => ((hoa.below hbd).node.any).grow hW
        have HX := Lib.hid hX
        have HND := Lib.hid hND
        have HB1D := Lib.hid hb1d
        have HWD := Lib.hid hwd
        have HM := Lib.hid hm
        clear cD hoa hba hbd hxd hb1a hb1d hld hX hND hwd hm
        by_cases hok : decOk l = true
        · have herr : decErr l = 0 := by unfold decErr; rw [if_pos hok]
          obtain ⟨hmay2, h512, t, hlt, hnt⟩ := decOk_back hok
          have hmn : m = (rdNode (some l)).1 := by rw [HM.out]; unfold decNode; rw [if_pos hok]
          have hmany := rdNode_many (some l)
          rw [← hmn] at hmay2 hlt hmany
          have hmany' : m.cells.length ≤ 600 := Nat.le_trans hmany (by show l.length ≤ 600; omega)
          have hms := may_small hmay2 hmany'
          have hby : m.by.length ≤ l.length := by
            have := congrArg List.length hlt
            rw [List.length_append] at this
            omega
          have hme : m.err = 0 := err_ok hmay2 (by omega)
          have hsz : m.size = m.by.length := by unfold PN.size; rw [if_pos (m.chk_yes hmay2)]
          have htake : l.take m.by.length = m.by := by rw [hlt, List.take_left]
          have hzero : ∀ j x, l[j]? = some x → m.by.length ≤ j → x = 0 := fun j x hj hge => by
            rw [hlt, List.getElem?_append_right hge] at hj
            exact nought_get hnt hj
          have HTAKE := Lib.hid htake
          have HZERO := Lib.hid hzero
          rw [herr]
          clear hlt hnt hmn hmany hmay2 htake hzero herr hok
          go_upto_region 12 with fail
          rw [← HWD.out]
          obtain ⟨p0, p1, p2⟩ := HX.out _ (Below.refl _ _)
          have cE := encode_any m _ wd (HND.out _ (Below.refl _ _)) hms
          go_wp2_with fail
          refine cE.mono ?_
          rintro e wt ⟨vT, rfl, hT, hbt⟩
          have hoT := hT.1 hme
          rw [hme]
          obtain ⟨AT, cT, rfl⟩ := own_slice hoT
          have HB1T := Lib.hid (HB1D.out.trans (Joins.below_le hbt HB1D.out.size))
          obtain ⟨kk, hkk⟩ : ∃ kk, kk = m.by.length := ⟨_, rfl⟩
          have hkl : kk ≤ l.length := by omega
          have hkc : ∃ c', c' = cb ∧ l.length ≤ c' := by
            obtain ⟨A0, c0, hv0, h1, -⟩ := (HBYTE.out _ HBX.out).rd
            injection hv0 with _ _ hv0
            exact ⟨_, rfl, by omega⟩
          obtain ⟨cb', hcb', hkc⟩ := hkc
          have sB : ∀ W : World, (Instr.slice 26 (.slice Ab l.length cb) none (some (.int .i64 (kk : Int))) none).run Try.prog W = .ok (.slice Ab kk cb) W := fun W => tillU W Ab l.length cb kk (by omega)
          have sB' : ∀ W : World, (Instr.sliceAt 26 (.slice Ab l.length cb) none (some (.int .i64 (kk : Int))) none).run Try.prog W = .ok (.slice Ab kk cb) W := fun W => (run_sliceAt_slice _ _ _ _ _ _ elem_U).trans (sB W)
          obtain ⟨sT, hsT⟩ : ∃ sT : ByteArray, sT = ⟨m.by.toArray⟩ := ⟨_, rfl⟩
          have hS : ∀ W, Below wt.heap.size wt W → (W.cell? ⟨wa.heap.size, 0, none⟩ = some (.bool m.leaf) ∧ W.cell? ⟨wa.heap.size, 1, none⟩ = some (.slice Aa m.cells.length ca) ∧ W.cell? ⟨wa.heap.size, 2, none⟩ = some (.slice Aa' m.kids.length ca')) ∧ (convert 26 9 (.slice Ab kk cb)).run Try.prog W = .ok (.string sT) W ∧ (convert 26 9 (.slice AT kk cT)).run Try.prog W = .ok (.string sT) W := fun W hW => by
            have hdW := hbt.trans (Joins.below_le hW hbt.size)
            refine ⟨HX.out _ hdW, ?_, ?_⟩
            · have := BN.take (HBYTE.out _ (HB1T.out.trans (Joins.below_le hW HB1T.out.size))) hkl
              rw [hkk, HTAKE.out] at this
              rw [hkk, hsT]
              exact string_of this
            · have h1 : BN wt Any (.slice AT m.by.length cT) m.by := own_any hoT rfl
              rw [hkk, hsT]
              exact string_of (RowN.grow h1 hW)
          have hST : ∀ W, Below wt.heap.size wt W → NodeN W Any (.agg #[.bool m.leaf, .slice Aa m.cells.length ca, .slice Aa' m.kids.length ca']) m := fun W hW => HND.out _ (hbt.trans (Joins.below_le hW hbt.size))
          have hszk : m.size = kk := by rw [hsz, hkk]
          rw [← hkk]
          have HS := Lib.hid hS
          have HST := Lib.hid hST
          have HSZK := Lib.hid hszk
          have HKK := Lib.hid hkk
          have n1 : decide (l.length < kk) = false := decide_eq_false (by omega)
          clear cE hT hoT hbt hS hST hszk hsT p0 p1 p2 hkk hsz hme hmany'
          go_upto_region 13 with fail
          have hbe : Below wt.heap.size wt wt.drew := (Below.refl _ _).drew
          have hst := HS.out _ hbe
          go_region_held3 (fun w' => (w'.cell? ⟨wa.heap.size, 0, none⟩ = some (.bool m.leaf) ∧ w'.cell? ⟨wa.heap.size, 1, none⟩ = some (.slice Aa m.cells.length ca) ∧ w'.cell? ⟨wa.heap.size, 2, none⟩ = some (.slice Aa' m.kids.length ca')) ∧ (convert 26 9 (.slice Ab kk cb)).run Try.prog w' = .ok (.string sT) w' ∧ (convert 26 9 (.slice AT kk cT)).run Try.prog w' = .ok (.string sT) w') (first | with_reducible exact hst | exact HS.out _ hbe)
            (first
              | (go_at_call 15; refine (size_any m _ _ (HST.out _ hbe) hms).mono ?_; rintro e wy ⟨rfl, hby⟩; rw [HSZK.out]; replace hbe := hbe.trans (Joins.below_le hby hbe.size); clear hby))
          have hbq : Below w1.heap.size w1 wy := HB1T.out.trans (Joins.below_le hbe HB1T.out.size)
          obtain ⟨wq, hwq⟩ : ∃ wq, wq = wy := ⟨_, rfl⟩
          rw [← hwq] at hbq ⊢
          have HBQ := Lib.hid hbq
          clear hbq hwq hbe hst HB1T HS HST sB sB'
          go_wp2_with fail
          go_loopw [13] (fun s13 wr => ∃ i : Nat, s13 = .int .i64 (i : Int) ∧ kk ≤ i ∧ i ≤ l.length ∧ Hid (Below w1.heap.size w1 wr)) (fun s13 _ => l.length - (intOf s13).toNat)
          case atStart => exact ⟨kk, rfl, Nat.le_refl _, hkl, HBQ⟩
          case round =>
            clear HBQ
            obtain ⟨i, rfl, hki, hi, hbr⟩ := hrel
            obtain ⟨wz, hwz⟩ : ∃ wz : World, wz = wr := ⟨_, rfl⟩
            subst hwz
            by_cases hil : i < l.length
            · have a1 : (i : Int) < (l.length : Int) := by omega
              have a0 : (0 : Int) ≤ (i : Int) := by omega
              obtain ⟨x, hx⟩ : ∃ x, l[i]? = some x := ⟨_, List.getElem?_eq_getElem hil⟩
              have hx0 := HZERO.out i x hx (by rw [← HKK.out]; exact hki)
              subst hx0
              obtain ⟨A0, c0, hv0, -, -, -, -, h5⟩ := HBYTE.out _ hbr.out
              injection hv0 with e1 e2 e3
              subst e1 e3
              obtain ⟨b, o, hA, -, -, hcell⟩ := h5 (by omega)
              subst hA
              have q0 : wz.cell? ⟨b, o + i, none⟩ = some (.int .u8 0) := hcell i _ (by unfold BS; rw [List.getElem?_map, hx]; rfl)
              clear hcell h5 hx
              go_wp2_with fail
              exact ⟨⟨i + 1, by go_num, by omega, hil, Lib.hid hbr.out⟩, by simp [intOf]; omega⟩
            · have a1 : ¬ (i : Int) < (l.length : Int) := by omega
              have HF := Lib.hid (HFIN.out _ hbr.out)
              go_wp2_with fail
              go_ret
              exact ⟨rfl, HF.out⟩
        · have herr : decErr l = 4 := by unfold decErr; rw [if_neg hok]
          rw [herr]
          have HF := Lib.hid (HFIN.out _ HB1D.out)
          clear herr hok
          go_upto_region 10 with fail
          rw [← HWD.out]
          go_wp2_with fail
          go_ret
          exact ⟨rfl, HF.out⟩
      · have hne : ¬ n.err = 0 := fun e => he0 (HER.out.trans e)
        have hvn := hE1 he0
        subst hvn
        obtain ⟨wx, hwx⟩ : ∃ wx, wx = w5 := ⟨_, rfl⟩
        rw [← hwx]
        have HBX : Hid (Below w1.heap.size w1 wx) := by rw [hwx]; exact HB15
        clear hwx HB15 HB14 HB13 HB2 hE0 hE1
        have cD := decode_any l _ wx (HBYTE.out _ HBX.out) (by omega)
        go_wp2_with fail
        refine cD.mono ?_
        rintro e wa ⟨va, rfl, hoa, hba⟩
        obtain ⟨m, hm⟩ : ∃ m, m = decNode l := ⟨_, rfl⟩
        rw [← hm] at hoa
        obtain ⟨Aa, ca, Aa', ca', rfl, -, -⟩ := id hoa
        obtain ⟨wd, hwd⟩ : ∃ wd, wd = wa.alloc (.cells #[.bool m.leaf, .slice Aa m.cells.length ca, .slice Aa' m.kids.length ca'] 31) := ⟨_, rfl⟩
        have hbd : Below wa.heap.size wa wd := by rw [hwd]; exact (Below.refl _ _).alloc (Nat.le_refl _) _
        have hxd : wd.heap[wa.heap.size]? = some (.cells #[.bool m.leaf, .slice Aa m.cells.length ca, .slice Aa' m.kids.length ca'] 31 (0, 0)) := by rw [hwd]; exact heap_alloc_new wa _
        have hb1a := HBX.out.trans (Joins.below_le hba HBX.out.size)
        have hb1d := hb1a.trans (Joins.below_le hbd hb1a.size)
        have hld : wa.heap.size < wd.heap.size := (Array.getElem?_eq_some_iff.1 hxd).1
        have hX : ∀ W, Below wd.heap.size wd W → W.cell? ⟨wa.heap.size, 0, none⟩ = some (.bool m.leaf) ∧ W.cell? ⟨wa.heap.size, 1, none⟩ = some (.slice Aa m.cells.length ca) ∧ W.cell? ⟨wa.heap.size, 2, none⟩ = some (.slice Aa' m.kids.length ca') := fun W hW => by
          have e := (hW.block _ hld).trans hxd
          exact ⟨(row_cells e).1 0, (row_cells e).1 1, (row_cells e).1 2⟩
        have hND : ∀ W, Below wd.heap.size wd W → NodeN W Any (.agg #[.bool m.leaf, .slice Aa m.cells.length ca, .slice Aa' m.kids.length ca']) m := fun W hW => ((hoa.below hbd).node.any).grow hW
        have HX := Lib.hid hX
        have HND := Lib.hid hND
        have HB1D := Lib.hid hb1d
        have HWD := Lib.hid hwd
        have HM := Lib.hid hm
        clear cD hoa hba hbd hxd hb1a hb1d hld hX hND hwd hm
        by_cases hok : decOk l = true
        · have herr : decErr l = 0 := by unfold decErr; rw [if_pos hok]
          obtain ⟨hmay2, h512, t, hlt, hnt⟩ := decOk_back hok
          have hmn : m = (rdNode (some l)).1 := by rw [HM.out]; unfold decNode; rw [if_pos hok]
          have hmany := rdNode_many (some l)
          rw [← hmn] at hmay2 hlt hmany
          have hmany' : m.cells.length ≤ 600 := Nat.le_trans hmany (by show l.length ≤ 600; omega)
          have hms := may_small hmay2 hmany'
          have hby : m.by.length ≤ l.length := by
            have := congrArg List.length hlt
            rw [List.length_append] at this
            omega
          have hme : m.err = 0 := err_ok hmay2 (by omega)
          have hsz : m.size = m.by.length := by unfold PN.size; rw [if_pos (m.chk_yes hmay2)]
          have htake : l.take m.by.length = m.by := by rw [hlt, List.take_left]
          have hzero : ∀ j x, l[j]? = some x → m.by.length ≤ j → x = 0 := fun j x hj hge => by
            rw [hlt, List.getElem?_append_right hge] at hj
            exact nought_get hnt hj
          have HTAKE := Lib.hid htake
          have HZERO := Lib.hid hzero
          rw [herr]
          clear hlt hnt hmn hmany hmay2 htake hzero herr hok
          go_upto_region 12 with fail
          rw [← HWD.out]
          obtain ⟨p0, p1, p2⟩ := HX.out _ (Below.refl _ _)
          have cE := encode_any m _ wd (HND.out _ (Below.refl _ _)) hms
          go_wp2_with fail
          refine cE.mono ?_
          rintro e wt ⟨vT, rfl, hT, hbt⟩
          have hoT := hT.1 hme
          rw [hme]
          obtain ⟨AT, cT, rfl⟩ := own_slice hoT
          have HB1T := Lib.hid (HB1D.out.trans (Joins.below_le hbt HB1D.out.size))
          obtain ⟨kk, hkk⟩ : ∃ kk, kk = m.by.length := ⟨_, rfl⟩
          have hkl : kk ≤ l.length := by omega
          have hkc : ∃ c', c' = cb ∧ l.length ≤ c' := by
            obtain ⟨A0, c0, hv0, h1, -⟩ := (HBYTE.out _ HBX.out).rd
            injection hv0 with _ _ hv0
            exact ⟨_, rfl, by omega⟩
          obtain ⟨cb', hcb', hkc⟩ := hkc
          have sB : ∀ W : World, (Instr.slice 26 (.slice Ab l.length cb) none (some (.int .i64 (kk : Int))) none).run Try.prog W = .ok (.slice Ab kk cb) W := fun W => tillU W Ab l.length cb kk (by omega)
          have sB' : ∀ W : World, (Instr.sliceAt 26 (.slice Ab l.length cb) none (some (.int .i64 (kk : Int))) none).run Try.prog W = .ok (.slice Ab kk cb) W := fun W => (run_sliceAt_slice _ _ _ _ _ _ elem_U).trans (sB W)
          obtain ⟨sT, hsT⟩ : ∃ sT : ByteArray, sT = ⟨m.by.toArray⟩ := ⟨_, rfl⟩
          have hS : ∀ W, Below wt.heap.size wt W → (W.cell? ⟨wa.heap.size, 0, none⟩ = some (.bool m.leaf) ∧ W.cell? ⟨wa.heap.size, 1, none⟩ = some (.slice Aa m.cells.length ca) ∧ W.cell? ⟨wa.heap.size, 2, none⟩ = some (.slice Aa' m.kids.length ca')) ∧ (convert 26 9 (.slice Ab kk cb)).run Try.prog W = .ok (.string sT) W ∧ (convert 26 9 (.slice AT kk cT)).run Try.prog W = .ok (.string sT) W := fun W hW => by
            have hdW := hbt.trans (Joins.below_le hW hbt.size)
            refine ⟨HX.out _ hdW, ?_, ?_⟩
            · have := BN.take (HBYTE.out _ (HB1T.out.trans (Joins.below_le hW HB1T.out.size))) hkl
              rw [hkk, HTAKE.out] at this
              rw [hkk, hsT]
              exact string_of this
            · have h1 : BN wt Any (.slice AT m.by.length cT) m.by := own_any hoT rfl
              rw [hkk, hsT]
              exact string_of (RowN.grow h1 hW)
          have hST : ∀ W, Below wt.heap.size wt W → NodeN W Any (.agg #[.bool m.leaf, .slice Aa m.cells.length ca, .slice Aa' m.kids.length ca']) m := fun W hW => HND.out _ (hbt.trans (Joins.below_le hW hbt.size))
          have hszk : m.size = kk := by rw [hsz, hkk]
          rw [← hkk]
          have HS := Lib.hid hS
          have HST := Lib.hid hST
          have HSZK := Lib.hid hszk
          have HKK := Lib.hid hkk
          have n1 : decide (l.length < kk) = false := decide_eq_false (by omega)
          clear cE hT hoT hbt hS hST hszk hsT p0 p1 p2 hkk hsz hme hmany'
          go_upto_region 13 with fail
          have hbe : Below wt.heap.size wt wt.drew := (Below.refl _ _).drew
          have hst := HS.out _ hbe
          go_region_held3 (fun w' => (w'.cell? ⟨wa.heap.size, 0, none⟩ = some (.bool m.leaf) ∧ w'.cell? ⟨wa.heap.size, 1, none⟩ = some (.slice Aa m.cells.length ca) ∧ w'.cell? ⟨wa.heap.size, 2, none⟩ = some (.slice Aa' m.kids.length ca')) ∧ (convert 26 9 (.slice Ab kk cb)).run Try.prog w' = .ok (.string sT) w' ∧ (convert 26 9 (.slice AT kk cT)).run Try.prog w' = .ok (.string sT) w') (first | with_reducible exact hst | exact HS.out _ hbe)
            (first
              | (go_at_call 15; refine (size_any m _ _ (HST.out _ hbe) hms).mono ?_; rintro e wy ⟨rfl, hby⟩; rw [HSZK.out]; replace hbe := hbe.trans (Joins.below_le hby hbe.size); clear hby))
          have hbq : Below w1.heap.size w1 wy := HB1T.out.trans (Joins.below_le hbe HB1T.out.size)
          obtain ⟨wq, hwq⟩ : ∃ wq, wq = wy := ⟨_, rfl⟩
          rw [← hwq] at hbq ⊢
          have HBQ := Lib.hid hbq
          clear hbq hwq hbe hst HB1T HS HST sB sB'
          go_wp2_with fail
          go_loopw [13] (fun s13 wr => ∃ i : Nat, s13 = .int .i64 (i : Int) ∧ kk ≤ i ∧ i ≤ l.length ∧ Hid (Below w1.heap.size w1 wr)) (fun s13 _ => l.length - (intOf s13).toNat)
          case atStart => exact ⟨kk, rfl, Nat.le_refl _, hkl, HBQ⟩
          case round =>
            clear HBQ
            obtain ⟨i, rfl, hki, hi, hbr⟩ := hrel
            obtain ⟨wz, hwz⟩ : ∃ wz : World, wz = wr := ⟨_, rfl⟩
            subst hwz
            by_cases hil : i < l.length
            · have a1 : (i : Int) < (l.length : Int) := by omega
              have a0 : (0 : Int) ≤ (i : Int) := by omega
              obtain ⟨x, hx⟩ : ∃ x, l[i]? = some x := ⟨_, List.getElem?_eq_getElem hil⟩
              have hx0 := HZERO.out i x hx (by rw [← HKK.out]; exact hki)
              subst hx0
              obtain ⟨A0, c0, hv0, -, -, -, -, h5⟩ := HBYTE.out _ hbr.out
              injection hv0 with e1 e2 e3
              subst e1 e3
              obtain ⟨b, o, hA, -, -, hcell⟩ := h5 (by omega)
              subst hA
              have q0 : wz.cell? ⟨b, o + i, none⟩ = some (.int .u8 0) := hcell i _ (by unfold BS; rw [List.getElem?_map, hx]; rfl)
              clear hcell h5 hx
              go_wp2_with fail
              exact ⟨⟨i + 1, by go_num, by omega, hil, Lib.hid hbr.out⟩, by simp [intOf]; omega⟩
            · have a1 : ¬ (i : Int) < (l.length : Int) := by omega
              have HF := Lib.hid (HFIN.out _ hbr.out)
              go_wp2_with fail
              go_ret
              exact ⟨rfl, HF.out⟩
        · have herr : decErr l = 4 := by unfold decErr; rw [if_neg hok]
          rw [herr]
          have HF := Lib.hid (HFIN.out _ HB1D.out)
          clear herr hok
          go_upto_region 10 with fail
          rw [← HWD.out]
          go_wp2_with fail
          go_ret
          exact ⟨rfl, HF.out⟩
    · have a1 : (2000 : Int) < (l.length : Int) := by omega
      go_wp2_with fail
      refine cA.mono ?_
      rintro e w3 ⟨rfl, hb3⟩
      have HF := Lib.hid (HFIN.out _ (HB2.out.trans (Joins.below_le hb3 HB2.out.size)))
      clear cA hb3
      go_wp2_with fail
      go_ret
      exact ⟨rfl, HF.out⟩
end Go.Proofs.Ytedcknlafkokkaa
