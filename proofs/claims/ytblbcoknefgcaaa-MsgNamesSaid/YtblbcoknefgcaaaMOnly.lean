/-
  MsgOnly walked. No statement is proved here. No condition.
-/
import Derived.Test.YtblbcoknefgcaaaMWork
namespace Go.Proofs.Ytblbcoknefgcaaa
open Go.RowKit

/-- Decode's answer: refused, or the message that has these bytes -/
theorem dec_cases {w w' : World} {l : List UInt8} {e : Ending} (h : DecP w w' l e) : e = .returned (.tuple #[.agg zC, .int .i64 4]) ∨
    ∃ (m : MG) (vE vL vP vX : Value), e = .returned (.tuple #[.agg (m.cells vE vL vP vX), .int .i64 0]) ∧ MsgO w' w.heap.size m vE vL vP vX ∧ l = m.by ∧ m.fit ∧ m.small ∧ kindB m.kind = true ∧ m.by.length ≤ 8192 := by
  by_cases hl : 8192 < l.length
  · exact .inl (h.long hl)
  obtain ⟨m, st, h1, h2, h3⟩ := h.ex (by omega)
  by_cases hs : st = some [] ∧ kindB m.kind = true
  · obtain ⟨rfl, hk⟩ := hs
    obtain ⟨vE, vL, vP, vX, e1, e2⟩ := h3 rfl hk
    obtain ⟨e3, hf, hm⟩ := msg_only h1
    have e3 := Option.some.inj e3
    rw [List.append_nil] at e3
    exact .inr ⟨m, vE, vL, vP, vX, e1, e2, e3, hf, hm, hk, by rw [← e3]; omega⟩
  · exact .inl (h2 hs)
/-- a beginning of a message's bytes is refused -/
theorem dec_cut {m : MG} (hf : m.fit) (hs : m.small) (hk : kindB m.kind = true) {k : Nat} (hlt : k < m.by.length) {w w' : World} {e : Ending} (h : DecP w w' (m.by.take k) e) : e = .returned (.tuple #[.agg zC, .int .i64 4]) := by
  rcases dec_cases h with h | ⟨n, -, -, -, -, -, -, e1, nf, ns, -, -⟩
  · exact h
  · exfalso
    have h1 := msg_back nf ns (m.by.drop k)
    rw [← e1, List.take_append_drop] at h1
    have h2 := msg_back hf hs []
    rw [List.append_nil] at h2
    have h3 := Option.some.inj (msg_same h1 h2).2
    have := congrArg List.length h3
    rw [List.length_drop] at this
    simp at this
    omega
theorem elem_bytes : Try.prog.underlying 23 = some (.slice (Try.prog.elem 23)) := by kernel_rfl
theorem size_bytes (W : World) : (sizeOf (Try.prog.elem 23)).run Try.prog W = .ok 1 W := by kernel_rfl
theorem slice_till (W : World) (a : Option Addr) (len c : Nat) (h : Int) (k : Nat) (hk : h = (k : Int)) (hc : k ≤ c) :
    (Instr.slice 23 (.slice a len c) none (some (.int .i64 h)) none).run Try.prog W = .ok (.slice a k c) W := by
  subst hk
  rw [run_slice_h _ _ _ _ _ elem_bytes .i64 (k : Int) (by omega) (by omega), size_bytes]
  simp only [Result.andThen, sliced, Int.toNat_natCast, Nat.sub_zero, Nat.zero_mul]
  split
  · rfl
  · cases a <;> simp [Addr.add]
theorem msg_out_ok {m : MG} (hk : kindB m.kind = true) (hl : m.by.length ≤ 8192) : m.out = (m.by, 0) := out_yes hk (by omega)
set_option maxHeartbeats 8000000 in
set_option maxRecDepth 100000 in
theorem only_walk (l : List UInt8) (cut : Int) (v : Value) (w : World) (h : Rd w w.heap.size v l) (hl : l.length ≤ 140737488355328) :
    Calls Try.prog 7 #[v, .int .i64 cut] w fun e w' => e = .returned (.bool true) ∧ Below w.heap.size w w' := by
  obtain ⟨Av, cv', rfl, q1, q2, q3, q4⟩ := h
  have h : Rd w w.heap.size (.slice Av l.length cv') l := ⟨Av, cv', rfl, q1, q2, q3, q4⟩
  have c0 := works_any w
  have HR := Lib.hid h
  have HL := Lib.hid (And.intro hl q1)
  have hzz := zero_msg
  obtain ⟨Z, hZ⟩ : ∃ Z, Z = zC := ⟨_, rfl⟩
  rw [← hZ] at hzz
  have hZ33 : Z.size = 33 := by rw [hZ]; rfl
  have hZS : (Try.prog.info? 38).map (·.size) = some Z.size := by rw [hZ33]; exact msg_size
  have hZo : Z.all (·.oneCell') = true := by rw [hZ]; exact zC_one
  have HZ := Lib.hid hZ
  clear h q1 q2 q3 q4 hl hZ
  go_enter Try.func7, Try.ntmps7
  go_wp2_with fail
  refine c0.mono ?_
  rintro e w1 ⟨rfl, hb1⟩
  clear c0
  have HB1 := Lib.hid hb1
  clear hb1
  by_cases hlong : (l.length : Int) > 20000
  · have c0 := works_any w1
    go_wp2_with fail
    refine c0.mono ?_
    rintro e w2 ⟨rfl, hb2⟩
    have HF := Lib.hid (HB1.out.trans (Joins.below_le hb2 HB1.out.size))
    clear c0 hb2
    go_wp2_with fail
    go_ret
    exact ⟨rfl, HF.out⟩
  have hl2 : (l.length : Int) ≤ 20000 := by omega
  have cD := decode_any l (.slice Av l.length cv') w1 (HR.out.below HB1.out HB1.out.size) HL.out.1
  clear hlong
  go_wp2_with fail
  refine cD.mono ?_
  intro e w2 hd
  clear cD
  have HB2 := Lib.hid (HB1.out.trans (Joins.below_le hd.bel HB1.out.size))
  rcases dec_cases hd with rfl | ⟨m, vE, vL, vP, vX, rfl, hmo, hby, hf, hm, hk, h8⟩
  · rw [← HZ.out]
    obtain ⟨w3, hw3⟩ : ∃ x, x = w2.alloc (.cells Z 38) := ⟨_, rfl⟩
    have hb3 : Below w2.heap.size w2 w3 := by rw [hw3]; exact (Below.refl _ _).alloc (Nat.le_refl _) _
    obtain ⟨p, hp⟩ : ∃ p, p = w2.heap.size := ⟨_, rfl⟩
    have hp3 : w3.heap[p]? = some (.cells Z 38 (0, 0)) := by rw [hw3, hp]; exact heap_alloc_new w2 _
    have hset := setRow_heap w3 p Z Z _ _ hp3
    have k0 : (w3.setRow p Z).cell? ⟨p, 0, none⟩ = some (.int .u8 0) := by rw [(blk_cells hset).1 0, HZ.out]; rfl
    have HF := Lib.hid (HB2.out.trans (Joins.below_le (below_setRow hb3 (Nat.le_of_eq hp.symm) Z) HB2.out.size))
    have HW := Lib.hid (And.intro hw3 hp)
    clear hw3 hp hb3 hd hset
    go_upto_region 4 with (rw [← HW.out.1, ← HW.out.2]; refine wpList_store_row rfl 38 (.tmp 5) (.tmp 21) rfl p Z rfl rfl 38 Z hp3 hZS rfl hZo ?_)
    go_wp2_with fail
    go_ret
    exact ⟨rfl, HF.out⟩
  obtain ⟨AE, cE, rfl, -, -⟩ := hmo.n.e.slice
  obtain ⟨AL, cL, rfl, -, -⟩ := hmo.n.l.slice
  obtain ⟨AP, cP, rfl, -, -⟩ := hmo.n.p.slice
  obtain ⟨AX, cX, rfl, -, -⟩ := hmo.n.x.slice
  obtain ⟨cm, hcm⟩ : ∃ cm, cm = m.cells (.slice AE m.entries.length cE) (.slice AL m.list.length cL) (.slice AP m.pairs.length cP) (.slice AX m.lasts.length cX) := ⟨_, rfl⟩
  rw [← hcm]
  have hcm33 : cm.size = 33 := by rw [hcm]; rfl
  have hcmS : (Try.prog.info? 38).map (·.size) = some cm.size := by rw [hcm33]; exact msg_size
  have hcmo : cm.all (·.oneCell') = true := by rw [hcm]; exact cells_one _ _ _ _ _ _ _ _ _ _ _ _ _
  have hZc : Z.size = cm.size := by rw [hZ33, hcm33]
  obtain ⟨w3, hw3⟩ : ∃ x, x = w2.alloc (.cells Z 38) := ⟨_, rfl⟩
  have hb3 : Below w2.heap.size w2 w3 := by rw [hw3]; exact (Below.refl _ _).alloc (Nat.le_refl _) _
  obtain ⟨p, hp⟩ : ∃ p, p = w2.heap.size := ⟨_, rfl⟩
  have hp3 : w3.heap[p]? = some (.cells Z 38 (0, 0)) := by rw [hw3, hp]; exact heap_alloc_new w2 _
  obtain ⟨x, hx⟩ : ∃ x, x = w3.setRow p cm := ⟨_, rfl⟩
  have hpx : x.heap[p]? = some (.cells cm 38 (0, 0)) := by rw [hx]; exact setRow_heap w3 p Z cm _ _ hp3
  have hbx : Below w2.heap.size w2 x := by rw [hx]; exact below_setRow hb3 (Nat.le_of_eq hp.symm) _
  have cE := enc_prog m _ _ _ _ x (hmo.n.grow hbx) hf
  rw [msg_out_ok hk h8, ← hcm, ← hby] at cE
  have HBX := Lib.hid (HB2.out.trans (Joins.below_le hbx HB2.out.size))
  have HM := Lib.hid (And.intro hf (And.intro hm (And.intro hk (And.intro hby h8))))
  have HW := Lib.hid (And.intro hw3 (And.intro hp hx))
  clear hw3 hp hb3 hd hx hbx hmo hcm hf hm hk hby h8
  go_upto_region 4 with (rw [← HW.out.1, ← HW.out.2.1]; refine wpList_store_row rfl 38 (.tmp 5) (.tmp 21) rfl p cm rfl rfl 38 Z hp3 hcmS hZc hcmo ?_)
  rw [← HW.out.2.2]
  clear HW hp3
  go_wp2_with (refine wpList_load_row rfl 38 (.tmp 5) rfl p rfl 38 cm (0, 0) _ hpx Try.underlying38 rfl hcmS ?_)
  refine cE.mono ?_
  intro e w4 hE
  obtain ⟨⟨A4, c4, rfl, ho4⟩, hb4⟩ := hE
  have hB4 : Below w.heap.size w w4 := HBX.out.trans (Joins.below_le hb4 HBX.out.size)
  have hR4 := HR.out.below hB4 hB4.size
  have q1 := run_str (P := Try.prog) 23 5 9 Try.underlying23 Try.underlying5 Try.underlying9 (Rd.own ho4)
  have q2 := run_str (P := Try.prog) 23 5 9 Try.underlying23 Try.underlying5 Try.underlying9 hR4
  have HB4 := Lib.hid hB4
  have HR4 := Lib.hid hR4
  have hl0 : 0 < l.length := by
    rw [HM.out.2.2.2.1]
    unfold MG.by
    have : kindB m.kind = true := HM.out.2.2.1
    simp only [kindB, Bool.and_eq_true, decide_eq_true_eq] at this
    have h1 := uv_pos m.kind.toNat
    rw [cv_in (by omega) (by omega)]
    simp only [List.length_append]
    omega
  obtain ⟨ku, hk1, hk2⟩ : ∃ ku : Nat, ku < l.length ∧ (IntKind.u64.wrap cut).tmod (l.length : Int) = (ku : Int) := by
    have hw : 0 ≤ IntKind.u64.wrap cut := by rw [show IntKind.u64.wrap cut = cut % 18446744073709551616 by simp [IntKind.wrap, IntKind.bits, IntKind.signed]]; omega
    have h1 := Int.tmod_lt_of_pos (IntKind.u64.wrap cut) (show (0 : Int) < (l.length : Int) by omega)
    have h2 := Int.tmod_nonneg (l.length : Int) hw
    exact ⟨((IntKind.u64.wrap cut).tmod (l.length : Int)).toNat, by omega, by omega⟩
  have hl0' : ¬ l.length = 0 := by omega
  have hkl : (ku : Int) ≤ 20000 := by omega
  have hsl := fun W => slice_till W Av l.length cv' (ku : Int) ku rfl (by have := HL.out.2; omega)
  have cC := decode_any (l.take ku) (.slice Av ku cv') w4 (Rd.takeAny hR4 (by omega)) (by rw [List.length_take]; omega)
  clear ho4 hb4 hB4 hR4 hpx hcmo hZc hcm33
  go_upto_region 9 with fail
  go_wp2_with fail
  refine cC.mono ?_
  intro e w5 hd
  clear cC q1 q2 hsl
  obtain rfl := dec_cut HM.out.1 HM.out.2.1 HM.out.2.2.1 (k := ku) (by rw [← HM.out.2.2.2.1]; exact hk1) (by rw [← HM.out.2.2.2.1]; exact hd)
  rw [← HZ.out]
  obtain ⟨w6, hw6⟩ : ∃ x, x = w5.alloc (.cells Z 38) := ⟨_, rfl⟩
  have hb6 : Below w5.heap.size w5 w6 := by rw [hw6]; exact (Below.refl _ _).alloc (Nat.le_refl _) _
  obtain ⟨q, hq⟩ : ∃ q, q = w5.heap.size := ⟨_, rfl⟩
  have hq6 : w6.heap[q]? = some (.cells Z 38 (0, 0)) := by rw [hw6, hq]; exact heap_alloc_new w5 _
  have HB5 := HB4.out.trans (Joins.below_le hd.bel HB4.out.size)
  have HF := Lib.hid (HB5.trans (Joins.below_le (below_setRow hb6 (Nat.le_of_eq hq.symm) Z) HB5.size))
  have HW6 := Lib.hid (And.intro hw6 hq)
  clear hw6 hq hb6 hd HB5 hk2 hkl
  go_wp2_with (rw [← HW6.out.1, ← HW6.out.2]; refine wpList_store_row rfl 38 (.tmp 8) (.tmp 57) rfl q Z rfl rfl 38 Z hq6 hZS rfl hZo ?_)
  go_ret
  exact ⟨rfl, HF.out⟩
end Go.Proofs.Ytblbcoknefgcaaa
