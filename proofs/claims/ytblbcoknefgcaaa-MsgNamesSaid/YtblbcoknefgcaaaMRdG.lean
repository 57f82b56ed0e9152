/-
  The small structs of a message, read. No statement is proved here. No condition.
-/
import Derived.Test.YtblbcoknefgcaaaMRdF
namespace Go.Proofs.Ytblbcoknefgcaaa
open Go.RowKit

section
variable {w W W' : World} {R b o : Nat} {st st' : RS} {vs us : List Value}
theorem RdTo.step (h : RdTo w W R b o st vs) (g : RdTo W W' R b (o + vs.length) st' us) : RdTo w W' R b o st' (vs ++ us) := ⟨g.rd, h.set.trans g.set⟩
theorem RdTo.below (h : RdTo w W R b o st vs) (hb : Below W.heap.size W W') : RdTo w W' R b o st vs := ⟨h.rd.grow hb, h.set.post ((SetTo.of_below hb b R o))⟩
theorem RdTo.drew (h : RdTo w W R b o st vs) : RdTo w W.drew R b o st vs := h.below (Below.refl _ _).drew
theorem RdTo.start (h : Rdr 151 w R st) (b o : Nat) : RdTo w w R b o st [] := ⟨h, SetTo.of_below (Below.refl _ _) b R o⟩
end
/-- a result, read -/
def rPR (st : RS) : PR × RS := (⟨(rK st).1, (rF (rK st).2).1, (rS (rF (rK st).2).2).1⟩, (rS (rF (rK st).2).2).2)
def rPO (st : RS) : PO × RS := (⟨(rK st).1, (rS (rK st).2).1, (rS (rS (rK st).2).2).1, (rS (rS (rS (rK st).2).2).2).1, (rF (rS (rS (rS (rK st).2).2).2).2).1⟩, (rF (rS (rS (rS (rK st).2).2).2).2).2)
def rCM (st : RS) : CM × RS := (⟨(rK st).1, (rN (rK st).2).1, (rN (rN (rK st).2).2).1, (rN (rN (rN (rK st).2).2).2).1⟩, (rN (rN (rN (rK st).2).2).2).2)
set_option maxHeartbeats 4000000 in
set_option maxRecDepth 100000 in
/-- result -/
theorem r_result (R b o : Nat) (st : RS) (w : World) (h : Rdr 151 w R st) (hc : CellOf w R b o 3) :
    Calls Try.prog 83 #[.iface 77 (.agg #[.pointer (some ⟨R, 0, none⟩)]), .pointer (some ⟨b, o, none⟩)] w fun e w' => e = .returned (.tuple #[]) ∧ RdTo w w' R b o (rPR st).2 (PR.vals (rPR st).1) := by
  have HR0 := Lib.hid (RdTo.start h b o).drew
  have HC := Lib.hid hc
  clear h hc
  go_enter Try.func83, Try.ntmps83
  have hm := metr_kind
  have hv := nilr_kind
  have c0 := r_kind R b o _ w.drew HR0.out.rd ((HC.out.same HR0.out.set).sub (k := 0) (m := 1) (by omega))
  go_wp2_with fail
  go_region_with (go_at_call 161; refine c0.mono ?_; rintro e w1 ⟨rfl, hr⟩)
  have HR1 := Lib.hid (HR0.out.step hr).drew
  clear hr hm hv c0 HR0
  have hm := metr_flag
  have hv := nilr_flag
  have c1 := r_flag R b (o + 1) _ w1.drew HR1.out.rd ((HC.out.same HR1.out.set).sub (k := 1) (m := 1) (by omega))
  go_wp2_with fail
  go_region_with (go_at_call 160; refine c1.mono ?_; rintro e w2 ⟨rfl, hr⟩)
  have HR2 := Lib.hid (HR1.out.step hr).drew
  clear hr hm hv c1 HR1
  have hm := metr_text
  have hv := nilr_text
  have c2 := r_text R b (o + 2) _ w2.drew HR2.out.rd ((HC.out.same HR2.out.set).sub (k := 2) (m := 1) (by omega))
  go_wp2_with fail
  go_region_with (go_at_call 165; refine c2.mono ?_; rintro e w3 ⟨rfl, hr⟩)
  have HR3 := Lib.hid (HR2.out.step hr)
  clear hr hm hv c2 HR2
  go_wp2_with fail
  go_end0
  exact ⟨rfl, HR3.out⟩
set_option maxHeartbeats 4000000 in
set_option maxRecDepth 100000 in
/-- op -/
theorem r_op (R b o : Nat) (st : RS) (w : World) (h : Rdr 151 w R st) (hc : CellOf w R b o 5) :
    Calls Try.prog 81 #[.iface 77 (.agg #[.pointer (some ⟨R, 0, none⟩)]), .pointer (some ⟨b, o, none⟩)] w fun e w' => e = .returned (.tuple #[]) ∧ RdTo w w' R b o (rPO st).2 (PO.vals (rPO st).1) := by
  have HR0 := Lib.hid (RdTo.start h b o).drew
  have HC := Lib.hid hc
  clear h hc
  go_enter Try.func81, Try.ntmps81
  have hm := metr_kind
  have hv := nilr_kind
  have c0 := r_kind R b o _ w.drew HR0.out.rd ((HC.out.same HR0.out.set).sub (k := 0) (m := 1) (by omega))
  go_wp2_with fail
  go_region_with (go_at_call 161; refine c0.mono ?_; rintro e w1 ⟨rfl, hr⟩)
  have HR1 := Lib.hid (HR0.out.step hr).drew
  clear hr hm hv c0 HR0
  obtain ⟨x1, hx1⟩ : ∃ x, x = w1.drew.alloc (.cells #[.pointer (some ⟨b, o + 1, none⟩), .pointer (some ⟨b, o + 2, none⟩), .pointer (some ⟨b, o + 3, none⟩)] 136) := ⟨_, rfl⟩
  have hb1 : Below w1.drew.heap.size w1.drew x1 := by rw [hx1]; exact (Below.refl _ _).alloc (Nat.le_refl _) _
  have hg1 : x1.heap[w1.drew.heap.size]? = some (.cells #[.pointer (some ⟨b, o + 1, none⟩), .pointer (some ⟨b, o + 2, none⟩), .pointer (some ⟨b, o + 3, none⟩)] 136 (0, 0)) := by rw [hx1]; exact heap_alloc_new w1.drew _
  have HY := Lib.hid (HR1.out.below hb1)
  have c1 := r_texts R b (o + 1) w1.drew.heap.size 3 _ x1 HY.out.rd ((HC.out.same HY.out.set).sub (k := 1) (m := 3) (by omega)) (by decide) (by obtain ⟨cs, T, h1, -⟩ := (HC.out.same HR1.out.set).ex; have := lt_of_heap h1; omega) (by have := HR1.out.rd.lt; omega) hg1
  have HX := Lib.hid hx1
  rw [hx1] at c1
  clear hx1 hb1 hg1
  go_wp2_with fail
  go_region_with (go_at_call 90; refine c1.mono ?_; rintro e w2 ⟨rfl, hr⟩)
  rw [← HX.out] at hr
  have HR2 := Lib.hid (HY.out.step hr).drew
  clear hr c1 HR1 HY HX
  have hm := metr_flag
  have hv := nilr_flag
  have c2 := r_flag R b (o + 4) _ w2.drew HR2.out.rd ((HC.out.same HR2.out.set).sub (k := 4) (m := 1) (by omega))
  go_wp2_with fail
  go_region_with (go_at_call 160; refine c2.mono ?_; rintro e w3 ⟨rfl, hr⟩)
  have HR3 := Lib.hid (HR2.out.step hr)
  clear hr hm hv c2 HR2
  go_wp2_with fail
  go_end0
  exact ⟨rfl, HR3.out⟩
set_option maxHeartbeats 4000000 in
set_option maxRecDepth 100000 in
/-- command -/
theorem r_command (R b o : Nat) (st : RS) (w : World) (h : Rdr 151 w R st) (hc : CellOf w R b o 4) :
    Calls Try.prog 93 #[.iface 77 (.agg #[.pointer (some ⟨R, 0, none⟩)]), .pointer (some ⟨b, o, none⟩)] w fun e w' => e = .returned (.tuple #[]) ∧ RdTo w w' R b o (rCM st).2 (CM.vals (rCM st).1) := by
  have HR0 := Lib.hid (RdTo.start h b o).drew
  have HC := Lib.hid hc
  clear h hc
  go_enter Try.func93, Try.ntmps93
  have hm := metr_kind
  have hv := nilr_kind
  have c0 := r_kind R b o _ w.drew HR0.out.rd ((HC.out.same HR0.out.set).sub (k := 0) (m := 1) (by omega))
  go_wp2_with fail
  go_region_with (go_at_call 161; refine c0.mono ?_; rintro e w1 ⟨rfl, hr⟩)
  have HR1 := Lib.hid (HR0.out.step hr).drew
  clear hr hm hv c0 HR0
  obtain ⟨x1, hx1⟩ : ∃ x, x = w1.drew.alloc (.cells #[.pointer (some ⟨b, o + 1, none⟩), .pointer (some ⟨b, o + 2, none⟩), .pointer (some ⟨b, o + 3, none⟩)] 92) := ⟨_, rfl⟩
  have hb1 : Below w1.drew.heap.size w1.drew x1 := by rw [hx1]; exact (Below.refl _ _).alloc (Nat.le_refl _) _
  have hg1 : x1.heap[w1.drew.heap.size]? = some (.cells #[.pointer (some ⟨b, o + 1, none⟩), .pointer (some ⟨b, o + 2, none⟩), .pointer (some ⟨b, o + 3, none⟩)] 92 (0, 0)) := by rw [hx1]; exact heap_alloc_new w1.drew _
  have HY := Lib.hid (HR1.out.below hb1)
  have c1 := r_nums R b (o + 1) w1.drew.heap.size 3 _ x1 HY.out.rd ((HC.out.same HY.out.set).sub (k := 1) (m := 3) (by omega)) (by decide) (by obtain ⟨cs, T, h1, -⟩ := (HC.out.same HR1.out.set).ex; have := lt_of_heap h1; omega) (by have := HR1.out.rd.lt; omega) hg1
  have HX := Lib.hid hx1
  rw [hx1] at c1
  clear hx1 hb1 hg1
  go_wp2_with fail
  go_region_with (go_at_call 80; refine c1.mono ?_; rintro e w2 ⟨rfl, hr⟩)
  rw [← HX.out] at hr
  have HR2 := Lib.hid (HY.out.step hr)
  clear hr c1 HR1 HY HX
  go_wp2_with fail
  go_end0
  exact ⟨rfl, HR2.out⟩
set_option maxHeartbeats 4000000 in
set_option maxRecDepth 100000 in
/-- errno -/
theorem r_errno (R b o : Nat) (st : RS) (w : World) (h : Rdr 151 w R st) (hc : CellOf w R b o 1) {n0 : Int} (hn0 : I64 n0) (h0 : w.cell? ⟨b, o, none⟩ = some (.int .i64 n0)) :
    Calls Try.prog 82 #[.iface 77 (.agg #[.pointer (some ⟨R, 0, none⟩)]), .pointer (some ⟨b, o, none⟩)] w fun e w' => e = .returned (.tuple #[]) ∧ RdTo w w' R b o (rN st).2 [.int .i64 (rN st).1] := by
  obtain ⟨x, hx⟩ : ∃ x, x = w.alloc (.cells #[.int .i64 n0] 3) := ⟨_, rfl⟩
  have hbx : Below w.heap.size w x := by rw [hx]; exact (Below.refl _ _).alloc (Nat.le_refl _) _
  have hg : x.heap[w.heap.size]? = some (.cells #[.int .i64 n0] 3 (0, 0)) := by rw [hx]; exact heap_alloc_new w _
  have hRw := h.lt
  have cN := r_num R w.heap.size 0 st x (h.grow hbx) ⟨hRw, _, _, hg, by simp⟩
  have hm := metr_num
  have hv := nilr_num
  have HX := Lib.hid (And.intro hx (And.intro hbx hg))
  have HC := Lib.hid hc
  have hwr : wrap64 n0 = n0 := by unfold I64 at hn0; unfold wrap64; omega
  have hbw : b < w.heap.size := by obtain ⟨cs, T, h1, -⟩ := hc.ex; exact lt_of_heap h1
  have HBW := Lib.hid hbw
  rw [hx] at cN
  clear hx hbx hg h hc hRw hbw
  go_enter Try.func82, Try.ntmps82
  go_wp2_with fail
  refine cN.mono ?_
  rintro e w1 ⟨rfl, hr⟩
  rw [← HX.out.1] at hr
  obtain ⟨c1, e1, e2, -, e4⟩ := hr.set.blk _ _ HX.out.2.2
  have d0 : w1.cell? ⟨w.heap.size, 0, none⟩ = some (.int .i64 (rN st).1) := ((blk_cells e1).1 0).trans (e4 (by simp) 0 _ rfl)
  -- the message's own block is as it was
  have hs0 : SetTo w w1 b R o [] := by
    refine ⟨hr.set.os.trans HX.out.2.1.os, hr.set.tape.trans HX.out.2.1.tape, hr.set.output.trans HX.out.2.1.output, Nat.le_trans HX.out.2.1.size hr.set.size, fun k hk _ h2 => (hr.set.block k (Nat.lt_of_lt_of_le hk HX.out.2.1.size) (by omega) h2).trans (HX.out.2.1.block k hk), fun cs T hc => ?_⟩
    exact ⟨cs, (hr.set.block b (Nat.lt_of_lt_of_le HBW.out HX.out.2.1.size) (by have := HBW.out; omega) (by have := HC.out.lt; omega)).trans ((HX.out.2.1.block b HBW.out).trans hc), rfl, fun _ _ => rfl, fun _ j v hj => by cases hj⟩
  obtain ⟨cs, T, hk, ho⟩ := (HC.out.same hs0).ex
  have hf0 : w1.frozen? ⟨b, o, none⟩ = false := (blk_cells hk).2 o
  obtain ⟨y, hy⟩ : ∃ y, w1.cell? ⟨b, o, none⟩ = some y := ⟨cs[o]'(by omega), by rw [(blk_cells hk).1 o]; exact Array.getElem?_eq_getElem _⟩
  have HF : Hid (RdTo w (w1.setCell ⟨b, o, none⟩ (.int .i64 (rN st).1)) R b o (rN st).2 [.int .i64 (rN st).1]) := Lib.hid ⟨Rdr.setB hr.rd HC.out.lt _, hs0.store hk _⟩
  obtain ⟨n, hn⟩ : ∃ n, n = (rN st).1 := ⟨_, rfl⟩
  have hnr : I64 (rN st).1 := rN_range st
  have hwn : wrap64 n = n := by rw [hn]; unfold I64 at hnr; unfold wrap64; omega
  have HN := Lib.hid hn
  rw [← hn] at d0 HF
  clear hr e1 e2 e4 hs0 hk ho cN hm hv hnr hn
  go_wp2_with fail
  go_end0
  refine ⟨rfl, ?_⟩
  rw [← HN.out]
  exact HF.out
end Go.Proofs.Ytblbcoknefgcaaa
