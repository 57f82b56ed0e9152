/-
  A pair, a last write, an entry, read. No statement is proved here. No condition.
-/
import Derived.Test.YtblbcoknefgcaaaMRdL
namespace Go.Proofs.Ytblbcoknefgcaaa
open Go.RowKit

def rPP (st : RS) : PP × RS := (⟨(rS st).1, (rS (rS st).2).1⟩, (rS (rS st).2).2)
def rPL (st : RS) : PL × RS := (⟨(rN st).1, (rN (rN st).2).1, (rPR (rN (rN st).2).2).1⟩, (rPR (rN (rN st).2).2).2)
def rEN (st : RS) : EN × RS := (⟨(rN st).1, (rK (rN st).2).1, (rS (rK (rN st).2).2).1, (rList rN (rS (rK (rN st).2).2).2).1⟩, (rList rN (rS (rK (rN st).2).2).2).2)
/-- the box that a closure has captured -/
def BoxR (w : World) (pb R : Nat) : Prop := w.heap[pb]? = some (.cells #[.iface 77 (.agg #[.pointer (some ⟨R, 0, none⟩)])] 115 (0, 0))
theorem BoxR.below {w w' : World} {pb R : Nat} (h : BoxR w pb R) (hb : Below w.heap.size w w') : BoxR w' pb R := (hb.block pb (lt_of_heap h)).trans h
theorem BoxR.ne {w : World} {pb R : Nat} {st : RS} (h : BoxR w pb R) (hr : Rdr 151 w R st) : pb ≠ R := fun e => by
  subst e
  obtain ⟨v, hk, -⟩ := hr
  exact apart_T h hk (by decide) rfl
theorem BoxR.set {w w' : World} {pb R b q : Nat} {vs : List Value} (h : BoxR w pb R) (hs : SetTo w w' b R q vs) (h1 : pb ≠ b) (h2 : pb ≠ R) : BoxR w' pb R := (hs.block pb (lt_of_heap h) h1 h2).trans h
set_option maxHeartbeats 4000000 in
set_option maxRecDepth 100000 in
theorem r_msg2 (R b o pb : Nat) (st : RS) (w : World) (h : Rdr 151 w R st) (hc : CellOf w R b o 2) (hbx : BoxR w pb R) (hpb : pb ≠ b) :
    Calls Try.prog 89 #[.pointer (some ⟨b, o, none⟩), .pointer (some ⟨pb, 0, none⟩)] w fun e w' => Hid (e = .returned (.tuple #[]) ∧ RdTo w w' R b o (rPP st).2 (PP.vals (rPP st).1)) := by
  have HR0 := Lib.hid (RdTo.start h b o).drew
  have HC := Lib.hid hc
  have HB0 := Lib.hid (And.intro hbx (And.intro hpb (hbx.ne h)))
  have hp0 := (blk_cells hbx).1 0
  have hp0d : w.drew.cell? ⟨pb, 0, none⟩ = _ := hp0
  have hbw : b < w.heap.size := by obtain ⟨cs, T, h1, -⟩ := hc.ex; exact lt_of_heap h1
  have hRw := h.lt
  clear h hc hbx hpb
  obtain ⟨x0, hx0⟩ : ∃ x, x = w.drew.alloc (.cells #[.pointer (some ⟨b, o, none⟩), .pointer (some ⟨b, o + 1, none⟩)] 136) := ⟨_, rfl⟩
  have hb0 : Below w.drew.heap.size w.drew x0 := by rw [hx0]; exact (Below.refl _ _).alloc (Nat.le_refl _) _
  have hg0 : x0.heap[w.drew.heap.size]? = some (.cells #[.pointer (some ⟨b, o, none⟩), .pointer (some ⟨b, o + 1, none⟩)] 136 (0, 0)) := by rw [hx0]; exact heap_alloc_new w.drew _
  have HY := Lib.hid (HR0.out.below hb0)
  have c0 := r_texts R b o w.drew.heap.size 2 _ x0 HY.out.rd ((HC.out.same HY.out.set).sub (k := 0) (m := 2) (by omega)) (by decide) (show w.heap.size ≠ b by omega) (show w.heap.size ≠ R by omega) hg0
  have hp0x : x0.cell? ⟨pb, 0, none⟩ = _ := (blk_cells ((show BoxR w.drew pb R from HB0.out.1).below (w' := x0) hb0)).1 0
  have HX := Lib.hid hx0
  rw [hx0, show w.drew.alloc (.cells #[.pointer (some ⟨b, o, none⟩), .pointer (some ⟨b, o + 1, none⟩)] 136) = (w.alloc (.cells #[.pointer (some ⟨b, o, none⟩), .pointer (some ⟨b, o + 1, none⟩)] 136)).drew from rfl] at c0 hp0x
  clear hx0 hb0 hg0 hbw hRw
  go_enter Try.func89, Try.ntmps89
  go_wp2_with fail
  apply cut_goal
  case h =>
    intro key
    go_region_with (go_at_call 90; refine c0.mono ?_; rintro e w1 ⟨rfl, hr⟩)
    all_goals (revert hr; revert w1; exact key)
  intro w1 hr
  replace hr : RdTo x0 w1 R b o (rAll rS 2 st).2 ((rAll rS 2 st).1.map fun x => .string x) := by rw [HX.out]; exact hr
  have HF := Lib.hid (HY.out.step hr)
  clear hr c0 hp0 hp0d hp0x HX HY HR0
  go_wp2_with fail
  go_end0
  exact Lib.hid ⟨rfl, HF.out⟩
set_option maxHeartbeats 4000000 in
set_option maxRecDepth 100000 in
theorem r_msg3 (R b o pb : Nat) (st : RS) (w : World) (h : Rdr 151 w R st) (hc : CellOf w R b o 5) (hbx : BoxR w pb R) (hpb : pb ≠ b) :
    Calls Try.prog 92 #[.pointer (some ⟨b, o, none⟩), .pointer (some ⟨pb, 0, none⟩)] w fun e w' => Hid (e = .returned (.tuple #[]) ∧ RdTo w w' R b o (rPL st).2 (lastR.vals (rPL st).1)) := by
  have HR0 := Lib.hid (RdTo.start h b o).drew
  have HC := Lib.hid hc
  have HB0 := Lib.hid (And.intro hbx (And.intro hpb (hbx.ne h)))
  have hp0 := (blk_cells hbx).1 0
  have hp0d : w.drew.cell? ⟨pb, 0, none⟩ = _ := hp0
  have hbw : b < w.heap.size := by obtain ⟨cs, T, h1, -⟩ := hc.ex; exact lt_of_heap h1
  have hRw := h.lt
  clear h hc hbx hpb
  obtain ⟨x0, hx0⟩ : ∃ x, x = w.drew.alloc (.cells #[.pointer (some ⟨b, o, none⟩), .pointer (some ⟨b, o + 1, none⟩)] 92) := ⟨_, rfl⟩
  have hb0 : Below w.drew.heap.size w.drew x0 := by rw [hx0]; exact (Below.refl _ _).alloc (Nat.le_refl _) _
  have hg0 : x0.heap[w.drew.heap.size]? = some (.cells #[.pointer (some ⟨b, o, none⟩), .pointer (some ⟨b, o + 1, none⟩)] 92 (0, 0)) := by rw [hx0]; exact heap_alloc_new w.drew _
  have HY := Lib.hid (HR0.out.below hb0)
  have c0 := r_nums R b o w.drew.heap.size 2 _ x0 HY.out.rd ((HC.out.same HY.out.set).sub (k := 0) (m := 2) (by omega)) (by decide) (show w.heap.size ≠ b by omega) (show w.heap.size ≠ R by omega) hg0
  have hp0x : x0.cell? ⟨pb, 0, none⟩ = _ := (blk_cells ((show BoxR w.drew pb R from HB0.out.1).below (w' := x0) hb0)).1 0
  have HX := Lib.hid hx0
  rw [hx0, show w.drew.alloc (.cells #[.pointer (some ⟨b, o, none⟩), .pointer (some ⟨b, o + 1, none⟩)] 92) = (w.alloc (.cells #[.pointer (some ⟨b, o, none⟩), .pointer (some ⟨b, o + 1, none⟩)] 92)).drew from rfl] at c0 hp0x
  clear hx0 hb0 hg0 hbw hRw
  go_enter Try.func92, Try.ntmps92
  go_wp2_with fail
  apply cut_goal
  case h =>
    intro key
    go_region_with (go_at_call 80; refine c0.mono ?_; rintro e w1 ⟨rfl, hr⟩)
    all_goals (revert hr; revert w1; exact key)
  intro w1 hr
  replace hr : RdTo x0 w1 R b o (rAll rN 2 st).2 ((rAll rN 2 st).1.map fun x => .int .i64 x) := by rw [HX.out]; exact hr
  have HR1 := Lib.hid (HY.out.step hr).drew
  clear hr c0 hp0 hp0d hp0x HX HY HR0
  have hB1 := HB0.out.1.set HR1.out.set HB0.out.2.1 HB0.out.2.2
  have hp1d : w1.drew.cell? ⟨pb, 0, none⟩ = _ := (blk_cells hB1).1 0
  have hp1 : w1.cell? ⟨pb, 0, none⟩ = _ := hp1d
  have c1 := r_result R b (o + 2) _ w1.drew HR1.out.rd ((HC.out.same HR1.out.set).sub (k := 2) (m := 3) (by omega))
  clear hB1
  go_wp2_with fail
  apply cut_goal
  case h =>
    intro key
    go_region_with (go_at_call 83; refine c1.mono ?_; rintro e w2 ⟨rfl, hr⟩)
    all_goals (revert hr; revert w2; exact key)
  intro w2 hr
  have HF := Lib.hid (HR1.out.step hr)
  clear hr c1 hp1 hp1d HR1
  go_wp2_with fail
  go_end0
  exact Lib.hid ⟨rfl, HF.out⟩
/-- an entry that was read: its cells, and its list -/
structure EnTo (w w' : World) (R b o : Nat) (st : RS) (e : EN) (A : Option Addr) (c : Nat) : Prop where
  sto : RdTo w w' R b o st [.int .i64 e.term, .int .u8 e.kind, .string e.data, .slice A e.list.length c]
  own : inR.Own w' w.heap.size 3 (.slice A e.list.length c) e.list
set_option maxHeartbeats 4000000 in
set_option maxRecDepth 100000 in
/-- entry -/
theorem r_entry (R b o : Nat) (st : RS) (w : World) (h : Rdr 151 w R st) (hc : CellOf w R b o 4) (h3 : w.cell? ⟨b, o + 3, none⟩ = some (.slice none 0 0)) :
    Calls Try.prog 86 #[.iface 77 (.agg #[.pointer (some ⟨R, 0, none⟩)]), .pointer (some ⟨b, o, none⟩)] w fun e w' => Hid (e = .returned (.tuple #[]) ∧ ∃ A c, EnTo w w' R b o (rEN st).2 (rEN st).1 A c) := by
  have HR0 := Lib.hid (RdTo.start h b o).drew
  have HC := Lib.hid (And.intro hc h3)
  clear h hc h3
  go_enter Try.func86, Try.ntmps86
  have hm := metr_num
  have hv := nilr_num
  have c0 := r_num R b o _ w.drew HR0.out.rd ((HC.out.1.same HR0.out.set).sub (k := 0) (m := 1) (by omega))
  go_wp2_with fail
  go_region_with (go_at_call 163; refine c0.mono ?_; rintro e w1 ⟨rfl, hr⟩)
  have HR1 := Lib.hid (HR0.out.step hr).drew
  clear hr hm hv c0 HR0
  have hm := metr_kind
  have hv := nilr_kind
  have c1 := r_kind R b (o + 1) _ w1.drew HR1.out.rd ((HC.out.1.same HR1.out.set).sub (k := 1) (m := 1) (by omega))
  go_wp2_with fail
  go_region_with (go_at_call 161; refine c1.mono ?_; rintro e w2 ⟨rfl, hr⟩)
  have HR2 := Lib.hid (HR1.out.step hr).drew
  clear hr hm hv c1 HR1
  have hm := metr_text
  have hv := nilr_text
  have c2 := r_text R b (o + 2) _ w2.drew HR2.out.rd ((HC.out.1.same HR2.out.set).sub (k := 2) (m := 1) (by omega))
  go_wp2_with fail
  go_region_with (go_at_call 165; refine c2.mono ?_; rintro e w3 ⟨rfl, hr⟩)
  have HR3 := Lib.hid (HR2.out.step hr).drew
  clear hr hm hv c2 HR2
  have hcell : w3.drew.cell? ⟨b, o + 3, none⟩ = some (.slice none 0 0) := by
    obtain ⟨cs, T, e1, -⟩ := HC.out.1.ex
    obtain ⟨c1, a1, -, a3, -⟩ := HR3.out.set.blk cs T e1
    rw [(blk_cells a1).1 (o + 3), a3 (o + 3) (.inr (by simp)), ← (blk_cells e1).1 (o + 3)]
    exact HC.out.2
  have c3 := r_list_int R b (o + 3) _ w3.drew HR3.out.rd ((HC.out.1.same HR3.out.set).sub (k := 3) (m := 1) (by omega)) hcell
  clear hcell
  go_wp2_with fail
  apply cut_goal
  case h =>
    intro key
    go_region_with (go_at_call 87; refine c3.mono ?_; rintro e w4 ⟨rfl, hr⟩)
    all_goals (revert hr; revert w4; exact key)
  intro w4 hr
  have HF : Hid (∃ A c, EnTo w w4 R b o (rEN st).2 (rEN st).1 A c) := Lib.hid (by
    obtain ⟨A, c, h1, h2⟩ := hr
    exact ⟨A, c, HR3.out.step h1, own_base h2 HR3.out.set.size⟩)
  clear hr c3 HR3
  go_wp2_with fail
  go_end0
  exact Lib.hid ⟨rfl, HF.out⟩
set_option maxHeartbeats 4000000 in
set_option maxRecDepth 100000 in
theorem r_msg1 (R b o pb : Nat) (st : RS) (w : World) (h : Rdr 151 w R st) (hc : CellOf w R b o 4) (h3 : w.cell? ⟨b, o + 3, none⟩ = some (.slice none 0 0)) (hbx : BoxR w pb R) :
    Calls Try.prog 85 #[.pointer (some ⟨b, o, none⟩), .pointer (some ⟨pb, 0, none⟩)] w fun e w' => Hid (e = .returned (.tuple #[]) ∧ ∃ A c, EnTo w w' R b o (rEN st).2 (rEN st).1 A c) := by
  have c0 := r_entry R b o st w h hc h3
  have hp0 := (blk_cells hbx).1 0
  clear h hc h3 hbx
  go_enter Try.func85, Try.ntmps85
  go_wp2_with fail
  refine c0.mono ?_
  intro e w1 hz
  obtain ⟨rfl, hr⟩ := hz.out
  have HF := Lib.hid hr
  clear hr c0 hz
  go_wp2_with fail
  go_end0
  exact Lib.hid ⟨rfl, HF.out⟩
end Go.Proofs.Ytblbcoknefgcaaa
