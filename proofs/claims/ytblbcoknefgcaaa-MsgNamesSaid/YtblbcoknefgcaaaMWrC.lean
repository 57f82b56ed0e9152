import Derived.Test.YtblbcoknefgcaaaMWrN
namespace Go.Proofs.Ytblbcoknefgcaaa
open Go.RowKit
/-- the box in which the closures find the writer -/
def BoxAt (w : World) (pb k : Nat) : Prop := w.heap[pb]? = some (.cells #[.iface 72 (.pointer (some ⟨k, 0, none⟩))] 115 (0, 0))
theorem BoxAt.below {w w' : World} {pb k : Nat} (h : BoxAt w pb k) (hb : Below w.heap.size w w') : BoxAt w' pb k := (hb.block pb (lt_of_heap h)).trans h
theorem BoxAt.wrote {w w' : World} {B k pb : Nat} {s : WS} (h : BoxAt w pb k) (hp : WrP w B k s) (hw : Wrote B k w w') : BoxAt w' pb k := by
  have hk : pb ≠ k := fun e => by
    subst e
    obtain ⟨v, hk, -⟩ := hp.ex
    exact apart_T h hk (by decide) rfl
  exact (hw.block pb (lt_of_heap h) hk (.inr fun cur hc => apart_T h hc (by decide) rfl)).trans h
def PP.ok (_ : PP) : Prop := True
def PP.by (c : PP) : List (List UInt8) := [tv c.key.data.toList, tv c.val.data.toList]
def PP.vals (c : PP) : List Value := [.string c.key, .string c.val]
set_option maxHeartbeats 4000000 in
set_option maxRecDepth 100000 in
/-- a pair -/
theorem w_msg2 (B k b o pb : Nat) (s : WS) (c : PP) (w : World) (h : WrP w B k s) (hc : CellsAt w B b o c.vals) (hn : c.ok) (hbx : BoxAt w pb k) :
    Calls Try.prog 89 #[.pointer (some ⟨b, o, none⟩), .pointer (some ⟨pb, 0, none⟩)] w fun e w' => e = .returned (.tuple #[]) ∧ WrP w' B k (wputs s c.by) ∧ Wrote B k w w' := by
  suffices hS : Calls Try.prog 89 #[.pointer (some ⟨b, o, none⟩), .pointer (some ⟨pb, 0, none⟩)] w fun e w' => Hid (e = .returned (.tuple #[]) ∧ WrP w' B k (wputs s c.by) ∧ Wrote B k w w') from hS.mono fun _ _ h => h.out
  have HP0 := Lib.hid (h.below (w' := w.drew) (Below.refl _ _).drew)
  have HC0 := Lib.hid (hc.below (w' := w.drew) (Below.refl _ _).drew)
  have HW0 := Lib.hid (Wrote.of_below (B := B) (k := k) (w := w) (w' := w.drew) (Below.refl _ _).drew)
  have HN := Lib.hid hn
  have HK := Lib.hid h.kB
  have HB0 := Lib.hid (hbx.below (w' := w.drew) (Below.refl _ _).drew)
  have hp0 := (blk_cells hbx).1 0
  have hp0d := (blk_cells HB0.out).1 0
  clear h hc hn hbx
  go_enter Try.func89, Try.ntmps89
  obtain ⟨x0, hx0⟩ : ∃ x, x = w.drew.alloc (.cells #[.pointer (some ⟨b, o, none⟩), .pointer (some ⟨b, o + 1, none⟩)] 136) := ⟨_, rfl⟩
  have hb0 : Below w.drew.heap.size w.drew x0 := by rw [hx0]; exact (Below.refl _ _).alloc (Nat.le_refl _) _
  have hg0 : x0.heap[w.drew.heap.size]? = some (.cells #[.pointer (some ⟨b, o, none⟩), .pointer (some ⟨b, o + 1, none⟩)] 136 (0, 0)) := by rw [hx0]; exact heap_alloc_new w.drew _
  have hc0 := HC0.out.below hb0
  have c0 := w_texts B k w.drew.heap.size _ [(b, o), (b, o + 1)] [c.key, c.val] x0 (HP0.out.below hb0) rfl (by simp) hg0 (fun i p n h1 h2 => by
    match i, h1, h2 with
    | 0, h1, h2 => simp at h1 h2; subst h1 h2; exact ⟨hc0.cell 0 _ rfl, hc0.lt⟩
    | 1, h1, h2 => simp at h1 h2; subst h1 h2; exact ⟨hc0.cell 1 _ rfl, hc0.lt⟩
    | n + 2, h1, h2 => simp at h1)
  have HX0 := Lib.hid hx0
  have HB'0 := Lib.hid hb0
  have hp0x := (blk_cells (HB0.out.below hb0)).1 0
  rw [hx0, show w.drew.alloc (.cells #[.pointer (some ⟨b, o, none⟩), .pointer (some ⟨b, o + 1, none⟩)] 136) = (w.alloc (.cells #[.pointer (some ⟨b, o, none⟩), .pointer (some ⟨b, o + 1, none⟩)] 136)).drew from rfl] at c0 hp0x
  clear hx0 hb0 hg0 hc0
  go_wp2_with fail
  go_region_with (go_at_call 90; refine c0.mono ?_; rintro e w1 ⟨rfl, hp, hw⟩)
  all_goals
    replace hw : Wrote B k x0 w1 := by rw [HX0.out]; exact hw
    have HF := Lib.hid (And.intro hp (HW0.out.trans ((Wrote.of_below HB'0.out).trans hw)))
    clear hp hw c0
    go_wp2_with fail
    go_end0
    exact Lib.hid ⟨rfl, HF.out.1, HF.out.2⟩
def PL.ok (c : PL) : Prop := I64 c.client ∧ I64 c.id ∧ c.res.ok
def PL.by (c : PL) : List (List UInt8) := [uv (zz c.client), uv (zz c.id)] ++ c.res.by
def PL.vals (c : PL) : List Value := [.int .i64 c.client, .int .i64 c.id, .int .u8 c.res.kind, .bool c.res.found, .string c.res.val]
theorem PL.sub {w : World} {B b o : Nat} {c : PL} (h : CellsAt w B b o c.vals) : CellsAt w B b (o + 2) c.res.vals :=
  ⟨h.lt, h.lw, fun j v hv => by
    have := h.cell (j + 2) v (by
      match j, hv with
      | 0, hv => exact hv
      | 1, hv => exact hv
      | 2, hv => exact hv
      | n + 3, hv => simp [PR.vals] at hv)
    rw [show o + 2 + j = o + (j + 2) by omega]; exact this⟩
set_option maxHeartbeats 4000000 in
set_option maxRecDepth 100000 in
/-- a last write -/
theorem w_msg3 (B k b o pb : Nat) (s : WS) (c : PL) (w : World) (h : WrP w B k s) (hc : CellsAt w B b o c.vals) (hn : c.ok) (hbx : BoxAt w pb k) :
    Calls Try.prog 92 #[.pointer (some ⟨b, o, none⟩), .pointer (some ⟨pb, 0, none⟩)] w fun e w' => e = .returned (.tuple #[]) ∧ WrP w' B k (wputs s c.by) ∧ Wrote B k w w' := by
  suffices hS : Calls Try.prog 92 #[.pointer (some ⟨b, o, none⟩), .pointer (some ⟨pb, 0, none⟩)] w fun e w' => Hid (e = .returned (.tuple #[]) ∧ WrP w' B k (wputs s c.by) ∧ Wrote B k w w') from hS.mono fun _ _ h => h.out
  have HP0 := Lib.hid (h.below (w' := w.drew) (Below.refl _ _).drew)
  have HC0 := Lib.hid (hc.below (w' := w.drew) (Below.refl _ _).drew)
  have HW0 := Lib.hid (Wrote.of_below (B := B) (k := k) (w := w) (w' := w.drew) (Below.refl _ _).drew)
  have HN := Lib.hid hn
  have HK := Lib.hid h.kB
  have HB0 := Lib.hid (hbx.below (w' := w.drew) (Below.refl _ _).drew)
  have hp0 := (blk_cells hbx).1 0
  have hp0d := (blk_cells HB0.out).1 0
  clear h hc hn hbx
  go_enter Try.func92, Try.ntmps92
  obtain ⟨x0, hx0⟩ : ∃ x, x = w.drew.alloc (.cells #[.pointer (some ⟨b, o, none⟩), .pointer (some ⟨b, o + 1, none⟩)] 92) := ⟨_, rfl⟩
  have hb0 : Below w.drew.heap.size w.drew x0 := by rw [hx0]; exact (Below.refl _ _).alloc (Nat.le_refl _) _
  have hg0 : x0.heap[w.drew.heap.size]? = some (.cells #[.pointer (some ⟨b, o, none⟩), .pointer (some ⟨b, o + 1, none⟩)] 92 (0, 0)) := by rw [hx0]; exact heap_alloc_new w.drew _
  have hc0 := HC0.out.below hb0
  have c0 := w_nums B k w.drew.heap.size _ [(b, o), (b, o + 1)] [c.client, c.id] x0 (HP0.out.below hb0) rfl (by simp) hg0 (fun i p n h1 h2 => by
    match i, h1, h2 with
    | 0, h1, h2 => simp at h1 h2; subst h1 h2; exact ⟨hc0.cell 0 _ rfl, HN.out.1, hc0.lt⟩
    | 1, h1, h2 => simp at h1 h2; subst h1 h2; exact ⟨hc0.cell 1 _ rfl, HN.out.2.1, hc0.lt⟩
    | n + 2, h1, h2 => simp at h1)
  have HX0 := Lib.hid hx0
  have HB'0 := Lib.hid hb0
  have hp0x := (blk_cells (HB0.out.below hb0)).1 0
  rw [hx0, show w.drew.alloc (.cells #[.pointer (some ⟨b, o, none⟩), .pointer (some ⟨b, o + 1, none⟩)] 92) = (w.alloc (.cells #[.pointer (some ⟨b, o, none⟩), .pointer (some ⟨b, o + 1, none⟩)] 92)).drew from rfl] at c0 hp0x
  clear hx0 hb0 hg0 hc0
  go_wp2_with fail
  go_region_with (go_at_call 80; refine c0.mono ?_; rintro e w1 ⟨rfl, hp, hw⟩)
  all_goals
    replace hw : Wrote B k x0 w1 := by rw [HX0.out]; exact hw
    have HBn := Lib.hid (((HB0.out.below HB'0.out).wrote (HP0.out.below HB'0.out) hw).below (w' := w1.drew) (Below.refl _ _).drew)
    have HP1 := Lib.hid (hp.below (w' := w1.drew) (Below.refl _ _).drew)
    have HW1 := Lib.hid ((HW0.out.trans ((Wrote.of_below HB'0.out).trans hw)).trans (Wrote.of_below (w' := w1.drew) (Below.refl _ _).drew))
    have HC1 := Lib.hid (((HC0.out.below HB'0.out).wrote hw HK.out).below (w' := w1.drew) (Below.refl _ _).drew)
    clear hp hw c0 HP0 HW0 HC0 HB0 hp0 hp0d
    have HB1 := HBn
    clear HBn
    have hp0 := (blk_cells HB1.out).1 0
    have c1 := w_result B k b (o + 2) _ c.res w1.drew HP1.out (PL.sub HC1.out) HN.out.2.2
    go_wp2_with fail
    go_region_with (go_at_call 83; refine c1.mono ?_; rintro e w2 ⟨rfl, hp, hw⟩)
    have HF := Lib.hid (And.intro hp (HW1.out.trans hw))
    clear hp hw c1
    go_wp2_with fail
    go_end0
    exact Lib.hid ⟨rfl, HF.out.1, HF.out.2⟩
end Go.Proofs.Ytblbcoknefgcaaa
