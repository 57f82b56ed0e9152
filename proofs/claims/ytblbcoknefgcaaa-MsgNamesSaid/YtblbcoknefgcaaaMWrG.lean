/-
  The small structs of a message, written. No statement is proved here. No condition.
-/
import Derived.Test.YtblbcoknefgcaaaMWrF
namespace Go.Proofs.Ytblbcoknefgcaaa
open Go.RowKit

/-- a command's ranges -/
def CM.ok (c : CM) : Prop := (0 ≤ c.kind ∧ c.kind ≤ 255) ∧ I64 c.shard ∧ I64 c.store ∧ I64 c.epoch
def CM.by (c : CM) : List (List UInt8) := [cv c.kind, uv (zz c.shard), uv (zz c.store), uv (zz c.epoch)]
def CM.vals (c : CM) : List Value := [.int .u8 c.kind, .int .i64 c.shard, .int .i64 c.store, .int .i64 c.epoch]
set_option maxHeartbeats 4000000 in
set_option maxRecDepth 100000 in
/-- command -/
theorem w_command (B k b o : Nat) (s : WS) (c : CM) (w : World) (h : WrP w B k s) (hc : CellsAt w B b o c.vals) (hn : c.ok) :
    Calls Try.prog 93 #[.iface 72 (.pointer (some ⟨k, 0, none⟩)), .pointer (some ⟨b, o, none⟩)] w fun e w' => e = .returned (.tuple #[]) ∧ WrP w' B k (wputs s c.by) ∧ Wrote B k w w' := by
  have hd : WrP w.drew B k s := h.below (Below.refl _ _).drew
  have hcd := hc.below (w' := w.drew) (Below.refl _ _).drew
  have cK := wr_kind B k b o s c.kind hn.1 w.drew hd (hcd.cell 0 _ rfl)
  have hm := metw_kind
  have hv := nilw_kind
  have HC := Lib.hid hcd
  have HN := Lib.hid hn
  have HK := Lib.hid h.kB
  clear h hd hcd hc hn
  go_enter Try.func93, Try.ntmps93
  go_wp2_with fail
  go_region_with (go_at_call 147; refine cK.mono ?_; rintro e w1 ⟨rfl, hp1, hw1⟩)
  have hd1 : WrP w1.drew B k _ := hp1.below (Below.refl _ _).drew
  have hc1 := (HC.out.wrote hw1 HK.out).below (w' := w1.drew) (Below.refl _ _).drew
  obtain ⟨w2, hw2⟩ : ∃ w2, w2 = w1.drew.alloc (.cells #[.pointer (some ⟨b, o + 1, none⟩), .pointer (some ⟨b, o + 2, none⟩), .pointer (some ⟨b, o + 3, none⟩)] 92) := ⟨_, rfl⟩
  have hb2 : Below w1.drew.heap.size w1.drew w2 := by rw [hw2]; exact (Below.refl _ _).alloc (Nat.le_refl _) _
  have hg2 : w2.heap[w1.drew.heap.size]? = some (.cells #[.pointer (some ⟨b, o + 1, none⟩), .pointer (some ⟨b, o + 2, none⟩), .pointer (some ⟨b, o + 3, none⟩)] 92 (0, 0)) := by rw [hw2]; exact heap_alloc_new w1.drew _
  have hc2 := hc1.below hb2
  have cN := w_nums B k w1.drew.heap.size _ [(b, o + 1), (b, o + 2), (b, o + 3)] [c.shard, c.store, c.epoch] w2 (hd1.below hb2) rfl (by simp) hg2 (fun i p n h1 h2 => by
    match i, h1, h2 with
    | 0, h1, h2 => simp at h1 h2; subst h1 h2; exact ⟨hc2.cell 1 _ rfl, HN.out.2.1, hc2.lt⟩
    | 1, h1, h2 => simp at h1 h2; subst h1 h2; exact ⟨hc2.cell 2 _ rfl, HN.out.2.2.1, hc2.lt⟩
    | 2, h1, h2 => simp at h1 h2; subst h1 h2; exact ⟨hc2.cell 3 _ rfl, HN.out.2.2.2, hc2.lt⟩
    | n + 3, h1, h2 => simp at h1)
  have HW := Lib.hid ((hw1.trans (Wrote.of_below (w' := w1.drew) (Below.refl _ _).drew)).trans (Wrote.of_below hb2))
  rw [hw2] at cN
  have HW2 := Lib.hid hw2
  clear hp1 hw1 hd1 hc1 hw2 hb2 hg2 hc2 cK hm hv
  go_wp2_with fail
  go_region_with (go_at_call 80; refine cN.mono ?_; rintro e w3 ⟨rfl, hp3, hw3⟩)
  rw [← HW2.out] at hw3
  have HF := Lib.hid (And.intro hp3 (HW.out.trans hw3))
  clear hp3 hw3 cN
  go_wp2_with fail
  go_end0
  refine ⟨rfl, HF.out.1, ?_⟩
  have := HF.out.2
  exact (Wrote.of_below (w' := w.drew) (Below.refl _ _).drew).trans this
/-- a result's ranges -/
def PR.ok (c : PR) : Prop := 0 ≤ c.kind ∧ c.kind ≤ 255
def PR.by (c : PR) : List (List UInt8) := [cv c.kind, fv c.found, tv c.val.data.toList]
def PR.vals (c : PR) : List Value := [.int .u8 c.kind, .bool c.found, .string c.val]
set_option maxHeartbeats 4000000 in
set_option maxRecDepth 100000 in
/-- result -/
theorem w_result (B k b o : Nat) (s : WS) (c : PR) (w : World) (h : WrP w B k s) (hc : CellsAt w B b o c.vals) (hn : c.ok) :
    Calls Try.prog 83 #[.iface 72 (.pointer (some ⟨k, 0, none⟩)), .pointer (some ⟨b, o, none⟩)] w fun e w' => e = .returned (.tuple #[]) ∧ WrP w' B k (wputs s c.by) ∧ Wrote B k w w' := by
  have HP0 := Lib.hid (h.below (w' := w.drew) (Below.refl _ _).drew)
  have HC0 := Lib.hid (hc.below (w' := w.drew) (Below.refl _ _).drew)
  have HW0 := Lib.hid (Wrote.of_below (B := B) (k := k) (w := w) (w' := w.drew) (Below.refl _ _).drew)
  have HN := Lib.hid hn
  have HK := Lib.hid h.kB
  clear h hc hn
  go_enter Try.func83, Try.ntmps83
  have hm := metw_kind
  have hv := nilw_kind
  have c0 := wr_kind B k b o _ c.kind HN.out w.drew HP0.out (HC0.out.cell 0 _ rfl)
  go_wp2_with fail
  go_region_with (go_at_call 147; refine c0.mono ?_; rintro e w1 ⟨rfl, hp, hw⟩)
  have HP1 := Lib.hid (hp.below (w' := w1.drew) (Below.refl _ _).drew)
  have HW1 := Lib.hid ((HW0.out.trans hw).trans (Wrote.of_below (w' := w1.drew) (Below.refl _ _).drew))
  have HC1 := Lib.hid ((HC0.out.wrote hw HK.out).below (w' := w1.drew) (Below.refl _ _).drew)
  clear hp hw hm hv c0 HP0 HW0 HC0
  have hm := metw_flag
  have hv := nilw_flag
  have c1 := wr_flag B k b (o + 1) _ c.found  w1.drew HP1.out (HC1.out.cell 1 _ rfl)
  go_wp2_with fail
  go_region_with (go_at_call 146; refine c1.mono ?_; rintro e w2 ⟨rfl, hp, hw⟩)
  have HP2 := Lib.hid (hp.below (w' := w2.drew) (Below.refl _ _).drew)
  have HW2 := Lib.hid ((HW1.out.trans hw).trans (Wrote.of_below (w' := w2.drew) (Below.refl _ _).drew))
  have HC2 := Lib.hid ((HC1.out.wrote hw HK.out).below (w' := w2.drew) (Below.refl _ _).drew)
  clear hp hw hm hv c1 HP1 HW1 HC1
  have hm := metw_text
  have hv := nilw_text
  have c2 := wr_text B k b (o + 2) _ c.val  w2.drew HP2.out (HC2.out.cell 2 _ rfl)
  go_wp2_with fail
  go_region_with (go_at_call 151; refine c2.mono ?_; rintro e w3 ⟨rfl, hp, hw⟩)
  have HF := Lib.hid (And.intro hp (HW2.out.trans hw))
  clear hp hw hm hv c2
  go_wp2_with fail
  go_end0
  exact ⟨rfl, HF.out.1, HF.out.2⟩
/-- an operation's ranges -/
def PO.ok (c : PO) : Prop := 0 ≤ c.kind ∧ c.kind ≤ 255
def PO.by (c : PO) : List (List UInt8) := [cv c.kind, tv c.key.data.toList, tv c.val.data.toList, tv c.old.data.toList, fv c.had]
def PO.vals (c : PO) : List Value := [.int .u8 c.kind, .string c.key, .string c.val, .string c.old, .bool c.had]
set_option maxHeartbeats 4000000 in
set_option maxRecDepth 100000 in
/-- op -/
theorem w_op (B k b o : Nat) (s : WS) (c : PO) (w : World) (h : WrP w B k s) (hc : CellsAt w B b o c.vals) (hn : c.ok) :
    Calls Try.prog 81 #[.iface 72 (.pointer (some ⟨k, 0, none⟩)), .pointer (some ⟨b, o, none⟩)] w fun e w' => e = .returned (.tuple #[]) ∧ WrP w' B k (wputs s c.by) ∧ Wrote B k w w' := by
  have HP0 := Lib.hid (h.below (w' := w.drew) (Below.refl _ _).drew)
  have HC0 := Lib.hid (hc.below (w' := w.drew) (Below.refl _ _).drew)
  have HW0 := Lib.hid (Wrote.of_below (B := B) (k := k) (w := w) (w' := w.drew) (Below.refl _ _).drew)
  have HN := Lib.hid hn
  have HK := Lib.hid h.kB
  clear h hc hn
  go_enter Try.func81, Try.ntmps81
  have hm := metw_kind
  have hv := nilw_kind
  have c0 := wr_kind B k b o _ c.kind HN.out w.drew HP0.out (HC0.out.cell 0 _ rfl)
  go_wp2_with fail
  go_region_with (go_at_call 147; refine c0.mono ?_; rintro e w1 ⟨rfl, hp, hw⟩)
  have HP1 := Lib.hid (hp.below (w' := w1.drew) (Below.refl _ _).drew)
  have HW1 := Lib.hid ((HW0.out.trans hw).trans (Wrote.of_below (w' := w1.drew) (Below.refl _ _).drew))
  have HC1 := Lib.hid ((HC0.out.wrote hw HK.out).below (w' := w1.drew) (Below.refl _ _).drew)
  clear hp hw hm hv c0 HP0 HW0 HC0
  obtain ⟨x1, hx1⟩ : ∃ x, x = w1.drew.alloc (.cells #[.pointer (some ⟨b, o + 1, none⟩), .pointer (some ⟨b, o + 2, none⟩), .pointer (some ⟨b, o + 3, none⟩)] 136) := ⟨_, rfl⟩
  have hb1 : Below w1.drew.heap.size w1.drew x1 := by rw [hx1]; exact (Below.refl _ _).alloc (Nat.le_refl _) _
  have hg1 : x1.heap[w1.drew.heap.size]? = some (.cells #[.pointer (some ⟨b, o + 1, none⟩), .pointer (some ⟨b, o + 2, none⟩), .pointer (some ⟨b, o + 3, none⟩)] 136 (0, 0)) := by rw [hx1]; exact heap_alloc_new w1.drew _
  have hc1 := HC1.out.below hb1
  have c1 := w_texts B k w1.drew.heap.size _ [(b, o + 1), (b, o + 2), (b, o + 3)] [c.key, c.val, c.old] x1 (HP1.out.below hb1) rfl (by simp) hg1 (fun i p n h1 h2 => by
    match i, h1, h2 with
    | 0, h1, h2 => simp at h1 h2; subst h1 h2; exact ⟨hc1.cell 1 _ rfl, hc1.lt⟩
    | 1, h1, h2 => simp at h1 h2; subst h1 h2; exact ⟨hc1.cell 2 _ rfl, hc1.lt⟩
    | 2, h1, h2 => simp at h1 h2; subst h1 h2; exact ⟨hc1.cell 3 _ rfl, hc1.lt⟩
    | n + 3, h1, h2 => simp at h1)
  have HX1 := Lib.hid hx1
  have HB1 := Lib.hid hb1
  rw [hx1] at c1
  clear hx1 hb1 hg1 hc1
  go_wp2_with fail
  go_region_with (go_at_call 90; refine c1.mono ?_; rintro e w2 ⟨rfl, hp, hw⟩)
  rw [← HX1.out] at hw
  have HP2 := Lib.hid (hp.below (w' := w2.drew) (Below.refl _ _).drew)
  have HW2 := Lib.hid ((HW1.out.trans ((Wrote.of_below HB1.out).trans hw)).trans (Wrote.of_below (w' := w2.drew) (Below.refl _ _).drew))
  have HC2 := Lib.hid (((HC1.out.below HB1.out).wrote hw HK.out).below (w' := w2.drew) (Below.refl _ _).drew)
  clear hp hw c1 HP1 HW1 HC1
  have hm := metw_flag
  have hv := nilw_flag
  have c2 := wr_flag B k b (o + 4) _ c.had  w2.drew HP2.out (HC2.out.cell 4 _ rfl)
  go_wp2_with fail
  go_region_with (go_at_call 146; refine c2.mono ?_; rintro e w3 ⟨rfl, hp, hw⟩)
  have HF := Lib.hid (And.intro hp (HW2.out.trans hw))
  clear hp hw hm hv c2
  go_wp2_with fail
  go_end0
  exact ⟨rfl, HF.out.1, HF.out.2⟩
theorem setIf_same {cs : Array Value} {o : Nat} {v : Value} (hc : cs[o]? = some v) : cs.setIfInBounds o v = cs := by
  apply Array.ext_getElem?
  intro i
  rw [Array.getElem?_setIfInBounds]
  by_cases e : o = i
  · subst e
    obtain ⟨h, -⟩ := Array.getElem?_eq_some_iff.mp hc
    rw [if_pos rfl, if_pos h, hc]
  · rw [if_neg e]
theorem setCell_same (w : World) {b o : Nat} {cs : Array Value} {T : TypeId} {f : Nat × Nat} {v : Value} (hg : w.heap[b]? = some (.cells cs T f)) (hc : cs[o]? = some v) : w.setCell ⟨b, o, none⟩ v = w := by
  have e : w.heap.modify b (fun
      | .cells c elem frozen => .cells (c.setIfInBounds o v) elem frozen
      | o => o) = w.heap := by
    apply Array.ext_getElem?
    intro i
    rw [Array.getElem?_modify]
    by_cases h : b = i
    · subst h; rw [if_pos rfl, hg]; simp [setIf_same hc]
    · rw [if_neg h]
  unfold World.setCell
  exact congrArg (fun h => ({ w with heap := h } : World)) e
set_option maxHeartbeats 4000000 in
set_option maxRecDepth 100000 in
/-- errno -/
theorem w_errno (B k b o : Nat) (s : WS) (n : Int) (hn : I64 n) (w : World) (h : WrP w B k s) (hb : b < B) {cs : Array Value} {T : TypeId} (hgb : w.heap[b]? = some (.cells cs T (0, 0))) (hcs : cs[o]? = some (.int .i64 n)) :
    Calls Try.prog 82 #[.iface 72 (.pointer (some ⟨k, 0, none⟩)), .pointer (some ⟨b, o, none⟩)] w fun e w' => e = .returned (.tuple #[]) ∧ WrP w' B k (wput s (uv (zz n))) ∧ Wrote B k w w' := by
  obtain ⟨x, hx⟩ : ∃ x, x = w.alloc (.cells #[.int .i64 n] 3) := ⟨_, rfl⟩
  have hbx : Below w.heap.size w x := by rw [hx]; exact (Below.refl _ _).alloc (Nat.le_refl _) _
  have hg : x.heap[w.heap.size]? = some (.cells #[.int .i64 n] 3 (0, 0)) := by rw [hx]; exact heap_alloc_new w _
  have cN := wr_num B k w.heap.size 0 s n hn x (h.below hbx) ((blk_cells hg).1 0)
  have hbw : b < w.heap.size := lt_of_heap hgb
  have hc : w.cell? ⟨b, o, none⟩ = some (.int .i64 n) := ((blk_cells hgb).1 o).trans hcs
  have hm := metw_num
  have hv := nilw_num
  have HX := Lib.hid (And.intro hx (And.intro hbx hg))
  have H := Lib.hid h
  rw [hx] at cN
  clear hx hbx hg h
  go_enter Try.func82, Try.ntmps82
  go_wp2_with fail
  refine cN.mono ?_
  rintro e w1 ⟨rfl, hp, hw⟩
  rw [← HX.out.1] at hw
  have hkw : w.heap.size ≠ k := by
    obtain ⟨v, hk, -⟩ := H.out.ex
    have := lt_of_heap hk; omega
  have hgx := (hw.block w.heap.size (lt_of_heap HX.out.2.2) hkw (.inr fun cur hc => apart_T HX.out.2.2 hc (by decide) rfl)).trans HX.out.2.2
  have c1 : w1.cell? ⟨w.heap.size, 0, none⟩ = some (.int .i64 n) := (blk_cells hgx).1 0
  have HW := Lib.hid ((Wrote.of_below HX.out.2.1).trans hw)
  have c2 : w1.cell? ⟨b, o, none⟩ = some (.int .i64 n) := (HW.out.cell (p := ⟨b, o, none⟩) hbw (by have := H.out.kB; dsimp only; omega) (.inl hb)).trans hc
  have hgb1 := (HW.out.block b hbw (by have := H.out.kB; omega) (.inl hb)).trans hgb
  have hfz : w1.frozen? ⟨b, o, none⟩ = false := (blk_cells hgb1).2 o
  have HE := Lib.hid (setCell_same w1 hgb1 hcs)
  have HP := Lib.hid hp
  clear hp hw hgx cN hm hv hc hgb hcs hgb1
  go_wp2_with fail
  rw [HE.out]
  go_end0
  exact ⟨rfl, HP.out, HW.out⟩
end Go.Proofs.Ytblbcoknefgcaaa
