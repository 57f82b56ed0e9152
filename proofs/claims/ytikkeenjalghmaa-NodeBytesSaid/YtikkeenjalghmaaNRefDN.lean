/-
  A node read by the document's reader: what is kept meanwhile. No statement is proved here. No condition.
-/
import Derived.Test.YtikkeenjalghmaaNReadN
import Derived.Test.YtikkeenjalghmaaNGivN
import Derived.Test.YtikkeenjalghmaaNGiv
import Derived.Test.YtikkeenjalghmaaRefS
namespace Go.Proofs.Ytikkeenjalghmaa
open Go.RowKit

/-- the node so far, in the variable's block B; the reader R was there -/
structure DxJ (w W : World) (R B : Nat) (n : PN) (s : Option (List UInt8)) (A : Option Addr) (c : Nat) (A' : Option Addr) (c' : Nat) : Prop where
  blk : W.heap[B]? = some (.cells #[.bool n.leaf, .slice A n.cells.length c, .slice A' n.kids.length c'] 25 (0, 0))
  cs : W.ownsRow w.heap.size 60 4 (.slice A n.cells.length c) n.cells.length (CsV n.cells)
  ks : W.ownsRow w.heap.size 3 1 (.slice A' n.kids.length c') n.kids.length (KsV n.kids)
  rdr : Rdr 95 W R s
  grown : w.grownBy W (some R)
  far : w.heap.size ≤ B
section
variable {w wz wy : World} {R B : Nat} {n : PN} {s s' : Option (List UInt8)} {A A' : Option Addr} {c c' : Nat}
theorem DxJ.step (h : DxJ w wz R B n s A c A' c') (hR : R < w.heap.size) (hg : wz.grownBy wy (some R)) (hr : Rdr 95 wy R s') : DxJ w wy R B n s' A c A' c' := by
  have hB : B < wz.heap.size := (Array.getElem?_eq_some_iff.1 h.blk).1
  have hne : ∀ b, w.heap.size ≤ b → some b ≠ some R := fun b hb e => by injection e with e; omega
  exact ⟨(hg.block _ hB (hne _ (by have := h.far; omega))).trans h.blk, row_same h.cs fun p hp => hg.block _ (h.cs.lt p hp).2 (hne _ (h.cs.lt p hp).1), row_same h.ks fun p hp => hg.block _ (h.ks.lt p hp).2 (hne _ (h.ks.lt p hp).1), hr, grown_trans h.grown hg, h.far⟩
theorem DxJ.pushC (h : DxJ w wy R B n s' A c A' c') (hR : R < w.heap.size) (x : PC) (hl : n.cells.length ≤ 1000) :
    ∃ A7 c7 w7, (Builtin.append_ #[22, 22] 22 #[.slice A n.cells.length c, .slice (some ⟨wy.heap.size, 0, none⟩) 1 1]).run Try.prog (wy.alloc (.cells #[.string x.key, .string x.val, .int .i64 x.long, .int .i64 x.size] 60)) = .ok (.slice A7 (n.cells.length + 1) c7) w7 ∧
      w7.cell? ⟨B, 1, none⟩ = some (.slice A n.cells.length c) ∧ w7.frozen? ⟨B, 1, none⟩ = false ∧ DxJ w (w7.setCell ⟨B, 1, none⟩ (.slice A7 (n.cells.length + 1) c7)) R B { n with cells := n.cells ++ [x] } s' A7 c7 A' c' := by
  obtain ⟨iu, hiu, z0, z1, z2⟩ := info_parts info_RC
  obtain ⟨wb, hwb⟩ : ∃ wb, wb = wy.alloc (.cells #[.string x.key, .string x.val, .int .i64 x.long, .int .i64 x.size] 60) := ⟨_, rfl⟩
  have hyb : Below wy.heap.size wy wb := by rw [hwb]; exact (Below.refl _ _).alloc (Nat.le_refl _) _
  have hB : B < wy.heap.size := (Array.getElem?_eq_some_iff.1 h.blk).1
  have hw : w.heap.size < wy.heap.size := by have := h.far; omega
  have hob := row_same h.cs (w' := wb) fun p hp => hyb.block p (h.cs.lt p hp).2
  have hkb := row_same h.ks (w' := wb) fun p hp => hyb.block p (h.ks.lt p hp).2
  have hBb := (hyb.block B hB).trans h.blk
  have hrow : RowAt wb (.slice (some ⟨wy.heap.size, 0, none⟩) 1 1) 1 4 x.vals := by
    rw [hwb]
    exact RowAt.of_own (World.ownsRow_lit wy #[.string x.key, .string x.val, .int .i64 x.long, .int .i64 x.size] 1 (Nat.le_refl _) (by unfold maxLen; omega) (by simp))
  have hs := hyb.size
  obtain ⟨A7, c7, w7, hr, h2, h3, h4⟩ := run_appAt (P := Try.prog) (w := wb) w.heap.size 22 22 60 iu _ 4 48 Try.underlying22 hiu z0 z1 z2 rfl (by decide) _ _ n.cells.length _ hob 1 _ hrow (by intro u hu; simp [PC.vals] at hu; rcases hu with rfl | rfl | rfl | rfl <;> rfl) (by unfold maxLen; omega) (by omega) (by omega)
  have hs7 := h3.size
  have nb := not_block hob hBb (by decide)
  have hB7 := (h3.block B (by omega) (fun e => nb B e.symm rfl)).trans hBb
  have hk7 : w7.ownsRow w.heap.size 3 1 (.slice A' n.kids.length c') n.kids.length (KsV n.kids) := row_same hkb fun p hp => h3.block p (hkb.lt p hp).2 (fun e => rows_apart hob hkb (by decide) e.symm hp rfl)
  have hg7 : w.grownBy w7 (some R) := ⟨h3.os.trans (hyb.os.trans h.grown.os), h3.tape.trans (hyb.tape.trans h.grown.tape), h3.output.trans (hyb.output.trans h.grown.output), by omega, fun b hb hn => (h3.block b (by omega) (fun e => by have := (hob.lt b e.symm).1; omega)).trans ((hyb.block b (by omega)).trans (h.grown.block b hb hn))⟩
  have hd7 : Rdr 95 w7 R s' := h.rdr.keep fun b hb => (h3.block b (by omega) (fun e => by have := (hob.lt b e.symm).1; omega)).trans (hyb.block b (by omega))
  have h2' : w7.ownsRow w.heap.size 60 4 (.slice A7 (n.cells ++ [x]).length c7) (n.cells ++ [x]).length (CsV (n.cells ++ [x])) := by
    rw [CsV_append, List.length_append]
    exact h2
  refine ⟨A7, c7, w7, by rw [← hwb]; exact hr, (row_cells hB7).1 1, (row_cells hB7).2 1, ?_⟩
  have fb := not_block h2' hB7 (by decide)
  have fk := not_block hk7 hB7 (by decide)
  refine ⟨?_, ?_, ?_, hd7.far (by have := h.far; omega), grown_far hg7 (by have := h.far; omega), h.far⟩
  · rw [set4 hB7]
    simp
  · have := row_same h2' (w' := w7.setCell ⟨B, 1, none⟩ (.slice A7 (n.cells.length + 1) c7)) fun p hp => set_far (fb p hp)
    exact this
  · exact row_same hk7 fun p hp => set_far (fk p hp)
theorem DxJ.pushK (h : DxJ w wy R B n s' A c A' c') (hR : R < w.heap.size) (x : Int) (hl : n.kids.length ≤ 1001) :
    ∃ A7 c7 w7, (Builtin.append_ #[23, 23] 23 #[.slice A' n.kids.length c', .slice (some ⟨wy.heap.size, 0, none⟩) 1 1]).run Try.prog (wy.alloc (.cells #[.int .i64 x] 3)) = .ok (.slice A7 (n.kids.length + 1) c7) w7 ∧
      w7.cell? ⟨B, 2, none⟩ = some (.slice A' n.kids.length c') ∧ w7.frozen? ⟨B, 2, none⟩ = false ∧ DxJ w (w7.setCell ⟨B, 2, none⟩ (.slice A7 (n.kids.length + 1) c7)) R B { n with kids := n.kids ++ [x] } s' A c A7 c7 := by
  obtain ⟨iu, hiu, z0, z1, z2⟩ := info_parts info_I
  obtain ⟨wb, hwb⟩ : ∃ wb, wb = wy.alloc (.cells #[.int .i64 x] 3) := ⟨_, rfl⟩
  have hyb : Below wy.heap.size wy wb := by rw [hwb]; exact (Below.refl _ _).alloc (Nat.le_refl _) _
  have hB : B < wy.heap.size := (Array.getElem?_eq_some_iff.1 h.blk).1
  have hw : w.heap.size < wy.heap.size := by have := h.far; omega
  have hob := row_same h.ks (w' := wb) fun p hp => hyb.block p (h.ks.lt p hp).2
  have hkb := row_same h.cs (w' := wb) fun p hp => hyb.block p (h.cs.lt p hp).2
  have hBb := (hyb.block B hB).trans h.blk
  have hrow : RowAt wb (.slice (some ⟨wy.heap.size, 0, none⟩) 1 1) 1 1 [.int .i64 x] := by
    rw [hwb]
    exact RowAt.of_own (World.ownsRow_lit wy #[.int .i64 x] 1 (Nat.le_refl _) (by unfold maxLen; omega) (by simp))
  have hs := hyb.size
  obtain ⟨A7, c7, w7, hr, h2, h3, h4⟩ := run_appAt (P := Try.prog) (w := wb) w.heap.size 23 23 3 iu _ 1 8 Try.underlying23 hiu z0 z1 z2 rfl (by decide) _ _ n.kids.length _ hob 1 _ hrow (by intro u hu; simp at hu; subst hu; rfl) (by unfold maxLen; omega) (by omega) (by omega)
  have hs7 := h3.size
  have nb := not_block hob hBb (by decide)
  have hB7 := (h3.block B (by omega) (fun e => nb B e.symm rfl)).trans hBb
  have hk7 : w7.ownsRow w.heap.size 60 4 (.slice A n.cells.length c) n.cells.length (CsV n.cells) := row_same hkb fun p hp => h3.block p (hkb.lt p hp).2 (fun e => rows_apart hob hkb (by decide) e.symm hp rfl)
  have hg7 : w.grownBy w7 (some R) := ⟨h3.os.trans (hyb.os.trans h.grown.os), h3.tape.trans (hyb.tape.trans h.grown.tape), h3.output.trans (hyb.output.trans h.grown.output), by omega, fun b hb hn => (h3.block b (by omega) (fun e => by have := (hob.lt b e.symm).1; omega)).trans ((hyb.block b (by omega)).trans (h.grown.block b hb hn))⟩
  have hd7 : Rdr 95 w7 R s' := h.rdr.keep fun b hb => (h3.block b (by omega) (fun e => by have := (hob.lt b e.symm).1; omega)).trans (hyb.block b (by omega))
  have h2' : w7.ownsRow w.heap.size 3 1 (.slice A7 (n.kids ++ [x]).length c7) (n.kids ++ [x]).length (KsV (n.kids ++ [x])) := by
    rw [KsV_append, List.length_append]
    exact h2
  refine ⟨A7, c7, w7, by rw [← hwb]; exact hr, (row_cells hB7).1 2, (row_cells hB7).2 2, ?_⟩
  have fb := not_block h2' hB7 (by decide)
  have fk := not_block hk7 hB7 (by decide)
  refine ⟨?_, ?_, ?_, hd7.far (by have := h.far; omega), grown_far hg7 (by have := h.far; omega), h.far⟩
  · rw [set4 hB7]
    simp
  · exact row_same hk7 fun p hp => set_far (fk p hp)
  · have := row_same h2' (w' := w7.setCell ⟨B, 2, none⟩ (.slice A7 (n.kids.length + 1) c7)) fun p hp => set_far (fb p hp)
    exact this
theorem DxJ.grow (h : DxJ w wz R B n s A c A' c') {W : World} (hb : Below wz.heap.size wz W) : DxJ w W R B n s A c A' c' := by
  have hRl := h.rdr.lt
  exact ⟨(hb.block _ (Array.getElem?_eq_some_iff.1 h.blk).1).trans h.blk, row_same h.cs fun p hp => hb.block p (h.cs.lt p hp).2, row_same h.ks fun p hp => hb.block p (h.ks.lt p hp).2, h.rdr.keep fun b hb' => hb.block b (by omega), ⟨hb.os.trans h.grown.os, hb.tape.trans h.grown.tape, hb.output.trans h.grown.output, Nat.le_trans h.grown.size hb.size, fun b hb' hn => (hb.block b (by have := h.grown.size; omega)).trans (h.grown.block b hb' hn)⟩, h.far⟩
theorem DxJ.set (h : DxJ w wz R B n s A c A' c') (hR : R < w.heap.size) {C0 i : Nat} {v : Value} (hB : B < C0) (h1 : ∀ p, (Value.slice A n.cells.length c).ownBlock = some p → p < C0) (h2 : ∀ p, (Value.slice A' n.kids.length c').ownBlock = some p → p < C0) : DxJ w (wz.setCell ⟨C0, i, none⟩ v) R B n s A c A' c' := by
  have hf := h.far
  exact ⟨by rw [set_far (by omega)]; exact h.blk, row_same h.cs fun p hp => set_far (by have := h1 p hp; omega), row_same h.ks fun p hp => set_far (by have := h2 p hp; omega), h.rdr.far (by omega), grown_far h.grown (by omega), h.far⟩
theorem DxJ.low (h : DxJ w wz R B n s A c A' c') : B < wz.heap.size ∧ (∀ p, (Value.slice A n.cells.length c).ownBlock = some p → p < wz.heap.size) ∧ (∀ p, (Value.slice A' n.kids.length c').ownBlock = some p → p < wz.heap.size) := ⟨(Array.getElem?_eq_some_iff.1 h.blk).1, fun p hp => (h.cs.lt p hp).2, fun p hp => (h.ks.lt p hp).2⟩
end
def DxI (w W : World) (R B : Nat) (n : PN) (s : Option (List UInt8)) : Prop := ∃ A c A' c', DxJ w W R B n s A c A' c'
theorem xok_any (R : Nat) (st : Option (List UInt8)) (w : World) (h : Rdr 95 w R st) :
    Calls Try.prog 42 #[.pointer (some ⟨R, 0, none⟩)] w fun e w' => e = .returned (.bool st.isSome) ∧ w = w' := by
  obtain ⟨v, hh, _⟩ := h
  obtain ⟨hc, _⟩ := row_cells hh
  have hc1 : w.cell? ⟨R, 1, none⟩ = some (.bool st.isNone) := hc 1
  clear hc hh
  cases st
  · go_enter Try.func42, Try.ntmps42
    go_wp2
    go_ret
    exact ⟨rfl, rfl⟩
  · go_enter Try.func42, Try.ntmps42
    go_wp2
    go_ret
    exact ⟨rfl, rfl⟩
theorem xleft_any (R : Nat) (st : Option (List UInt8)) (w : World) (h : Rdr 95 w R st) :
    Calls Try.prog 44 #[.pointer (some ⟨R, 0, none⟩)] w fun e w' => e = .returned (.int .i64 ((st.getD []).length : Int)) ∧ w = w' := by
  obtain ⟨v, hh, hr⟩ := h
  obtain ⟨hc, _⟩ := row_cells hh
  obtain ⟨A, c, rfl, h1, h2, h3, h4⟩ := hr
  have hc1 : w.cell? ⟨R, 0, none⟩ = some (.slice A (st.getD []).length c) := hc 0
  clear hc hh h1 h2 h3 h4
  go_enter Try.func44, Try.ntmps44
  go_wp2
  go_ret
  exact ⟨rfl, rfl⟩
set_option maxRecDepth 100000 in
theorem xnew_any (l : List UInt8) (v : Value) (w : World) (hr : Rd w w.heap.size v l) (hl : l.length ≤ 1000000) :
    Calls Try.prog 39 #[v] w fun e w' => ∃ R, e = .returned (.pointer (some ⟨R, 0, none⟩)) ∧ w.heap.size ≤ R ∧ Rdr 95 w' R (some l) ∧ Below w.heap.size w w' := by
  obtain ⟨iu, hiu, z0, z1, z2⟩ := info_parts info_U8
  have hb1 : Below w.heap.size w (w.alloc (.cells #[] 5)) := (Below.refl _ _).alloc (Nat.le_refl _) _
  have hown1 : (w.alloc (.cells #[] 5)).ownsRow w.heap.size 5 1 (.slice (some ⟨w.heap.size, 0, none⟩) 0 0) 0 (BS []) := World.ownsRow_lit w #[] 0 (Nat.le_refl _) (by unfold maxLen; omega) rfl
  have hr1 : Rd (w.alloc (.cells #[] 5)) w.heap.size v l := hr.below hb1 (Nat.le_refl _)
  obtain ⟨v', w', hrn, h2, h3⟩ := run_app (P := Try.prog) (w := w.alloc (.cells #[] 5)) w.heap.size 26 26 5 iu Try.underlying26 hiu z0 z1 z2 _ v [] l 0 hown1 w.heap.size hr1 (by simp; omega) hb1.size
  rw [Nat.zero_add, List.nil_append] at h2
  obtain ⟨A, c, rfl⟩ := own_slice h2
  have hbw : Below w.heap.size w w' := hb1.grown h3 hb1.size (fun p hp => by have h1 : w.heap.size = p := Option.some.inj hp; omega)
  have HAP := Lib.hid hrn
  have HD := Lib.hid (Rd.own h2)
  have HB := Lib.hid hbw
  clear hr hb1 hown1 hr1 hrn h2 h3 hbw
  go_enter Try.func39, Try.ntmps39
  go_wp2_with (at_builtin; go_must (refine Lib.wpList_append_run _ rfl (.tmp 3) (.tmp 4) 26 26 rfl _ _ rfl rfl _ _ HAP.out ?_))
  go_ret
  exact ⟨w'.heap.size, rfl, HB.out.size, ⟨_, heap_alloc_new w' _, HD.out.keep (Nat.le_refl _) fun p hp => World.cell?_alloc_lt w' _ p hp⟩, HB.out.alloc HB.out.size _⟩
end Go.Proofs.Ytikkeenjalghmaa
