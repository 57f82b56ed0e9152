/-
  A node read: the program's read. No statement is proved here. No condition.
-/
import Derived.Test.YtedcknlafkokkaaNRead
import Derived.Test.YtedcknlafkokkaaNSums
namespace Go.Proofs.Ytedcknlafkokkaa
open Go.RowKit

def rdCells (leaf : Bool) : Nat → Option (List UInt8) → List PC × Option (List UInt8)
  | 0, st => ([], st)
  | m + 1, st => ((rdCell leaf st).1 :: (rdCells leaf m (rdCell leaf st).2).1, (rdCells leaf m (rdCell leaf st).2).2)
def rdKids : Nat → Option (List UInt8) → List Int × Option (List UInt8)
  | 0, st => ([], st)
  | m + 1, st => ((told 0 (gCount 2147483647) st).1 :: (rdKids m (told 0 (gCount 2147483647) st).2).1, (rdKids m (told 0 (gCount 2147483647) st).2).2)
theorem rdCells_length (leaf : Bool) : ∀ (m : Nat) (st : Option (List UInt8)), (rdCells leaf m st).1.length = m := by
  intro m
  induction m with
  | zero => intro st; rfl
  | succ m ih => intro st; show ((rdCell leaf st).1 :: _).length = _; rw [List.length_cons, ih]
theorem rdKids_length : ∀ (m : Nat) (st : Option (List UInt8)), (rdKids m st).1.length = m := by
  intro m
  induction m with
  | zero => intro st; rfl
  | succ m ih => intro st; show ((told 0 (gCount 2147483647) st).1 :: _).length = _; rw [List.length_cons, ih]
/-- how many cells are asked for -/
def rdMany (st : Option (List UInt8)) : Nat := (told 0 (gCount (((st.getD []).length : Nat) : Int)) st).1.toNat
def rdNode (st : Option (List UInt8)) : PN × Option (List UInt8) :=
  let lf := (told false gFlag st).1
  let s1 := (told false gFlag st).2
  let s2 := (told 0 (gCount (((s1.getD []).length : Nat) : Int)) s1).2
  let cs := rdCells lf (rdMany s1) s2
  if lf then (⟨lf, cs.1, []⟩, cs.2) else (⟨lf, cs.1, (rdKids (rdMany s1 + 1) cs.2).1⟩, (rdKids (rdMany s1 + 1) cs.2).2)
/-- the node so far, in the variable's block B; the result's block is w.heap.size -/
structure RdJ (w W : World) (R B : Nat) (n : PN) (s : Option (List UInt8)) (A : Option Addr) (c : Nat) (A' : Option Addr) (c' : Nat) : Prop where
  blk : W.heap[B]? = some (.cells #[.bool n.leaf, .slice A n.cells.length c, .slice A' n.kids.length c'] 31 (0, 0))
  res : W.heap[w.heap.size]? = some (.cells #[.bool false, .slice none 0 0, .slice none 0 0] 31 (0, 0))
  cs : W.ownsRow w.heap.size 59 4 (.slice A n.cells.length c) n.cells.length (CsV n.cells)
  ks : W.ownsRow w.heap.size 3 1 (.slice A' n.kids.length c') n.kids.length (KsV n.kids)
  rdr : Rdr 101 W R s
  grown : w.grownBy W (some R)
  far : w.heap.size < B
def RdI (w W : World) (R B : Nat) (n : PN) (s : Option (List UInt8)) : Prop := ∃ A c A' c', RdJ w W R B n s A c A' c'
theorem not_block {w : World} {base : Nat} {e T : TypeId} {size : Nat} {v : Value} {n : Nat} {xs : List Value} (h : w.ownsRow base e size v n xs) {b : Nat} {C : Array Value} (hb : w.heap[b]? = some (.cells C T (0, 0))) (hT : T ≠ e) : ∀ p, v.ownBlock = some p → p ≠ b := fun p hp e' => by
  subst e'
  obtain ⟨cur, hc⟩ := row_type h hp
  rw [hc] at hb
  injection hb with hb
  injection hb with _ hb
  exact hT hb.symm
theorem Rdr.keep {T : TypeId} {w w' : World} {R : Nat} {st : Option (List UInt8)} (h : Rdr T w R st) (hk : ∀ b, b ≤ R → w'.heap[b]? = w.heap[b]?) : Rdr T w' R st := by
  obtain ⟨x, h1, h2⟩ := h
  exact ⟨x, (hk R (Nat.le_refl _)).trans h1, h2.keep (Nat.le_refl _) fun a ha => World.cell?_of_block (hk _ (by omega))⟩
section
variable {w wz wy : World} {R B : Nat} {n : PN} {s s' : Option (List UInt8)} {A A' : Option Addr} {c c' : Nat}
theorem RdJ.step (h : RdJ w wz R B n s A c A' c') (hR : R < w.heap.size) (hg : wz.grownBy wy (some R)) (hr : Rdr 101 wy R s') : RdJ w wy R B n s' A c A' c' := by
  have hB : B < wz.heap.size := (Array.getElem?_eq_some_iff.1 h.blk).1
  have hw : w.heap.size < wz.heap.size := (Array.getElem?_eq_some_iff.1 h.res).1
  have hne : ∀ b, w.heap.size ≤ b → some b ≠ some R := fun b hb e => by injection e with e; omega
  exact ⟨(hg.block _ hB (hne _ (by have := h.far; omega))).trans h.blk, (hg.block _ hw (hne _ (Nat.le_refl _))).trans h.res, row_same h.cs fun p hp => hg.block _ (h.cs.lt p hp).2 (hne _ (h.cs.lt p hp).1), row_same h.ks fun p hp => hg.block _ (h.ks.lt p hp).2 (hne _ (h.ks.lt p hp).1), hr, grown_trans h.grown hg, h.far⟩
theorem RdJ.pushC (h : RdJ w wy R B n s' A c A' c') (hR : R < w.heap.size) (x : PC) (hl : n.cells.length ≤ 1000) :
    ∃ A7 c7 w7, (Builtin.append_ #[29, 29] 29 #[.slice A n.cells.length c, .slice (some ⟨wy.heap.size, 0, none⟩) 1 1]).run Try.prog (wy.alloc (.cells #[.string x.key, .string x.val, .int .i64 x.long, .int .i64 x.size] 59)) = .ok (.slice A7 (n.cells.length + 1) c7) w7 ∧
      w7.cell? ⟨B, 1, none⟩ = some (.slice A n.cells.length c) ∧ w7.frozen? ⟨B, 1, none⟩ = false ∧ RdJ w (w7.setCell ⟨B, 1, none⟩ (.slice A7 (n.cells.length + 1) c7)) R B { n with cells := n.cells ++ [x] } s' A7 c7 A' c' := by
  obtain ⟨iu, hiu, z0, z1, z2⟩ := info_parts info_C
  obtain ⟨wb, hwb⟩ : ∃ wb, wb = wy.alloc (.cells #[.string x.key, .string x.val, .int .i64 x.long, .int .i64 x.size] 59) := ⟨_, rfl⟩
  have hyb : Below wy.heap.size wy wb := by rw [hwb]; exact (Below.refl _ _).alloc (Nat.le_refl _) _
  have hB : B < wy.heap.size := (Array.getElem?_eq_some_iff.1 h.blk).1
  have hw : w.heap.size < wy.heap.size := (Array.getElem?_eq_some_iff.1 h.res).1
  have hob := row_same h.cs (w' := wb) fun p hp => hyb.block p (h.cs.lt p hp).2
  have hkb := row_same h.ks (w' := wb) fun p hp => hyb.block p (h.ks.lt p hp).2
  have hBb := (hyb.block B hB).trans h.blk
  have hrb := (hyb.block _ hw).trans h.res
  have hrow : RowAt wb (.slice (some ⟨wy.heap.size, 0, none⟩) 1 1) 1 4 x.vals := by
    rw [hwb]
    exact RowAt.of_own (World.ownsRow_lit wy #[.string x.key, .string x.val, .int .i64 x.long, .int .i64 x.size] 1 (Nat.le_refl _) (by unfold maxLen; omega) (by simp))
  have hs := hyb.size
  obtain ⟨A7, c7, w7, hr, h2, h3, h4⟩ := run_appAt (P := Try.prog) (w := wb) w.heap.size 29 29 59 iu _ 4 48 Try.underlying29 hiu z0 z1 z2 rfl (by decide) _ _ n.cells.length _ hob 1 _ hrow (by intro u hu; simp [PC.vals] at hu; rcases hu with rfl | rfl | rfl | rfl <;> rfl) (by unfold maxLen; omega) (by omega) (by omega)
  have hs7 := h3.size
  have nb := not_block hob hBb (by decide)
  have nr := not_block hob hrb (by decide)
  have hB7 := (h3.block B (by omega) (fun e => nb B e.symm rfl)).trans hBb
  have hr7 := (h3.block w.heap.size (by omega) (fun e => nr _ e.symm rfl)).trans hrb
  have hk7 : w7.ownsRow w.heap.size 3 1 (.slice A' n.kids.length c') n.kids.length (KsV n.kids) := row_same hkb fun p hp => h3.block p (hkb.lt p hp).2 (fun e => rows_apart hob hkb (by decide) e.symm hp rfl)
  have hg7 : w.grownBy w7 (some R) := ⟨h3.os.trans (hyb.os.trans h.grown.os), h3.tape.trans (hyb.tape.trans h.grown.tape), h3.output.trans (hyb.output.trans h.grown.output), by omega, fun b hb hn => (h3.block b (by omega) (fun e => by have := (hob.lt b e.symm).1; omega)).trans ((hyb.block b (by omega)).trans (h.grown.block b hb hn))⟩
  have hd7 : Rdr 101 w7 R s' := h.rdr.keep fun b hb => (h3.block b (by omega) (fun e => by have := (hob.lt b e.symm).1; omega)).trans (hyb.block b (by omega))
  have h2' : w7.ownsRow w.heap.size 59 4 (.slice A7 (n.cells ++ [x]).length c7) (n.cells ++ [x]).length (CsV (n.cells ++ [x])) := by
    rw [CsV_append, List.length_append]
    exact h2
  refine ⟨A7, c7, w7, by rw [← hwb]; exact hr, (row_cells hB7).1 1, (row_cells hB7).2 1, ?_⟩
  have fb := not_block h2' hB7 (by decide)
  have fk := not_block hk7 hB7 (by decide)
  refine ⟨?_, ?_, ?_, ?_, hd7.far (by have := h.far; omega), grown_far hg7 (by have := h.far; omega), h.far⟩
  · rw [set4 hB7]
    simp
  · rw [set_far (by have := h.far; omega)]
    exact hr7
  · have := row_same h2' (w' := w7.setCell ⟨B, 1, none⟩ (.slice A7 (n.cells.length + 1) c7)) fun p hp => set_far (fb p hp)
    exact this
  · exact row_same hk7 fun p hp => set_far (fk p hp)
theorem RdJ.pushK (h : RdJ w wy R B n s' A c A' c') (hR : R < w.heap.size) (x : Int) (hl : n.kids.length ≤ 1001) :
    ∃ A7 c7 w7, (Builtin.append_ #[23, 23] 23 #[.slice A' n.kids.length c', .slice (some ⟨wy.heap.size, 0, none⟩) 1 1]).run Try.prog (wy.alloc (.cells #[.int .i64 x] 3)) = .ok (.slice A7 (n.kids.length + 1) c7) w7 ∧
      w7.cell? ⟨B, 2, none⟩ = some (.slice A' n.kids.length c') ∧ w7.frozen? ⟨B, 2, none⟩ = false ∧ RdJ w (w7.setCell ⟨B, 2, none⟩ (.slice A7 (n.kids.length + 1) c7)) R B { n with kids := n.kids ++ [x] } s' A c A7 c7 := by
  obtain ⟨iu, hiu, z0, z1, z2⟩ := info_parts info_I
  obtain ⟨wb, hwb⟩ : ∃ wb, wb = wy.alloc (.cells #[.int .i64 x] 3) := ⟨_, rfl⟩
  have hyb : Below wy.heap.size wy wb := by rw [hwb]; exact (Below.refl _ _).alloc (Nat.le_refl _) _
  have hB : B < wy.heap.size := (Array.getElem?_eq_some_iff.1 h.blk).1
  have hw : w.heap.size < wy.heap.size := (Array.getElem?_eq_some_iff.1 h.res).1
  have hob := row_same h.ks (w' := wb) fun p hp => hyb.block p (h.ks.lt p hp).2
  have hkb := row_same h.cs (w' := wb) fun p hp => hyb.block p (h.cs.lt p hp).2
  have hBb := (hyb.block B hB).trans h.blk
  have hrb := (hyb.block _ hw).trans h.res
  have hrow : RowAt wb (.slice (some ⟨wy.heap.size, 0, none⟩) 1 1) 1 1 [.int .i64 x] := by
    rw [hwb]
    exact RowAt.of_own (World.ownsRow_lit wy #[.int .i64 x] 1 (Nat.le_refl _) (by unfold maxLen; omega) (by simp))
  have hs := hyb.size
  obtain ⟨A7, c7, w7, hr, h2, h3, h4⟩ := run_appAt (P := Try.prog) (w := wb) w.heap.size 23 23 3 iu _ 1 8 Try.underlying23 hiu z0 z1 z2 rfl (by decide) _ _ n.kids.length _ hob 1 _ hrow (by intro u hu; simp at hu; subst hu; rfl) (by unfold maxLen; omega) (by omega) (by omega)
  have hs7 := h3.size
  have nb := not_block hob hBb (by decide)
  have nr := not_block hob hrb (by decide)
  have hB7 := (h3.block B (by omega) (fun e => nb B e.symm rfl)).trans hBb
  have hr7 := (h3.block w.heap.size (by omega) (fun e => nr _ e.symm rfl)).trans hrb
  have hk7 : w7.ownsRow w.heap.size 59 4 (.slice A n.cells.length c) n.cells.length (CsV n.cells) := row_same hkb fun p hp => h3.block p (hkb.lt p hp).2 (fun e => rows_apart hob hkb (by decide) e.symm hp rfl)
  have hg7 : w.grownBy w7 (some R) := ⟨h3.os.trans (hyb.os.trans h.grown.os), h3.tape.trans (hyb.tape.trans h.grown.tape), h3.output.trans (hyb.output.trans h.grown.output), by omega, fun b hb hn => (h3.block b (by omega) (fun e => by have := (hob.lt b e.symm).1; omega)).trans ((hyb.block b (by omega)).trans (h.grown.block b hb hn))⟩
  have hd7 : Rdr 101 w7 R s' := h.rdr.keep fun b hb => (h3.block b (by omega) (fun e => by have := (hob.lt b e.symm).1; omega)).trans (hyb.block b (by omega))
  have h2' : w7.ownsRow w.heap.size 3 1 (.slice A7 (n.kids ++ [x]).length c7) (n.kids ++ [x]).length (KsV (n.kids ++ [x])) := by
    rw [KsV_append, List.length_append]
    exact h2
  refine ⟨A7, c7, w7, by rw [← hwb]; exact hr, (row_cells hB7).1 2, (row_cells hB7).2 2, ?_⟩
  have fb := not_block h2' hB7 (by decide)
  have fk := not_block hk7 hB7 (by decide)
  refine ⟨?_, ?_, ?_, ?_, hd7.far (by have := h.far; omega), grown_far hg7 (by have := h.far; omega), h.far⟩
  · rw [set4 hB7]
    simp
  · rw [set_far (by have := h.far; omega)]
    exact hr7
  · exact row_same hk7 fun p hp => set_far (fk p hp)
  · have := row_same h2' (w' := w7.setCell ⟨B, 2, none⟩ (.slice A7 (n.kids.length + 1) c7)) fun p hp => set_far (fb p hp)
    exact this
theorem RdJ.told (h : RdJ w wy R B n s A c A' c') (hR : R < w.heap.size) :
    (((wy.setCell ⟨w.heap.size, 0, none⟩ (.bool n.leaf)).setCell ⟨w.heap.size, 1, none⟩ (.slice A n.cells.length c)).setCell ⟨w.heap.size, 2, none⟩ (.slice A' n.kids.length c')).heap[w.heap.size]? = some (.cells #[.bool n.leaf, .slice A n.cells.length c, .slice A' n.kids.length c'] 31 (0, 0)) ∧
    OwnN (((wy.setCell ⟨w.heap.size, 0, none⟩ (.bool n.leaf)).setCell ⟨w.heap.size, 1, none⟩ (.slice A n.cells.length c)).setCell ⟨w.heap.size, 2, none⟩ (.slice A' n.kids.length c')) w.heap.size (.agg #[.bool n.leaf, .slice A n.cells.length c, .slice A' n.kids.length c']) n ∧
    w.grownBy (((wy.setCell ⟨w.heap.size, 0, none⟩ (.bool n.leaf)).setCell ⟨w.heap.size, 1, none⟩ (.slice A n.cells.length c)).setCell ⟨w.heap.size, 2, none⟩ (.slice A' n.kids.length c')) (some R) ∧
    Rdr 101 (((wy.setCell ⟨w.heap.size, 0, none⟩ (.bool n.leaf)).setCell ⟨w.heap.size, 1, none⟩ (.slice A n.cells.length c)).setCell ⟨w.heap.size, 2, none⟩ (.slice A' n.kids.length c')) R s := by
  have fb := not_block h.cs h.res (by decide)
  have fk := not_block h.ks h.res (by decide)
  exact ⟨set3_at h.res, ⟨A, c, A', c', rfl, row_same h.cs fun p hp => set3_far (fb p hp), row_same h.ks fun p hp => set3_far (fk p hp)⟩, grown_far (grown_far (grown_far h.grown (Nat.le_refl _)) (Nat.le_refl _)) (Nat.le_refl _), ((h.rdr.far hR).far hR).far hR⟩
end
end Go.Proofs.Ytedcknlafkokkaa
