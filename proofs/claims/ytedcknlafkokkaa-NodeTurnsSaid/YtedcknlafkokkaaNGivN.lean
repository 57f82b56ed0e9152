/-
  A node laid anew, cell by cell: what is kept meanwhile. No statement is proved here. No condition.
-/
import Derived.Test.YtedcknlafkokkaaNSums
import Derived.Test.YtedcknlafkokkaaNCopy
import Derived.Test.YtedcknlafkokkaaNReadN
namespace Go.Proofs.Ytedcknlafkokkaa
open Go.RowKit

/-- a node that is owned, its cells of a type -/
def OwnT (TC : TypeId) (w : World) (B : Nat) (v : Value) (n : PN) : Prop := ∃ Ac cc Ak ck, v = .agg #[.bool n.leaf, .slice Ac n.cells.length cc, .slice Ak n.kids.length ck] ∧ w.ownsRow B TC 4 (.slice Ac n.cells.length cc) n.cells.length (CsV n.cells) ∧ w.ownsRow B 3 1 (.slice Ak n.kids.length ck) n.kids.length (KsV n.kids)
theorem OwnT.below {TC : TypeId} {w w' : World} {B : Nat} {v : Value} {n : PN} (h : OwnT TC w B v n) (hb : Below w.heap.size w w') : OwnT TC w' B v n := by
  obtain ⟨Ac, cc, Ak, ck, rfl, h1, h2⟩ := h
  exact ⟨Ac, cc, Ak, ck, rfl, row_same h1 fun p hp => hb.block p (h1.lt p hp).2, row_same h2 fun p hp => hb.block p (h2.lt p hp).2⟩
theorem OwnT.node {TC : TypeId} {w : World} {B : Nat} {v : Value} {n : PN} (h : OwnT TC w B v n) : NodeN w (fun b => B ≤ b) v n := by
  obtain ⟨Ac, cc, Ak, ck, rfl, h1, h2⟩ := h
  exact ⟨_, _, rfl, RowN.of_own h1 fun b hb => (h1.lt b hb).1, RowN.of_own h2 fun b hb => (h2.lt b hb).1⟩
/-- the node so far, in the variable's block B; the argument's block is w.heap.size -/
structure GvJ (TN TC TS : TypeId) (w W : World) (S : Array Value) (B : Nat) (n : PN) (A : Option Addr) (c : Nat) (A' : Option Addr) (c' : Nat) : Prop where
  blk : W.heap[B]? = some (.cells #[.bool n.leaf, .slice A n.cells.length c, .slice A' n.kids.length c'] TN (0, 0))
  src : W.heap[w.heap.size]? = some (.cells S TS (0, 0))
  res : W.heap[w.heap.size + 1]? = some (.cells #[.bool false, .slice none 0 0, .slice none 0 0] TN (0, 0))
  cs : W.ownsRow w.heap.size TC 4 (.slice A n.cells.length c) n.cells.length (CsV n.cells)
  ks : W.ownsRow w.heap.size 3 1 (.slice A' n.kids.length c') n.kids.length (KsV n.kids)
  below : Below w.heap.size w W
  far : w.heap.size + 1 < B
def GvI (TN TC TS : TypeId) (w W : World) (S : Array Value) (B : Nat) (n : PN) : Prop := ∃ A c A' c', GvJ TN TC TS w W S B n A c A' c'
section
variable {w wy : World} {TN TC TS TL : TypeId} {S : Array Value} {B : Nat} {n : PN} {A A' : Option Addr} {c c' : Nat}
theorem GvJ.drewN (h : GvJ TN TC TS w wy S B n A c A' c') (k : Nat) : GvJ TN TC TS w (wy.drewN k) S B n A c A' c' := ⟨h.blk, h.src, h.res, h.cs, h.ks, below_drewN h.below k, h.far⟩
theorem GvJ.drew (h : GvJ TN TC TS w wy S B n A c A' c') : GvJ TN TC TS w wy.drew S B n A c A' c' := ⟨h.blk, h.src, h.res, h.cs, h.ks, h.below.drew, h.far⟩
theorem GvJ.step (h : GvJ TN TC TS w wy S B n A c A' c') {wz : World} (hb : Below wy.heap.size wy wz) : GvJ TN TC TS w wz S B n A c A' c' :=
  ⟨(hb.block _ (Array.getElem?_eq_some_iff.1 h.blk).1).trans h.blk, (hb.block _ (Array.getElem?_eq_some_iff.1 h.src).1).trans h.src, (hb.block _ (Array.getElem?_eq_some_iff.1 h.res).1).trans h.res, row_same h.cs fun p hp => hb.block p (h.cs.lt p hp).2, row_same h.ks fun p hp => hb.block p (h.ks.lt p hp).2, h.below.trans (Joins.below_le hb h.below.size), h.far⟩
theorem GvJ.pushC (hinfo : (Try.prog.info? TC).map (fun i => (i.zero, i.size, i.bytes)) = some (some (.agg #[.string ⟨#[]⟩, .string ⟨#[]⟩, .int .i64 0, .int .i64 0]), 4, 48)) (hu : Try.prog.underlying TL = some (.slice TC)) (hNC : TN ≠ TC) (hSC : TS ≠ TC) (hIC : TC ≠ 3) (hNI : TN ≠ 3)
    (h : GvJ TN TC TS w wy S B n A c A' c') (x : PC) (hl : n.cells.length ≤ 1000) :
    ∃ A7 c7 w7, (Builtin.append_ #[TL, TL] TL #[.slice A n.cells.length c, .slice (some ⟨wy.heap.size, 0, none⟩) 1 1]).run Try.prog (wy.alloc (.cells #[.string x.key, .string x.val, .int .i64 x.long, .int .i64 x.size] TC)) = .ok (.slice A7 (n.cells.length + 1) c7) w7 ∧
      w7.cell? ⟨B, 1, none⟩ = some (.slice A n.cells.length c) ∧ w7.frozen? ⟨B, 1, none⟩ = false ∧ GvJ TN TC TS w (w7.setCell ⟨B, 1, none⟩ (.slice A7 (n.cells.length + 1) c7)) S B { n with cells := n.cells ++ [x] } A7 c7 A' c' := by
  obtain ⟨iu, hiu, z0, z1, z2⟩ := info_parts hinfo
  obtain ⟨wb, hwb⟩ : ∃ wb, wb = wy.alloc (.cells #[.string x.key, .string x.val, .int .i64 x.long, .int .i64 x.size] TC) := ⟨_, rfl⟩
  have hyb : Below wy.heap.size wy wb := by rw [hwb]; exact (Below.refl _ _).alloc (Nat.le_refl _) _
  have hB : B < wy.heap.size := (Array.getElem?_eq_some_iff.1 h.blk).1
  have hw : w.heap.size < wy.heap.size := (Array.getElem?_eq_some_iff.1 h.src).1
  have hw1 : w.heap.size + 1 < wy.heap.size := (Array.getElem?_eq_some_iff.1 h.res).1
  have hob := row_same h.cs (w' := wb) fun p hp => hyb.block p (h.cs.lt p hp).2
  have hkb := row_same h.ks (w' := wb) fun p hp => hyb.block p (h.ks.lt p hp).2
  have hBb := (hyb.block B hB).trans h.blk
  have hrb := (hyb.block _ hw).trans h.src
  have hsb := (hyb.block _ hw1).trans h.res
  have hrow : RowAt wb (.slice (some ⟨wy.heap.size, 0, none⟩) 1 1) 1 4 x.vals := by
    rw [hwb]
    exact RowAt.of_own (World.ownsRow_lit wy #[.string x.key, .string x.val, .int .i64 x.long, .int .i64 x.size] 1 (Nat.le_refl _) (by unfold maxLen; omega) (by simp))
  have hs := hyb.size
  obtain ⟨A7, c7, w7, hr, h2, h3, h4⟩ := run_appAt (P := Try.prog) (w := wb) w.heap.size TL TL TC iu _ 4 48 hu hiu z0 z1 z2 rfl (by decide) _ _ n.cells.length _ hob 1 _ hrow (by intro u hu; simp [PC.vals] at hu; rcases hu with rfl | rfl | rfl | rfl <;> rfl) (by unfold maxLen; omega) (by omega) (by omega)
  have hs7 := h3.size
  have nb := not_block hob hBb hNC
  have nr := not_block hob hrb hSC
  have ns := not_block hob hsb hNC
  have hB7 := (h3.block B (by omega) (fun e => nb B e.symm rfl)).trans hBb
  have hr7 := (h3.block w.heap.size (by omega) (fun e => nr _ e.symm rfl)).trans hrb
  have hs7' := (h3.block (w.heap.size + 1) (by omega) (fun e => ns _ e.symm rfl)).trans hsb
  have hk7 : w7.ownsRow w.heap.size 3 1 (.slice A' n.kids.length c') n.kids.length (KsV n.kids) := row_same hkb fun p hp => h3.block p (hkb.lt p hp).2 (fun e => rows_apart hob hkb hIC e.symm hp rfl)
  have hg7 : Below w.heap.size w w7 := ⟨h3.os.trans (hyb.os.trans h.below.os), h3.tape.trans (hyb.tape.trans h.below.tape), h3.output.trans (hyb.output.trans h.below.output), by omega, fun b hb => (h3.block b (by omega) (fun e => by have := (hob.lt b e.symm).1; omega)).trans ((hyb.block b (by omega)).trans (h.below.block b hb))⟩
  have h2' : w7.ownsRow w.heap.size TC 4 (.slice A7 (n.cells ++ [x]).length c7) (n.cells ++ [x]).length (CsV (n.cells ++ [x])) := by
    rw [CsV_append, List.length_append]
    exact h2
  refine ⟨A7, c7, w7, by rw [← hwb]; exact hr, (row_cells hB7).1 1, (row_cells hB7).2 1, ?_⟩
  have fb := not_block h2' hB7 hNC
  have fk := not_block hk7 hB7 hNI
  refine ⟨?_, ?_, ?_, ?_, ?_, hg7.setCell (p := ⟨B, 1, none⟩) (show w.heap.size ≤ B by have := h.far; omega) _, h.far⟩
  · rw [set4 hB7]
    simp
  · rw [set_far (by have := h.far; omega)]
    exact hr7
  · rw [set_far (by have := h.far; omega)]
    exact hs7'
  · have := row_same h2' (w' := w7.setCell ⟨B, 1, none⟩ (.slice A7 (n.cells.length + 1) c7)) fun p hp => set_far (fb p hp)
    exact this
  · exact row_same hk7 fun p hp => set_far (fk p hp)
/-- what is told -/
theorem GvJ.told (hNC : TN ≠ TC) (hNI : TN ≠ 3) (h : GvJ TN TC TS w wy S B n A c A' c') :
    (((wy.setCell ⟨w.heap.size + 1, 0, none⟩ (.bool n.leaf)).setCell ⟨w.heap.size + 1, 1, none⟩ (.slice A n.cells.length c)).setCell ⟨w.heap.size + 1, 2, none⟩ (.slice A' n.kids.length c')).heap[w.heap.size + 1]? = some (.cells #[.bool n.leaf, .slice A n.cells.length c, .slice A' n.kids.length c'] TN (0, 0)) ∧
    OwnT TC (((wy.setCell ⟨w.heap.size + 1, 0, none⟩ (.bool n.leaf)).setCell ⟨w.heap.size + 1, 1, none⟩ (.slice A n.cells.length c)).setCell ⟨w.heap.size + 1, 2, none⟩ (.slice A' n.kids.length c')) w.heap.size (.agg #[.bool n.leaf, .slice A n.cells.length c, .slice A' n.kids.length c']) n ∧
    Below w.heap.size w (((wy.setCell ⟨w.heap.size + 1, 0, none⟩ (.bool n.leaf)).setCell ⟨w.heap.size + 1, 1, none⟩ (.slice A n.cells.length c)).setCell ⟨w.heap.size + 1, 2, none⟩ (.slice A' n.kids.length c')) := by
  have fb := not_block h.cs h.res hNC
  have fk := not_block h.ks h.res hNI
  exact ⟨set3_at h.res, ⟨A, c, A', c', rfl, row_same h.cs fun p hp => set3_far (fb p hp), row_same h.ks fun p hp => set3_far (fk p hp)⟩, ((h.below.setCell (Nat.le_succ _) _).setCell (Nat.le_succ _) _).setCell (Nat.le_succ _) _⟩
end
theorem info_RC : (Try.prog.info? 62).map (fun i => (i.zero, i.size, i.bytes)) = some (some (.agg #[.string ⟨#[]⟩, .string ⟨#[]⟩, .int .i64 0, .int .i64 0]), 4, 48) := by kernel_rfl
/-- append([]int{}, l...), wherever the empty row was laid -/
theorem app_kids (W : World) (base g : Nat) (hown : W.ownsRow base 3 1 (.slice (some ⟨g, 0, none⟩) 0 0) 0 []) {v : Value} {l : List Int} (h : KsN W Any v l) (hl : l.length ≤ 1000000) (hbase : base ≤ W.heap.size) :
    ∃ A7 c7 w7, (Builtin.append_ #[23, 23] 23 #[.slice (some ⟨g, 0, none⟩) 0 0, v]).run Try.prog W = .ok (.slice A7 l.length c7) w7 ∧ w7.ownsRow base 3 1 (.slice A7 l.length c7) l.length (KsV l) ∧ W.grownBy w7 (some g) := by
  obtain ⟨iu, hiu, z0, z1, z2⟩ := info_parts info_I
  obtain ⟨A7, c7, w7, hr, h2, h3, -⟩ := run_appAt (P := Try.prog) (w := W) base 23 23 3 iu _ 1 8 Try.underlying23 hiu z0 z1 z2 rfl (by decide) _ _ 0 _ hown l.length _ (RowN.at h) (KsV_one _) (by unfold maxLen; omega) (by omega) hbase
  rw [Nat.zero_add] at hr h2
  exact ⟨A7, c7, w7, hr, h2, h3⟩
end Go.Proofs.Ytedcknlafkokkaa
