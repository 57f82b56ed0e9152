/-
  A log cut, an entry told, a log's copy, and the entries from an index on: the program's. No statement is proved here. No condition.
-/
import Derived.Test.YtackfigkhjdidaaLDel
import Derived.Test.YtackfigkhjdidaaLMergeP
namespace Go.Proofs.Ytackfigkhjdidaa
open Go.RowKit

theorem cut_goal {P G : Prop} (h : P → G) (k : P) : G := h k
theorem lastTerm_drop (t : Int) (l : List EN) (k : Nat) : lastTerm (lastTerm t (l.take k)) (l.drop k) = lastTerm t l := by rw [← lastTerm_append, List.take_append_drop]
set_option maxHeartbeats 4000000 in
set_option maxRecDepth 100000 in
theorem cut_any (g : LG) (B p : Nat) (v : Value) (i : Int) (w : World) (h : LogAt w B p v g) (hs : v.ownBlock.isSome = true) (hi : i ≤ 9223372036854775807) (hBw : B ≤ w.heap.size) :
    Calls Try.prog 35 #[.pointer (some ⟨p, 0, none⟩), .int .i64 i] w fun e w' => ((g.termAt i = none ∧ e = .returned (.int .i64 1) ∧ LogAt w' B p v g ∧ Below w.heap.size w w') ∨ (∃ k : Nat, ∃ u, i = (g.base : Int) + (k : Int) ∧ k ≤ g.l.length ∧ e = .returned (.int .i64 0) ∧ LogAt w' B p u ⟨g.base + k, lastTerm g.term (g.l.take k), g.l.drop k⟩ ∧ u.ownBlock = v.ownBlock)) ∧ Turned p v w w' := by
  have cT := term_any g B p v i w h hi
  have H := Lib.hid h
  clear h
  go_enter Try.func35, Try.ntmps35
  go_wp2_with fail
  refine cT.mono ?_
  rintro e w1 ⟨rfl, hb1⟩
  clear cT
  have hl1 := H.out.below hb1
  cases ht : g.termAt i with
  | none =>
    have HF := Lib.hid (And.intro hl1 hb1)
    have HTn := Lib.hid ht
    clear ht hl1 hb1
    dsimp only [Option.getD_none, Option.isSome_none]
    go_wp2_with fail
    go_ret
    exact ⟨.inl ⟨HTn.out, rfl, HF.out.1, HF.out.2⟩, Turned.of_below HF.out.2⟩
  | some t =>
    obtain ⟨k, hik, hk, htt⟩ := LG.termAt_take ht
    obtain ⟨rs, he⟩ := hl1.ent
    obtain ⟨Av, cap, hv⟩ := he.slice
    subst hv
    cases Av with
    | none => cases hs
    | some a =>
      obtain ⟨g0, ha⟩ : ∃ g0, a = ⟨g0, 0, none⟩ := by
        rcases own_opened he.row with ⟨hv, -⟩ | ⟨g', cap', rest, hv, -⟩
        · cases hv
        · injection hv with v1 v2 v3
          injection v1 with v1
          exact ⟨g', v1⟩
      subst ha
      obtain ⟨C0, hC0⟩ := row_type he.row (p := g0) rfl
      have hpg : p ≠ g0 := apart_T hl1.blk hC0 (by decide)
      have hfit := hl1.fit
      have hg0B : B ≤ g0 := (he.row.lt g0 rfl).1
      have cD := delete_any w1.drew B g0 cap k rs g.l ⟨he.row, he.len, he.ent⟩ hk (by omega) (Nat.le_trans hBw hb1.size)
      obtain ⟨c0, c1, c2⟩ := hl1.cells
      obtain ⟨d0, d1, d2⟩ : w1.drew.cell? ⟨p, 0, none⟩ = some (.int .i64 (g.base : Int)) ∧ w1.drew.cell? ⟨p, 1, none⟩ = some (.int .i64 g.term) ∧ w1.drew.cell? ⟨p, 2, none⟩ = some (.slice (some ⟨g0, 0, none⟩) g.l.length cap) := ⟨c0, c1, c2⟩
      have hik' : i = ((g.base + k : Nat) : Int) := by omega
      have hmay := follows_split k hl1.may
      have hlen : (g.l.drop k).length = g.l.length - k := List.length_drop
      -- behind the deletion
      have hnext : ∀ w2, (∃ rs', EntO w2 B (.slice (some ⟨g0, 0, none⟩) (g.l.length - k) cap) rs' (g.l.drop k)) → (∀ b, b ≠ g0 → w2.heap[b]? = w1.drew.heap[b]?) → Below g0 w1.drew w2 →
          (w2.cell? ⟨p, 0, none⟩ = some (.int .i64 (g.base : Int)) ∧ w2.cell? ⟨p, 1, none⟩ = some (.int .i64 g.term) ∧ w2.cell? ⟨p, 2, none⟩ = some (.slice (some ⟨g0, 0, none⟩) g.l.length cap)) ∧ (w2.frozen? ⟨p, 0, none⟩ = false ∧ w2.frozen? ⟨p, 1, none⟩ = false ∧ w2.frozen? ⟨p, 2, none⟩ = false) ∧
          Hid (LogAt (((w2.setCell ⟨p, 2, none⟩ (.slice (some ⟨g0, 0, none⟩) (g.l.length - k) cap)).setCell ⟨p, 0, none⟩ (.int .i64 i)).setCell ⟨p, 1, none⟩ (.int .i64 t)) B p (.slice (some ⟨g0, 0, none⟩) (g.l.length - k) cap) ⟨g.base + k, lastTerm g.term (g.l.take k), g.l.drop k⟩ ∧ Turned p (.slice (some ⟨g0, 0, none⟩) g.l.length cap) w (((w2.setCell ⟨p, 2, none⟩ (.slice (some ⟨g0, 0, none⟩) (g.l.length - k) cap)).setCell ⟨p, 0, none⟩ (.int .i64 i)).setCell ⟨p, 1, none⟩ (.int .i64 t))) := by
        rintro w2 ⟨rs', he2⟩ hf2 hB2
        have hp2 : w2.heap[p]? = _ := (hf2 p hpg).trans hl1.blk
        refine ⟨⟨(blk_cells hp2).1 0, (blk_cells hp2).1 1, (blk_cells hp2).1 2⟩, ⟨(blk_cells hp2).2 0, (blk_cells hp2).2 1, (blk_cells hp2).2 2⟩, Lib.hid ?_⟩
        obtain ⟨w5, hw5⟩ : ∃ w5, w5 = ((w2.setCell ⟨p, 2, none⟩ (.slice (some ⟨g0, 0, none⟩) (g.l.length - k) cap)).setCell ⟨p, 0, none⟩ (.int .i64 i)).setCell ⟨p, 1, none⟩ (.int .i64 t) := ⟨_, rfl⟩
        have hp5 : w5.heap[p]? = some (.cells #[.int .i64 ((g.base + k : Nat) : Int), .int .i64 (lastTerm g.term (g.l.take k)), .slice (some ⟨g0, 0, none⟩) (g.l.length - k) cap] 128 (0, 0)) := by
          rw [hw5, Joins.block_setCell (Joins.block_setCell (Joins.block_setCell hp2 _) _) _, hik', htt]
          rfl
        have hf5 : ∀ b, b ≠ p → w5.heap[b]? = w2.heap[b]? := fun b hb => by
          rw [hw5]
          exact (Below.heap_setCell _ ⟨p, 1, none⟩ _ b hb).trans ((Below.heap_setCell _ ⟨p, 0, none⟩ _ b hb).trans (Below.heap_setCell w2 ⟨p, 2, none⟩ _ b hb))
        have hs5 : w2.heap.size ≤ w5.heap.size := by rw [hw5]; simp [World.setCell]
        rw [← hw5]
        have nP : ∀ {e : TypeId} {size n : Nat} {x : Value} {xs : List Value}, e ≠ 128 → w2.ownsRow B e size x n xs → ∀ b, x.ownBlock = some b → b ≠ p := fun {e size n x xs} hT hx b hb e2 => by
          subst e2
          obtain ⟨c1, h1⟩ := row_type hx hb
          exact apart_T h1 hp2 hT rfl
        refine ⟨⟨hp5, ⟨rs', row_same he2.row fun b hb => hf5 b (nP (by decide) he2.row b hb), he2.len, fun i r e hr he => ⟨(he2.ent i r e hr he).1, row_same (he2.ent i r e hr he).2 fun b hb => hf5 b (nP (by decide) (he2.ent i r e hr he).2 b hb)⟩⟩, hl1.pB, by show g.base + k + (g.l.drop k).length ≤ _; omega, ?_, hmay.2⟩, ?_, ?_, ?_, ?_, fun b hb hbp hbv => ?_⟩
        · show 0 ≤ lastTerm g.term (g.l.take k) ∧ _
          rw [lastTerm_get]
          cases hx : (g.l.take k)[(g.l.take k).length - 1]? with
          | none => exact hl1.term0
          | some x =>
            have := EN.may_term (follows_all hmay.1 x (List.mem_of_getElem? hx)).1
            show 0 ≤ x.term ∧ x.term ≤ _
            omega
        · rw [hw5]; exact hB2.os.trans hb1.os
        · rw [hw5]; exact hB2.tape.trans hb1.tape
        · rw [hw5]; exact hB2.output.trans hb1.output
        · exact Nat.le_trans hb1.size (Nat.le_trans hB2.size hs5)
        · have hbg : b ≠ g0 := fun e => hbv (by rw [e]; rfl)
          exact (hf5 b hbp).trans ((hf2 b hbg).trans (hb1.block b hb))
      have HNEXT := Lib.hid hnext
      obtain ⟨hsub, hsub2, hwk, hwk2⟩ : wrap64 (i - (g.base : Int)) = (k : Int) ∧ i - (g.base : Int) = (k : Int) ∧ IntKind.i64.wrap (k : Int) = (k : Int) ∧ wrap64 (k : Int) = (k : Int) := ⟨by rw [wrap_fit (by omega)]; omega, by omega, by rw [IntKind.wrap_i64]; omega, wrap_fit (by omega)⟩
      have HT := Lib.hid (And.intro hik hk)
      clear ht hik hk htt he hC0 hpg hg0B hik' hmay hlen hnext hl1 hb1 hBw hs hfit
      dsimp only [Option.getD_some, Option.isSome_some]
      go_upto_region 6 with fail
      apply cut_goal
      case h =>
        intro key
        go_region_law (go_simp; go_at_call 90; refine cD.mono ?_; rintro e w2 ⟨rfl, he2, hf2, hB2⟩; obtain ⟨⟨a0, a1, a2⟩, ⟨f0, f1, f2⟩, HF⟩ := HNEXT.out w2 he2 hf2 hB2)
        all_goals
          clear a0 a1 a2 f0 f1 f2 HF
          revert hB2 hf2 he2
          revert w2
          exact key
      intro w2 he2 hf2 hB2
      obtain ⟨⟨a0, a1, a2⟩, ⟨f0, f1, f2⟩, HF⟩ := HNEXT.out w2 he2 hf2 hB2
      clear he2 hf2 hB2 cD
      go_wp2_with fail
      go_ret
      exact ⟨.inr ⟨k, _, HT.out.1, HT.out.2, rfl, HF.out.1, rfl⟩, HF.out.2⟩
end Go.Proofs.Ytackfigkhjdidaa
