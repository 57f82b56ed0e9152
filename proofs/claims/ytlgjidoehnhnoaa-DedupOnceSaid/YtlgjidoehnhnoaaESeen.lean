/-
  The document's Seen (package butteryref09). No statement is proved here. No condition.
-/
import Derived.Test.YtlgjidoehnhnoaaESame
namespace Go.Proofs.Ytlgjidoehnhnoaa
open Go.RowKit

theorem results_ct {fn : Func} {p s : Tmp} {tp : TypeId} (h : fn.results = #[.cell p tp, .tmp s]) (tmps : Array Value) (P : Program) (w : World) :
    (results fn tmps).run P w = ((asAddr (tmps.getD p undef)).run P w).andThen fun a w₁ => ((loadVar tp a).run P w₁).andThen fun v w₂ => .ok (.tuple #[v, tmps.getD s undef]) w₂ := by
  simp only [results, h]
  simp [Sem.run_bind, Result.andThen]
theorem set_far {w : World} {p i : Nat} {u : Value} {b : Nat} (h : b ≠ p) : (w.setCell ⟨p, i, none⟩ u).heap[b]? = w.heap[b]? := Below.heap_setCell w ⟨p, i, none⟩ u b h
theorem set3_at {W : World} {p : Nat} {T : TypeId} {a b c x y z : Value} (h : W.heap[p]? = some (.cells #[a, b, c] T (0, 0))) : (((W.setCell ⟨p, 0, none⟩ x).setCell ⟨p, 1, none⟩ y).setCell ⟨p, 2, none⟩ z).heap[p]? = some (.cells #[x, y, z] T (0, 0)) := by
  rw [Joins.block_setCell (Joins.block_setCell (Joins.block_setCell h _) _) _]
  simp
theorem set3_far {W : World} {p b : Nat} {x y z : Value} (h : b ≠ p) : (((W.setCell ⟨p, 0, none⟩ x).setCell ⟨p, 1, none⟩ y).setCell ⟨p, 2, none⟩ z).heap[b]? = W.heap[b]? := by rw [set_far h, set_far h, set_far h]
theorem set3_below {B : Nat} {w W : World} {p : Nat} {x y z : Value} (h : Below B w W) (hp : B ≤ p) : Below B w (((W.setCell ⟨p, 0, none⟩ x).setCell ⟨p, 1, none⟩ y).setCell ⟨p, 2, none⟩ z) := ((h.setCell (p := ⟨p, 0, none⟩) hp x).setCell (p := ⟨p, 1, none⟩) hp y).setCell (p := ⟨p, 2, none⟩) hp z
theorem zero_res (W : World) : (zeroValue 27).run Try.prog W = .ok (.agg #[.int .u8 0, .bool false, .string ⟨#[]⟩]) W := by kernel_rfl
theorem seenP_step {l : List PL} {i : Nat} {x : PL} (h : l[i]? = some x) (c k : Int) : seenP (l.drop i) c k = if x.client = c then (if x.id = k then (x.res, 0) else if k < x.id then (zR, 6) else (zR, 5)) else seenP (l.drop (i + 1)) c k := by
  rw [drop_step h]
  rfl

set_option maxHeartbeats 4000000 in
set_option maxRecDepth 100000 in
theorem rseen_any (l : List PL) (c k : Int) (v : Value) (w : World) (h : lastR.N w Any v l) :
    Calls Try.prog 22 #[v, .int .i64 c, .int .i64 k] w fun e w' => e = .returned (.tuple #[(seenP l c k).1.agg, .int .i64 (seenP l c k).2]) ∧ Below w.heap.size w w' := by
  obtain ⟨A, cp, rfl, hlc, hcm⟩ := h.slice
  obtain ⟨w1, hw1⟩ : ∃ w1, w1 = w.alloc (.cells #[.int .u8 0, .bool false, .string ⟨#[]⟩] 27) := ⟨_, rfl⟩
  have hb1 : Below w.heap.size w w1 := by rw [hw1]; exact (Below.refl _ _).alloc (Nat.le_refl _) _
  have hx1 : w1.heap[w.heap.size]? = some (.cells #[.int .u8 0, .bool false, .string ⟨#[]⟩] 27 (0, 0)) := by rw [hw1]; exact heap_alloc_new w _
  have hz := zero_res
  obtain ⟨r, hr⟩ : ∃ r, r = seenP l c k := ⟨_, rfl⟩
  rw [← hr]
  have HN := Lib.hid (h.grow hb1)
  have HR : Hid (r = seenP (l.drop 0) c k) := Lib.hid (by rw [hr, List.drop_zero])
  have x0 : w1.cell? ⟨w.heap.size, 0, none⟩ = some (.int .u8 0) := (blk_cells hx1).1 0
  have x1 : w1.cell? ⟨w.heap.size, 1, none⟩ = some (.bool false) := (blk_cells hx1).1 1
  have x2 : w1.cell? ⟨w.heap.size, 2, none⟩ = some (.string ⟨#[]⟩) := (blk_cells hx1).1 2
  have x3 : w1.frozen? ⟨w.heap.size, 0, none⟩ = false := (blk_cells hx1).2 0
  have x4 : w1.frozen? ⟨w.heap.size, 1, none⟩ = false := (blk_cells hx1).2 1
  have x5 : w1.frozen? ⟨w.heap.size, 2, none⟩ = false := (blk_cells hx1).2 2
  -- the result is laid
  have hfin : ∀ x : PR, ∃ wf, wf = ((w1.setCell ⟨w.heap.size, 0, none⟩ (.int .u8 x.kind)).setCell ⟨w.heap.size, 1, none⟩ (.bool x.found)).setCell ⟨w.heap.size, 2, none⟩ (.string x.val) ∧
      (wf.cell? ⟨w.heap.size, 0, none⟩ = some (.int .u8 x.kind) ∧ wf.cell? ⟨w.heap.size, 1, none⟩ = some (.bool x.found) ∧ wf.cell? ⟨w.heap.size, 2, none⟩ = some (.string x.val)) ∧ Below w.heap.size w wf := fun x => by
    have e := set3_at (x := .int .u8 x.kind) (y := .bool x.found) (z := .string x.val) hx1
    exact ⟨_, rfl, ⟨(blk_cells e).1 0, (blk_cells e).1 1, (blk_cells e).1 2⟩, set3_below hb1 (Nat.le_refl _)⟩
  have HFIN := Lib.hid hfin
  have HW1 := Lib.hid hw1
  unfold maxLen at hcm
  clear hr h hw1 hb1 hx1 hfin
  go_enter Try.func22, Try.ntmps22
  go_upto_region 1 with fail
  rw [← HW1.out]
  go_wp2_with fail
  go_loopw [8] (fun s8 wr => ∃ i : Nat, s8 = .int .i64 (i : Int) ∧ i ≤ l.length ∧ Hid (r = seenP (l.drop i) c k) ∧ wr = w1) (fun s8 _ => l.length - (intOf s8).toNat)
  case atStart => exact ⟨0, rfl, Nat.zero_le _, HR, rfl⟩
  case round =>
    clear HR
    obtain ⟨i, rfl, hi, hr, hwr⟩ := hrel
    subst hwr
    by_cases hil : i < l.length
    · have a1 : (i : Int) < (l.length : Int) := by omega
      have a0 : (0 : Int) ≤ (i : Int) := by omega
      obtain ⟨q, hqi⟩ : ∃ q, l[i]? = some q := ⟨_, List.getElem?_eq_getElem hil⟩
      obtain ⟨b, o, n', k', hv, -, -, f0, f1, f2, f3, f4⟩ := last_cell HN.out hqi
      injection hv with e1 e2 e3
      subst e1 e2 e3
      have hr' := hr.out
      rw [seenP_step hqi] at hr'
      by_cases hc : q.client = c
      · rw [if_pos hc] at hr'
        by_cases hk : q.id = k
        · rw [if_pos hk] at hr'
          have HR' := Lib.hid hr'
          obtain ⟨wf, hwf, ⟨g0, g1, g2⟩, hbf⟩ := HFIN.out q.res
          have HWF := Lib.hid hwf
          have HBF := Lib.hid hbf
          clear hr' hr hwf hbf
          go_wp2_with fail
          rw [← HWF.out]
          refine bodyPost_ret (v := .tuple #[q.res.agg, .int .i64 0]) (by unfold PR.agg; rw [results_ct rfl]; go_simp; try rfl) rfl ?_
          exact ⟨by rw [HR'.out], HBF.out⟩
        · rw [if_neg hk] at hr'
          by_cases hg : k < q.id
          · rw [if_pos hg] at hr'
            have HR' := Lib.hid hr'
            obtain ⟨wf, hwf, ⟨g0, g1, g2⟩, hbf⟩ := HFIN.out zR
            have HWF := Lib.hid hwf
            have HBF := Lib.hid hbf
            have g0' : wf.cell? ⟨w.heap.size, 0, none⟩ = some (.int .u8 0) := g0
            have g1' : wf.cell? ⟨w.heap.size, 1, none⟩ = some (.bool false) := g1
            have g2' : wf.cell? ⟨w.heap.size, 2, none⟩ = some (.string ⟨#[]⟩) := g2
            clear hr' hr hwf hbf g0 g1 g2
            go_wp2_with fail
            rw [show ((wr.setCell ⟨w.heap.size, 0, none⟩ (.int .u8 0)).setCell ⟨w.heap.size, 1, none⟩ (.bool false)).setCell ⟨w.heap.size, 2, none⟩ (.string ⟨#[]⟩) = wf from HWF.out.symm]
            refine bodyPost_ret (v := .tuple #[zR.agg, .int .i64 6]) (by unfold PR.agg zR; rw [results_ct rfl]; go_simp; try rfl) rfl ?_
            exact ⟨by rw [HR'.out], HBF.out⟩
          · rw [if_neg hg] at hr'
            have HR' := Lib.hid hr'
            obtain ⟨wf, hwf, ⟨g0, g1, g2⟩, hbf⟩ := HFIN.out zR
            have HWF := Lib.hid hwf
            have HBF := Lib.hid hbf
            have g0' : wf.cell? ⟨w.heap.size, 0, none⟩ = some (.int .u8 0) := g0
            have g1' : wf.cell? ⟨w.heap.size, 1, none⟩ = some (.bool false) := g1
            have g2' : wf.cell? ⟨w.heap.size, 2, none⟩ = some (.string ⟨#[]⟩) := g2
            clear hr' hr hwf hbf g0 g1 g2
            go_wp2_with fail
            rw [show ((wr.setCell ⟨w.heap.size, 0, none⟩ (.int .u8 0)).setCell ⟨w.heap.size, 1, none⟩ (.bool false)).setCell ⟨w.heap.size, 2, none⟩ (.string ⟨#[]⟩) = wf from HWF.out.symm]
            refine bodyPost_ret (v := .tuple #[zR.agg, .int .i64 5]) (by unfold PR.agg zR; rw [results_ct rfl]; go_simp; try rfl) rfl ?_
            exact ⟨by rw [HR'.out], HBF.out⟩
      · rw [if_neg hc] at hr'
        have HR' := Lib.hid hr'
        clear hr' hr
        go_wp2_with fail
        exact ⟨⟨i + 1, by go_num, hil, HR', by trivial⟩, by simp [intOf]; omega⟩
    · have a1 : ¬ (i : Int) < (l.length : Int) := by omega
      have hr' := hr.out
      rw [List.drop_of_length_le (by omega)] at hr'
      have HR' := Lib.hid hr'
      obtain ⟨wf, hwf, ⟨g0, g1, g2⟩, hbf⟩ := HFIN.out zR
      have HWF := Lib.hid hwf
      have HBF := Lib.hid hbf
      have g0' : wf.cell? ⟨w.heap.size, 0, none⟩ = some (.int .u8 0) := g0
      have g1' : wf.cell? ⟨w.heap.size, 1, none⟩ = some (.bool false) := g1
      have g2' : wf.cell? ⟨w.heap.size, 2, none⟩ = some (.string ⟨#[]⟩) := g2
      clear hr' hr hwf hbf g0 g1 g2
      go_wp2_with fail
      rw [show ((wr.setCell ⟨w.heap.size, 0, none⟩ (.int .u8 0)).setCell ⟨w.heap.size, 1, none⟩ (.bool false)).setCell ⟨w.heap.size, 2, none⟩ (.string ⟨#[]⟩) = wf from HWF.out.symm]
      refine bodyPost_ret (v := .tuple #[zR.agg, .int .i64 5]) (by unfold PR.agg zR; rw [results_ct rfl]; go_simp; try rfl) rfl ?_
      exact ⟨by rw [HR'.out]; rfl, HBF.out⟩
end Go.Proofs.Ytlgjidoehnhnoaa
