/-
  The program's calls: what each does to what waits. No statement is proved here. No condition.
-/
import Derived.Test.YtclfhidapkoiiabUThose
namespace Go.Proofs.Ytclfhidapkoiiab
open Go.RowKit Go.Maps

theorem results_ct {fn : Func} {p s : Tmp} {tp : TypeId} (h : fn.results = #[.cell p tp, .tmp s]) (tmps : Array Value) (P : Program) (w : World) :
    (results fn tmps).run P w = ((asAddr (tmps.getD p undef)).run P w).andThen fun a w₁ => ((loadVar tp a).run P w₁).andThen fun v w₂ => .ok (.tuple #[v, tmps.getD s undef]) w₂ := by
  simp only [results, h]
  simp [Sem.run_bind, Result.andThen]
theorem zero_wt (W : World) : (zeroValue 37).run Try.prog W = .ok (.agg #[.int .i64 0, .string ⟨#[]⟩, .int .i64 0, .int .i64 0, .int .i64 0, .int .i64 0, .bool false]) W := by kernel_rfl
theorem zero_calls (W : World) : (zeroValue 56).run Try.prog W = .ok (.agg #[.int .i64 0, .int .i64 0, .map none]) W := by kernel_rfl
section
variable {w : World} {p b : Nat} {life given : Int} {M : List (Nat × WT)}
theorem SC.below' {w w' : World} (h : SC w p b life given M) (hb : Below w.heap.size w w') : Kept w w' (TC b M) ∧ SC w' p b life given M := ⟨⟨hb.os, hb.tape, hb.output, hb.size, fun n hn _ => hb.block n hn⟩, h.below hb⟩
theorem TC.mono {w W : World} {F : Nat → Prop} (hb : Below w.heap.size w W) (hF : ∀ n, F n → n < w.heap.size) {W' : World} (hk : Kept W W' F) : Kept w W' F :=
  ⟨hk.os.trans hb.os, hk.tape.trans hb.tape, hk.output.trans hb.output, Nat.le_trans hb.size hk.size, fun n hn h => (hk.block n (Nat.lt_of_lt_of_le hn hb.size) h).trans (hb.block n hn)⟩
/-- a turned wait: the next step of those -/
theorem ask_step {W W' : World} {ask : WT → Option WT} (hk : Keeps ask) {i : Nat} {m : Nat × WT} (hm : M[i]? = some m) (h : SC W p b life given (midM false ask M i)) (hK : Kept W W' (fun n => n = m.1)) (hq : W'.heap[m.1]? = some (.cells ((ask m.2).getD m.2).cells 37 (0, 0))) :
    SC W' p b life given (midM false ask M (i + 1)) ∧ Kept W W' (TC b M) ∧ (∀ y, ask m.2 = some y → W'.heap[m.1]? = some (.cells y.cells 37 (0, 0))) := by
  refine ⟨?_, hK.mono fun n _ hn => .inr ⟨m, List.mem_of_getElem? hm, hn.symm⟩, fun y hy => by rw [hq, hy]; rfl⟩
  rw [mid_at hm] at h
  have h2 := h.turn (q := m.1) (x := m.2) (y := (ask m.2).getD m.2) (by
    cases ha : ask m.2 with
    | none => rfl
    | some y => exact hk _ _ ha) hq fun n hn hne => hK.block n hn hne
  rw [mid_succ hm]
  have e : (leftF false ask m).toList = [(m.1, (ask m.2).getD m.2)] := by
    unfold leftF
    cases ask m.2 with
    | none => rfl
    | some y => rfl
  rw [e]
  exact h2
theorem left_all (M : List (Nat × WT)) : M.filterMap (leftF false allA) = M := by
  have : leftF false allA = some := by funext m; rfl
  rw [this, List.filterMap_some]
theorem told_all (L : List WT) : L.filterMap allA = L := by
  have : allA = some := by funext m; rfl
  rw [this, List.filterMap_some]
set_option maxRecDepth 100000 in
theorem pall_any (h : SC w p b life given M) : Calls Try.prog 20 #[.pointer (some ⟨p, 0, none⟩)] w fun e w' => ∃ A c, e = .returned (.slice A M.length c) ∧ wtR.Own w' w.heap.size 37 (.slice A M.length c) (M.map (·.2)) ∧ SC w' p b life given M ∧ Kept w w' (TC b M) := by
  have cT := those_all h false allA (fun i m W hm hS hK => (allf_any m.1 W).mono fun e W' ⟨he, hw⟩ => ⟨he, by
    subst hw
    have hmem : m ∈ midM false allA M i := by rw [mid_at hm]; simp
    exact ask_step all_keeps hm hS (Kept.refl _ _) (hS.here m hmem)⟩)
  rw [told_all, left_all, List.length_map] at cT
  clear h
  go_enter Try.func20, Try.ntmps20
  go_wp2_with fail
  refine cT.mono ?_
  rintro e w1 ⟨A, c, rfl, h1, h2, h3⟩
  clear cT
  go_wp2_with fail
  go_ret
  exact ⟨A, c, rfl, h1, h2, h3⟩
set_option maxRecDepth 100000 in
theorem pmark_any (h : SC w p b life given M) (k : ByteArray) : Calls Try.prog 13 #[.pointer (some ⟨p, 0, none⟩), .string k] w fun e w' => e = .returned (.int .i64 ((((M.map (·.2)).filterMap (markA k)).length : Nat) : Int)) ∧ SC w' p b life given (M.filterMap (leftF false (markA k))) ∧ Kept w w' (TC b M) := by
  obtain ⟨w1, hw1⟩ : ∃ w1, w1 = w.alloc (.cells #[.string k] 9) := ⟨_, rfl⟩
  have hb1 : Below w.heap.size w w1 := by rw [hw1]; exact (Below.refl _ _).alloc (Nat.le_refl _) _
  have hx1 : w1.heap[w.heap.size]? = some (.cells #[.string k] 9 (0, 0)) := by rw [hw1]; exact heap_alloc_new w _
  have hT : ∀ n, TC b M n → n < w.heap.size := fun n hn => by
    rcases hn with rfl | ⟨m, hm, rfl⟩
    · exact h.ltb
    · exact h.ltm hm
  have cT := those_mark (h.below hb1) false (markA k) w.heap.size (fun i m W hm hS hK => by
    have hmem : m ∈ midM false (markA k) M i := by rw [mid_at hm]; simp
    have hc : W.cell? ⟨w.heap.size, 0, none⟩ = some (.string k) := (hK.cell (p := ⟨w.heap.size, 0, none⟩) (lt_of_heap hx1) (fun ht => Nat.lt_irrefl _ (hT _ ht))).trans ((blk_cells hx1).1 0)
    exact (markf_any m.1 w.heap.size m.2 k W (hS.here m hmem) hc).mono fun e W' ⟨he, h1, h2⟩ => ⟨he, ask_step (mark_keeps k) hm hS h1 h2⟩)
  obtain ⟨L, hL⟩ : ∃ L, L = (M.map (·.2)).filterMap (markA k) := ⟨_, rfl⟩
  rw [← hL] at cT ⊢
  have HW := Lib.hid hw1
  have HB := Lib.hid hb1
  have HT := Lib.hid hT
  clear h hw1 hb1 hx1 hT hL
  go_enter Try.func13, Try.ntmps13
  go_upto_region 1 with fail
  rw [← HW.out]
  go_wp2_with fail
  refine cT.mono ?_
  rintro e w2 ⟨A, c, rfl, -, h2, h3⟩
  clear cT
  go_wp2_with fail
  go_ret
  exact ⟨rfl, h2, TC.mono HB.out HT.out h3⟩
set_option maxHeartbeats 1000000 in
set_option maxRecDepth 100000 in
theorem pdue_any (h : SC w p b life given M) (now every : Int) : Calls Try.prog 16 #[.pointer (some ⟨p, 0, none⟩), .int .i64 now, .int .i64 every] w fun e w' => ∃ A c, e = .returned (.slice A ((M.map (·.2)).filterMap (dueA now every)).length c) ∧ wtR.Own w' w.heap.size 37 (.slice A ((M.map (·.2)).filterMap (dueA now every)).length c) ((M.map (·.2)).filterMap (dueA now every)) ∧ SC w' p b life given (M.filterMap (leftF false (dueA now every))) ∧ Kept w w' (TC b M) := by
  obtain ⟨w1, hw1⟩ : ∃ w1, w1 = (w.alloc (.cells #[.int .i64 now] 3)).alloc (.cells #[.int .i64 every] 3) := ⟨_, rfl⟩
  have hb1 : Below w.heap.size w w1 := by rw [hw1]; exact ((Below.refl _ _).alloc (Nat.le_refl _) _).alloc (by simp) _
  have hx1 : w1.heap[w.heap.size]? = some (.cells #[.int .i64 now] 3 (0, 0)) := by rw [hw1]; exact (Below.heap_alloc _ _ _ (by simp)).trans (heap_alloc_new w _)
  have hx2 : w1.heap[w.heap.size + 1]? = some (.cells #[.int .i64 every] 3 (0, 0)) := by rw [hw1]; simpa using heap_alloc_new (w.alloc (.cells #[.int .i64 now] 3)) (.cells #[.int .i64 every] 3)
  have hT : ∀ n, TC b M n → n < w.heap.size := fun n hn => by
    rcases hn with rfl | ⟨m, hm, rfl⟩
    · exact h.ltb
    · exact h.ltm hm
  have cT := those_due (h.below hb1) false (dueA now every) (w.heap.size + 1) w.heap.size (fun i m W hm hS hK => by
    have hmem : m ∈ midM false (dueA now every) M i := by rw [mid_at hm]; simp
    have hc1 : W.cell? ⟨w.heap.size + 1, 0, none⟩ = some (.int .i64 every) := (hK.cell (p := ⟨w.heap.size + 1, 0, none⟩) (lt_of_heap hx2) (fun ht => by have := hT _ ht; dsimp only at this; omega)).trans ((blk_cells hx2).1 0)
    have hc2 : W.cell? ⟨w.heap.size, 0, none⟩ = some (.int .i64 now) := (hK.cell (p := ⟨w.heap.size, 0, none⟩) (lt_of_heap hx1) (fun ht => Nat.lt_irrefl _ (hT _ ht))).trans ((blk_cells hx1).1 0)
    exact (duef_any m.1 _ _ m.2 every now W (hS.here m hmem) hc1 hc2).mono fun e W' ⟨he, h1, h2⟩ => ⟨he, ask_step (due_keeps now every) hm hS h1 h2⟩)
  obtain ⟨L, hL⟩ : ∃ L, L = (M.map (·.2)).filterMap (dueA now every) := ⟨_, rfl⟩
  rw [← hL] at cT ⊢
  have HW := Lib.hid hw1
  have HB := Lib.hid hb1
  have HT := Lib.hid hT
  skip
  clear h hw1 hb1 hx1 hx2 hT hL
  go_enter Try.func16, Try.ntmps16
  go_upto_region 1 with fail
  rw [← HW.out]
  go_wp2_with fail
  refine cT.mono ?_
  rintro e w2 ⟨A, c, rfl, h1, h2, h3⟩
  clear cT
  go_wp2_with fail
  go_ret
  exact ⟨A, c, rfl, Rec.Own.base h1 HB.out.size, h2, TC.mono HB.out HT.out h3⟩
set_option maxHeartbeats 1000000 in
set_option maxRecDepth 100000 in
theorem pold_any (h : SC w p b life given M) (now every : Int) : Calls Try.prog 18 #[.pointer (some ⟨p, 0, none⟩), .int .i64 now, .int .i64 every] w fun e w' => ∃ A c, e = .returned (.slice A ((M.map (·.2)).filterMap (oldA now every)).length c) ∧ wtR.Own w' w.heap.size 37 (.slice A ((M.map (·.2)).filterMap (oldA now every)).length c) ((M.map (·.2)).filterMap (oldA now every)) ∧ SC w' p b life given (M.filterMap (leftF true (oldA now every))) ∧ Kept w w' (TC b M) := by
  obtain ⟨w1, hw1⟩ : ∃ w1, w1 = ((w.alloc (.cells #[.pointer (some ⟨p, 0, none⟩)] 23)).alloc (.cells #[.int .i64 now] 3)).alloc (.cells #[.int .i64 every] 3) := ⟨_, rfl⟩
  have hb1 : Below w.heap.size w w1 := by rw [hw1]; exact (((Below.refl _ _).alloc (Nat.le_refl _) _).alloc (by simp) _).alloc (by simp; omega) _
  have hx0 : w1.heap[w.heap.size]? = some (.cells #[.pointer (some ⟨p, 0, none⟩)] 23 (0, 0)) := by rw [hw1]; exact (Below.heap_alloc _ _ _ (by simp; omega)).trans ((Below.heap_alloc _ _ _ (by simp)).trans (heap_alloc_new w _))
  have hx1 : w1.heap[w.heap.size + 1]? = some (.cells #[.int .i64 now] 3 (0, 0)) := by rw [hw1]; exact (Below.heap_alloc _ _ _ (by simp)).trans (by simpa using heap_alloc_new (w.alloc (.cells #[.pointer (some ⟨p, 0, none⟩)] 23)) (.cells #[.int .i64 now] 3))
  have hx2 : w1.heap[w.heap.size + 2]? = some (.cells #[.int .i64 every] 3 (0, 0)) := by rw [hw1]; simpa using heap_alloc_new ((w.alloc (.cells #[.pointer (some ⟨p, 0, none⟩)] 23)).alloc (.cells #[.int .i64 now] 3)) (.cells #[.int .i64 every] 3)
  have hT : ∀ n, TC b M n → n < w.heap.size := fun n hn => by
    rcases hn with rfl | ⟨m, hm, rfl⟩
    · exact h.ltb
    · exact h.ltm hm
  have cT := those_old (h.below hb1) true (oldA now every) (w.heap.size + 2) (w.heap.size + 1) w.heap.size (fun i m W hm hS hK => by
    have hmem : m ∈ midM true (oldA now every) M i := by rw [mid_at hm]; simp
    have hc1 : W.cell? ⟨w.heap.size + 2, 0, none⟩ = some (.int .i64 every) := (hK.cell (p := ⟨w.heap.size + 2, 0, none⟩) (lt_of_heap hx2) (fun ht => by have := hT _ ht; dsimp only at this; omega)).trans ((blk_cells hx2).1 0)
    have hc2 : W.cell? ⟨w.heap.size + 1, 0, none⟩ = some (.int .i64 now) := (hK.cell (p := ⟨w.heap.size + 1, 0, none⟩) (lt_of_heap hx1) (fun ht => by have := hT _ ht; dsimp only at this; omega)).trans ((blk_cells hx1).1 0)
    have hc3 : W.cell? ⟨w.heap.size, 0, none⟩ = some (.pointer (some ⟨p, 0, none⟩)) := (hK.cell (p := ⟨w.heap.size, 0, none⟩) (lt_of_heap hx0) (fun ht => Nat.lt_irrefl _ (hT _ ht))).trans ((blk_cells hx0).1 0)
    refine (oldf_any m.1 _ _ _ m.2 every now (hS.here m hmem) hS.map hS.obj (hS.wf hmem) hc1 hc2 hc3).mono fun e W' ⟨he, h1⟩ => ⟨he, ?_⟩
    rcases h1 with ⟨h1, h2, h3⟩ | ⟨h1, h2⟩
    · rw [mid_at hm] at hS h2
      have e1 : (leftF true (oldA now every) m).toList = [] := by unfold leftF; rw [h1]; rfl
      rw [mid_succ hm, e1, List.nil_append]
      refine ⟨hS.gone h2 fun n hn hne => h3.block n hn hne, h3.mono fun n _ hn => .inl hn, fun y hy => ?_⟩
      rw [h1] at hy
      rw [← Option.some.inj hy]
      exact (h3.block m.1 (hS.ltm (by simp)) (fun e => hS.mb (m := m) (by simp) e)).trans (hS.here m (by simp))
    · have e1 : (leftF true (oldA now every) m).toList = [m] := by unfold leftF; rw [h1]; rfl
      rw [mid_succ hm, e1]
      rw [mid_at hm] at hS
      refine ⟨hS.same (h2.block p hS.ltp fun f => f) (h2.block b hS.ltb fun f => f) fun m' hm' => h2.block m'.1 (hS.ltm hm') fun f => f, h2.mono fun n _ hn => hn.elim, fun y hy => ?_⟩
      rw [h1] at hy
      cases hy)
  obtain ⟨L, hL⟩ : ∃ L, L = (M.map (·.2)).filterMap (oldA now every) := ⟨_, rfl⟩
  rw [← hL] at cT ⊢
  have HW := Lib.hid hw1
  have HB := Lib.hid hb1
  have HT := Lib.hid hT
  have x0 : w1.cell? ⟨w.heap.size, 0, none⟩ = some (.pointer (some ⟨p, 0, none⟩)) := (blk_cells hx0).1 0
  clear h hw1 hb1 hx1 hx2 hT hL hx0
  go_enter Try.func18, Try.ntmps18
  go_upto_region 1 with fail
  rw [← HW.out]
  go_wp2_with fail
  refine cT.mono ?_
  rintro e w2 ⟨A, c, rfl, h1, h2, h3⟩
  clear cT
  go_wp2_with fail
  go_ret
  exact ⟨A, c, rfl, Rec.Own.base h1 HB.out.size, h2, TC.mono HB.out HT.out h3⟩
end
end Go.Proofs.Ytclfhidapkoiiab
