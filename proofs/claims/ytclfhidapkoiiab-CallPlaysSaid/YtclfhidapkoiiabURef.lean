/-
  The document's calls (package butteryref12), a list: New, Ask; rows of waits. No statement is proved here. No condition.
-/
import Derived.Test.YtclfhidapkoiiabUCallsB
import Derived.Test.YtclfhidapkoiiabEMut
namespace Go.Proofs.Ytclfhidapkoiiab
open Go.RowKit Go.Maps

theorem zero_rwt (W : World) : (zeroValue 40).run Try.prog W = .ok (.agg #[.int .i64 0, .string ⟨#[]⟩, .int .i64 0, .int .i64 0, .int .i64 0, .int .i64 0, .bool false]) W := by kernel_rfl
theorem zero_rcalls (W : World) : (zeroValue 51).run Try.prog W = .ok (.agg #[.int .i64 0, .int .i64 0, .slice none 0 0]) W := by kernel_rfl
theorem info_rwt : (Try.prog.info? 40).map (fun i => (i.zero, i.size, i.bytes)) = some (some (.agg #[.int .i64 0, .string ⟨#[]⟩, .int .i64 0, .int .i64 0, .int .i64 0, .int .i64 0, .bool false]), 7, 64) := by kernel_rfl
/-- the document's object at block p, its row v of the waits L, in blocks from B on -/
structure RC (w : World) (B p : Nat) (life given : Int) (v : Value) (L : List WT) : Prop where
  obj : w.heap[p]? = some (.cells #[.int .i64 life, .int .i64 given, v] 51 (0, 0))
  row : wtR.Own w B 40 v L
  pB : B ≤ p
/-- what may be touched: the object and its row -/
def TR (p : Nat) (v : Value) (n : Nat) : Prop := n = p ∨ v.ownBlock = some n
section
variable {w w' : World} {B p : Nat} {life given : Int} {v : Value} {L : List WT}
theorem RC.ltp (h : RC w B p life given v L) : p < w.heap.size := lt_of_heap h.obj
theorem RC.far (h : RC w B p life given v L) : v.ownBlock ≠ some p := fun e => by
  obtain ⟨cur, hc⟩ := row_type h.row e
  exact apart_T hc h.obj (by decide) rfl
theorem RC.tB (h : RC w B p life given v L) : ∀ n, TR p v n → B ≤ n := fun n hn => by
  rcases hn with rfl | hn
  · exact h.pB
  · exact (h.row.lt n hn).1
theorem RC.below (h : RC w B p life given v L) (hb : Below w.heap.size w w') : RC w' B p life given v L := ⟨(hb.block _ h.ltp).trans h.obj, h.row.below hb, h.pB⟩
theorem RC.kept {F : Nat → Prop} (h : RC w B p life given v L) (k : Kept w w' F) (hF : ∀ n, TR p v n → ¬ F n) : RC w' B p life given v L :=
  ⟨(k.block p h.ltp (hF p (.inl rfl))).trans h.obj, row_same h.row fun n hn => k.block n (h.row.lt n hn).2 (hF n (.inr hn)), h.pB⟩
/-- the object's row is another one -/
theorem RC.set {v' : Value} {L' : List WT} {given' : Int} (h : RC w B p life given v L) (ho : w.heap[p]? = some (.cells #[.int .i64 life, .int .i64 given', v] 51 (0, 0))) (hr : wtR.Own w B 40 v' L') : RC (w.setCell ⟨p, 2, none⟩ v') B p life given' v' L' := by
  refine ⟨by rw [Joins.block_setCell ho _]; rfl, row_same hr fun n hn => set_far fun e => ?_, h.pB⟩
  obtain ⟨cur, hc⟩ := row_type hr hn
  exact apart_T hc ho (by decide) e
/-- one wait put behind -/
theorem rwt_app {w : World} {B : Nat} {v : Value} {L : List WT} {x : WT} (h : wtR.Own w B 40 v L) (hB : B ≤ w.heap.size) (hn : L.length ≤ 100000) :
    ∃ A c w3, (Builtin.append_ #[45, 45] 45 #[v, .slice (some ⟨w.heap.size, 0, none⟩) 1 1]).run Try.prog (w.alloc (.cells x.cells 40)) = .ok (.slice A (L.length + 1) c) w3 ∧ wtR.Own w3 B 40 (.slice A (L.length + 1) c) (L ++ [x]) ∧ Below B w w3 ∧ (∀ n, n < w.heap.size → v.ownBlock ≠ some n → w3.heap[n]? = w.heap[n]?) ∧ ((Value.slice A (L.length + 1) c).ownBlock = v.ownBlock ∨ ∃ q, w.heap.size ≤ q ∧ (Value.slice A (L.length + 1) c).ownBlock = some q) := by
  obtain ⟨w2, hw2⟩ : ∃ w2, w2 = w.alloc (.cells x.cells 40) := ⟨_, rfl⟩
  have hb2 : Below w.heap.size w w2 := by rw [hw2]; exact (Below.refl _ _).alloc (Nat.le_refl _) _
  have hx2 : w2.heap[w.heap.size]? = some (.cells (wtR.vals x).toArray 40 (0, 0)) := by rw [hw2]; exact heap_alloc_new w _
  have h2 := h.below hb2
  rw [← hw2]
  obtain ⟨i0, hi, hz0, hz1, hz2⟩ := info_parts info_rwt
  obtain ⟨v', w3, hr, hown, hg, hat⟩ := Rec.app (P := Try.prog) (R := wtR) (t := 45) Try.underlying45 hi hz0 hz1 hz2 rfl (by decide) h2 (Rec.one_row (N := Any) hx2 trivial) (by unfold maxLen; simp; omega) (by simp; omega) (Nat.le_trans hB hb2.size)
  obtain ⟨A, c, rfl⟩ := hown.slice
  rw [show (L ++ [x]).length = L.length + 1 by simp] at hr hown hat
  refine ⟨A, c, w3, hr, hown, (Joins.below_le hb2 hB).grown hg (Nat.le_trans hB hb2.size) (fun q hq => (h2.lt q hq).1), fun n hn' hv => ?_, ?_⟩
  · exact (hg.block n (Nat.lt_of_lt_of_le hn' hb2.size) fun e => hv e.symm).trans (hb2.block n hn')
  · rcases hat with hat | hat
    · exact .inl hat
    · exact .inr ⟨w2.heap.size, hb2.size, hat⟩
/-- one cell of a row written -/
theorem row_poke {y : WT} {i j : Nat} {x : WT} {u : Value} (hx : L[i]? = some x) (hy : wtR.vals y = (wtR.vals x).set j u) (hj : j < 7) : wtR.row (L.set i y) = (wtR.row L).set (i * 7 + j) u := by
  induction L generalizing i with
  | nil => simp at hx
  | cons a L ih =>
    cases i with
    | zero =>
      rw [List.getElem?_cons_zero] at hx
      have hx := Option.some.inj hx
      subst hx
      rw [List.set_cons_zero, wtR.row_cons, wtR.row_cons, hy, Nat.zero_mul, Nat.zero_add, List.set_append_left _ _ (by rw [wtR.len]; exact hj)]
    | succ i =>
      rw [List.getElem?_cons_succ] at hx
      rw [List.set_cons_succ, wtR.row_cons, wtR.row_cons, ih hx, List.set_append_right _ _ (by rw [wtR.len]; show 7 ≤ _; omega)]
      congr 2
      rw [wtR.len]
      show i * 7 + j = (i + 1) * 7 + j - 7
      omega
theorem own_poke {T : TypeId} {y : WT} {i j : Nat} {x : WT} {u : Value} (h : wtR.Own w B T v L) (hx : L[i]? = some x) (hy : wtR.vals y = (wtR.vals x).set j u) (hj : j < 7) :
    ∃ g c, v = .slice (some ⟨g, 0, none⟩) L.length c ∧ B ≤ g ∧ g < w.heap.size ∧ (∀ q t, (wtR.vals x)[q]? = some t → w.cell? ⟨g, i * 7 + q, none⟩ = some t) ∧ (∀ q, w.frozen? ⟨g, q, none⟩ = false) ∧ wtR.Own (w.setCell ⟨g, i * 7 + j, none⟩ u) B T v (L.set i y) := by
  rcases own_opened h with ⟨-, rfl⟩ | ⟨g, cap, rest, rfl, hb, hg, hn, hc, hr⟩
  · simp at hx
  · have hil := (List.getElem?_eq_some_iff.1 hx).1
    refine ⟨g, cap, rfl, hb, lt_of_heap hg, fun q t ht => ?_, (blk_cells hg).2, ?_⟩
    · rw [(blk_cells hg).1, List.getElem?_toArray, List.getElem?_append_left]
      · exact wtR.row_get hx ht
      · have hq := (List.getElem?_eq_some_iff.1 ht).1
        rw [wtR.len] at hq
        rw [wtR.row_length]
        have h7 : wtR.size = 7 := rfl
        rw [h7] at hq ⊢
        omega
    · have e : (w.setCell ⟨g, i * 7 + j, none⟩ u).heap[g]? = some (.cells (wtR.row (L.set i y) ++ rest).toArray T (0, 0)) := by
        rw [Joins.block_setCell hg _, row_poke hx hy hj]
        have hlen : i * 7 + j < (wtR.row L).length := by
          rw [wtR.row_length]
          show _ < L.length * 7
          omega
        congr 2
        rw [List.setIfInBounds_toArray, List.set_append_left _ _ hlen]
      have := Rec.own_closed (R := wtR) (B := B) (l := L.set i y) (rest := rest) (cap := cap) hb e (by simpa using hn) hc (by simpa using hr)
      simpa using this
set_option maxRecDepth 100000 in
theorem rnew_yes (life : Int) (w : World) (h1 : 1 ≤ life) (h2 : life ≤ 2047) :
    Calls Try.prog 5 #[.int .i64 life] w fun e w' => e = .returned (.tuple #[.pointer (some ⟨w.heap.size, 0, none⟩), .int .i64 0]) ∧ RC w' w.heap.size w.heap.size life 0 (.slice none 0 0) [] ∧ Below w.heap.size w w' := by
  have hz := zero_rcalls
  have a1 : ¬ life < 1 := by omega
  have a2 : ¬ (2047 : Int) < life := by omega
  have hs : RC (w.alloc (.cells #[.int .i64 life, .int .i64 0, .slice none 0 0] 51)) w.heap.size w.heap.size life 0 (.slice none 0 0) [] := ⟨heap_alloc_new w _, Rec.Own.none _ _ _ _, Nat.le_refl _⟩
  have HS := Lib.hid hs
  have HB := Lib.hid ((Below.refl w.heap.size w).alloc (Nat.le_refl _) (.cells #[.int .i64 life, .int .i64 0, .slice none 0 0] 51))
  clear hs h1 h2
  go_enter Try.func5, Try.ntmps5
  go_wp2_with fail
  go_ret2
  exact ⟨rfl, HS.out, HB.out⟩
set_option maxRecDepth 100000 in
theorem rnew_no (life : Int) (w : World) (h : life < 1 ∨ 2047 < life) :
    Calls Try.prog 5 #[.int .i64 life] w fun e w' => e = .returned (.tuple #[.pointer none, .int .i64 1]) ∧ w' = w := by
  by_cases h1 : life < 1
  · clear h
    go_enter Try.func5, Try.ntmps5
    go_wp2_with fail
    go_ret2
    exact ⟨rfl, rfl⟩
  · have h2 : (2047 : Int) < life := by omega
    clear h
    go_enter Try.func5, Try.ntmps5
    go_wp2_with fail
    go_ret2
    exact ⟨rfl, rfl⟩
set_option maxRecDepth 100000 in
theorem rago_any (t now n : Int) (w : World) : Calls Try.prog 26 #[.int .i64 t, .int .i64 now, .int .i64 n] w fun e w' => e = .returned (.bool (agoB t n now)) ∧ w' = w := by
  by_cases h1 : (1 : Int) ≤ n
  · by_cases h2 : t ≤ now
    · have hr : agoB t n now = decide (n ≤ wrap64 (now - t)) := by simp [agoB, h1, h2]
      rw [hr]
      clear hr
      go_enter Try.func26, Try.ntmps26
      go_wp2_with fail
      go_ret
      exact ⟨rfl, rfl⟩
    · have hr : agoB t n now = false := by simp [agoB, h2]
      rw [hr]
      clear hr
      go_enter Try.func26, Try.ntmps26
      go_wp2_with fail
      go_ret
      exact ⟨rfl, rfl⟩
  · have hr : agoB t n now = false := by simp [agoB, h1]
    rw [hr]
    clear hr
    go_enter Try.func26, Try.ntmps26
    go_wp2_with fail
    go_ret
    exact ⟨rfl, rfl⟩
end
end Go.Proofs.Ytclfhidapkoiiab
