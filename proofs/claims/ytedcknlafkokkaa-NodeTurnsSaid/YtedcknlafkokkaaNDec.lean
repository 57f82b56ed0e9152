/-
  A node of bytes: the program's Decode. No statement is proved here. No condition.
-/
import Derived.Test.YtedcknlafkokkaaNReadW
namespace Go.Proofs.Ytedcknlafkokkaa
open Go.RowKit

theorem elem_U : Try.prog.underlying 26 = some (.slice (Try.prog.elem 26)) := by kernel_rfl
theorem size_U (W : World) : (sizeOf (Try.prog.elem 26)).run Try.prog W = .ok 1 W := by kernel_rfl
theorem fromU (W : World) (A : Option Addr) (len c k : Nat) (hl : k ≤ len) : (Instr.slice 26 (.slice A len c) (some (.int .i64 (k : Int))) none none).run Try.prog W = .ok (.slice (atFrom A c k 1) (len - k) (c - k)) W := by
  rw [run_slice_l _ _ _ _ _ elem_U .i64 (k : Int) (by omega) (by omega), size_U]
  simp only [Result.andThen, sliced, Int.toNat_natCast]
  unfold atFrom
  rfl
theorem BN.drop {w : World} {N : Nat → Prop} {A : Option Addr} {c k : Nat} {l : List UInt8} (h : BN w N (.slice A l.length c) l) (hk : k ≤ l.length) : BN w N (.slice (atFrom A c k 1) (l.length - k) (c - k)) (l.drop k) := by
  have := RowN.drop h hk
  unfold BN
  rw [show BS (l.drop k) = (BS l).drop (k * 1) by simp [BS, List.map_drop], List.length_drop]
  exact this
/-- what is left is no more than what was there -/
def Less (a b : Option (List UInt8)) : Prop := (a.getD []).length ≤ (b.getD []).length
theorem Less.refl (a : Option (List UInt8)) : Less a a := Nat.le_refl _
theorem Less.trans {a b c : Option (List UInt8)} (h : Less a b) (k : Less b c) : Less a c := Nat.le_trans h k
theorem less_told {α : Type} {z : α} {g : List UInt8 → Option (α × List UInt8)} (hg : ∀ l a t, g l = some (a, t) → t.length ≤ l.length) (st : Option (List UInt8)) : Less (told z g st).2 st := by
  cases st with
  | none => exact Nat.le_refl _
  | some l =>
    cases h : g l with
    | none => rw [told_none h]; exact Nat.zero_le _
    | some p =>
      obtain ⟨a, t⟩ := p
      rw [told_some h]
      exact hg l a t h
theorem less_count (m : Int) (st : Option (List UInt8)) : Less (told 0 (gCount m) st).2 st := less_told (fun l a t h => by rw [gCount_is h]; simp) st
theorem less_str (m : Int) (st : Option (List UInt8)) : Less (told [] (gStr m) st).2 st := less_told (fun l a t h => by rw [(gStr_is h).1]; simp; omega) st
theorem less_flag (st : Option (List UInt8)) : Less (told false gFlag st).2 st := told_flag_len st
theorem less_cell (leaf : Bool) (st : Option (List UInt8)) : Less (rdCell leaf st).2 st := by
  unfold rdCell
  cases leaf with
  | false => exact less_str _ _
  | true =>
    simp only [↓reduceIte]
    split
    · exact ((less_str _ _).trans (less_count _ _)).trans (less_str _ _)
    · exact ((less_count _ _).trans (less_count _ _)).trans (less_str _ _)
theorem less_cells (leaf : Bool) : ∀ (m : Nat) (st : Option (List UInt8)), Less (rdCells leaf m st).2 st := by
  intro m
  induction m with
  | zero => intro st; exact Less.refl _
  | succ m ih => intro st; exact (ih _).trans (less_cell leaf st)
theorem less_kids : ∀ (m : Nat) (st : Option (List UInt8)), Less (rdKids m st).2 st := by
  intro m
  induction m with
  | zero => intro st; exact Less.refl _
  | succ m ih => intro st; exact (ih _).trans (less_count _ st)
theorem less_node (st : Option (List UInt8)) : Less (rdNode st).2 st := by
  unfold rdNode
  dsimp only
  split
  · exact ((less_cells _ _ _).trans (less_count _ _)).trans (less_flag _)
  · exact (((less_kids _ _).trans (less_cells _ _ _)).trans (less_count _ _)).trans (less_flag _)
theorem rdNode_many (st : Option (List UInt8)) : (rdNode st).1.cells.length ≤ (st.getD []).length := by
  have h : (rdNode st).1.cells.length = rdMany (told false gFlag st).2 := by
    unfold rdNode
    dsimp only
    split
    · exact rdCells_length _ _ _
    · exact rdCells_length _ _ _
  rw [h]
  exact Nat.le_trans (told_count_le _ _).2 (told_flag_len st)
def leftOf (l : List UInt8) : Nat := ((rdNode (some l)).2.getD []).length
/-- are these bytes a node's? -/
noncomputable def decOk (l : List UInt8) : Bool := decide (l.length ≤ 512) && ((rdNode (some l)).2.isSome && ((rdNode (some l)).1.chk && allNought (l.drop (l.length - leftOf l))))
noncomputable def decErr (l : List UInt8) : Int := if decOk l = true then 0 else 4
noncomputable def decNode (l : List UInt8) : PN := if decOk l = true then (rdNode (some l)).1 else PN.zero
set_option maxHeartbeats 4000000 in
set_option maxRecDepth 100000 in
theorem decode_any (l : List UInt8) (v : Value) (w : World) (h : BN w Any v l) (hl : l.length ≤ 1000000) :
    Calls Try.prog 18 #[v] w fun e w' => ∃ v', e = .returned (.tuple #[v', .int .i64 (decErr l)]) ∧ OwnN w' w.heap.size v' (decNode l) ∧ Below w.heap.size w w' := by
  obtain ⟨A, c, rfl, -, -⟩ := h.slice
  obtain ⟨w1, hw1⟩ : ∃ w1, w1 = w.alloc (.cells #[.bool false, .slice none 0 0, .slice none 0 0] 31) := ⟨_, rfl⟩
  have hz1 : w1.heap[w.heap.size]? = some (.cells #[.bool false, .slice none 0 0, .slice none 0 0] 31 (0, 0)) := by rw [hw1]; exact heap_alloc_new w _
  have hb1 : Below w.heap.size w w1 := by rw [hw1]; exact (Below.refl _ _).alloc (Nat.le_refl _) _
  have hzn := zero_node
  -- the end of the two refusals
  have hno : ∀ W : World, W.heap[w.heap.size]? = some (.cells #[.bool false, .slice none 0 0, .slice none 0 0] 31 (0, 0)) → (W.cell? ⟨w.heap.size, 0, none⟩ = some (.bool false) ∧ W.cell? ⟨w.heap.size, 1, none⟩ = some (.slice none 0 0) ∧ W.cell? ⟨w.heap.size, 2, none⟩ = some (.slice none 0 0)) ∧ W.frozen? ⟨w.heap.size, 0, none⟩ = false ∧ W.frozen? ⟨w.heap.size, 1, none⟩ = false ∧ W.frozen? ⟨w.heap.size, 2, none⟩ = false := fun W hW =>
    ⟨⟨(row_cells hW).1 0, (row_cells hW).1 1, (row_cells hW).1 2⟩, (row_cells hW).2 0, (row_cells hW).2 1, (row_cells hW).2 2⟩
  have HNO := Lib.hid hno
  have HW1 := Lib.hid hw1
  have HZ1 := Lib.hid hz1
  have HB1 := Lib.hid hb1
  have HH := Lib.hid h
  obtain ⟨ok, hok⟩ : ∃ ok, ok = decOk l := ⟨_, rfl⟩
  have HOK := Lib.hid hok
  have herr : decErr l = if ok = true then 0 else 4 := by unfold decErr; rw [hok]
  have hnod : decNode l = if ok = true then (rdNode (some l)).1 else PN.zero := by unfold decNode; rw [hok]
  have HERR := Lib.hid herr
  have HNOD := Lib.hid hnod
  clear hw1 hz1 hb1 h hno hok herr hnod
  go_enter Try.func18, Try.ntmps18
  by_cases h512 : l.length ≤ 512
  · have a1 : ¬ (512 : Int) < (l.length : Int) := by omega
    have cN := New_any l (.slice A l.length c) w1 (BN.rd (RowN.grow HH.out HB1.out)) (by omega)
    rw [HW1.out] at cN
    go_wp2_with fail
    refine cN.mono ?_
    rintro e w2 ⟨R, rfl, hR, hr2, hb2⟩
    rw [← HW1.out] at hb2 hR
    clear cN
    have hs1 := HB1.out.size
    have hl1 : w.heap.size < w1.heap.size := (Array.getElem?_eq_some_iff.1 HZ1.out).1
    have hz2 := (hb2.block _ hl1).trans HZ1.out
    have cR := read_any R (some l) w2 hr2 (by show l.length ≤ 600; omega)
    have hsz2 := hb2.size
    have hRl := hr2.lt
    have HB2 := Lib.hid (HB1.out.trans (Joins.below_le hb2 hs1))
    have HZ2 := Lib.hid hz2
    clear hb2 hr2 hz2
    go_wp2_with fail
    refine cR.mono ?_
    rintro e w3 ⟨v3, rfl, ho3, hg3, hr3⟩
    clear cR
    obtain ⟨n, s, hn⟩ : ∃ n s, rdNode (some l) = (n, s) := ⟨_, _, rfl⟩
    have hmany : n.cells.length ≤ 1000000 := by have := rdNode_many (some l); rw [hn] at this; exact Nat.le_trans this (by show l.length ≤ _; omega)
    have hleft : (s.getD []).length ≤ l.length := by have := less_node (some l); rw [hn] at this; exact this
    have hlo : leftOf l = (s.getD []).length := by unfold leftOf; rw [hn]
    have hokv : ok = (s.isSome && (n.chk && allNought (l.drop (l.length - (s.getD []).length)))) := by
      rw [HOK.out]
      unfold decOk
      rw [hn, hlo, decide_eq_true h512]
      rfl
    rw [hn] at ho3 hr3 HNOD
    dsimp only at ho3 hr3 HNOD
    obtain ⟨A1, c1, A2, c2, rfl, -, -⟩ := id ho3
    have hl2 : w.heap.size < w2.heap.size := by omega
    have hz3 := (hg3.block _ hl2 (fun e => by injection e with e; omega)).trans HZ2.out
    have hb03 : Below w.heap.size w w3 := ⟨hg3.os.trans HB2.out.os, hg3.tape.trans HB2.out.tape, hg3.output.trans HB2.out.output, Nat.le_trans HB2.out.size hg3.size, fun b hb => (hg3.block b (by omega) (fun e => by injection e with e; omega)).trans (HB2.out.block b hb)⟩
    obtain ⟨w4, hw4⟩ : ∃ w4, w4 = w3.alloc (.cells #[.bool n.leaf, .slice A1 n.cells.length c1, .slice A2 n.kids.length c2] 31) := ⟨_, rfl⟩
    have hb4 : Below w3.heap.size w3 w4 := by rw [hw4]; exact (Below.refl _ _).alloc (Nat.le_refl _) _
    have hx4 : w4.heap[w3.heap.size]? = some (.cells #[.bool n.leaf, .slice A1 n.cells.length c1, .slice A2 n.kids.length c2] 31 (0, 0)) := by rw [hw4]; exact heap_alloc_new w3 _
    have hs3 := hg3.size
    have hz4 := (hb4.block _ (by omega)).trans hz3
    have hr4 : Rdr 101 w4 R s := by rw [hw4]; exact hr3.alloc _
    have ho4 := ho3.below hb4
    have hb04 : Below w.heap.size w w4 := hb03.trans (Joins.below_le hb4 hb03.size)
    have cO := ok_any R s w4 hr4
    have cC := check_any n _ w4 ho4.node.any hmany
    have x0 : w4.cell? ⟨w3.heap.size, 0, none⟩ = some (.bool n.leaf) := (row_cells hx4).1 0
    have x1 : w4.cell? ⟨w3.heap.size, 1, none⟩ = some (.slice A1 n.cells.length c1) := (row_cells hx4).1 1
    have x2 : w4.cell? ⟨w3.heap.size, 2, none⟩ = some (.slice A2 n.kids.length c2) := (row_cells hx4).1 2
    have HB04 := Lib.hid hb04
    have HZ4 := Lib.hid hz4
    have HX4 := Lib.hid hx4
    have HR4 := Lib.hid hr4
    have HO4 := Lib.hid ho4
    have HW4 := Lib.hid hw4
    obtain ⟨lt, hlt⟩ : ∃ lt, lt = (s.getD []).length := ⟨_, rfl⟩
    rw [← hlt] at hleft hokv
    have HLT := Lib.hid hlt
    have hlw4 : w3.heap.size < w4.heap.size := (Array.getElem?_eq_some_iff.1 hx4).1
    clear hn hlo hz3 hb03 hb4 hx4 hz4 hr4 ho4 hb04 hw4 hr3 ho3 hg3 hlt
    go_upto_region 5 with fail
    rw [← HW4.out]
    go_wp2_with fail
    refine cO.mono ?_
    rintro e w4' ⟨rfl, rfl⟩
    cases hs0 : s.isSome with
    | false =>
      have hokf : ok = false := by rw [hokv]; simp [hs0]
      subst hokf
      obtain ⟨⟨z0, z1, z2⟩, z3, z4, z5⟩ := HNO.out w4 HZ4.out
      obtain ⟨wf, hwf⟩ : ∃ wf, wf = ((w4.setCell ⟨w.heap.size, 0, none⟩ (.bool false)).setCell ⟨w.heap.size, 1, none⟩ (.slice none 0 0)).setCell ⟨w.heap.size, 2, none⟩ (.slice none 0 0) := ⟨_, rfl⟩
      have e1 : wf.heap[w.heap.size]? = some (.cells #[.bool false, .slice none 0 0, .slice none 0 0] 31 (0, 0)) := by rw [hwf]; exact set3_at HZ4.out
      have hbf : Below w.heap.size w wf := by rw [hwf]; exact ((HB04.out.setCell (Nat.le_refl _) _).setCell (Nat.le_refl _) _).setCell (Nat.le_refl _) _
      have r0 : wf.cell? ⟨w.heap.size, 0, none⟩ = some (.bool false) := (row_cells e1).1 0
      have r1 : wf.cell? ⟨w.heap.size, 1, none⟩ = some (.slice none 0 0) := (row_cells e1).1 1
      have r2 : wf.cell? ⟨w.heap.size, 2, none⟩ = some (.slice none 0 0) := (row_cells e1).1 2
      have HBF := Lib.hid hbf
      have HWF := Lib.hid hwf
      clear hwf e1 hbf hokv
      go_wp2_with fail
      rw [← HWF.out]
      refine bodyPost_ret (v := .tuple #[.agg #[.bool false, .slice none 0 0, .slice none 0 0], .int .i64 4]) (by rw [results_cell_tmp rfl]; go_simp; try rfl) rfl ?_
      rw [HERR.out, HNOD.out]
      exact ⟨_, rfl, OwnN.zero _ _, HBF.out⟩
    | true =>
      obtain ⟨ck, hck⟩ : ∃ ck, ck = n.chk := ⟨_, rfl⟩
      rw [← hck] at cC hokv
      rw [hs0] at hokv
      have HCK := Lib.hid hck
      clear hck
      go_wp2_with fail
      refine cC.mono ?_
      rintro e w5 ⟨rfl, hb5⟩
      have hz5 := (hb5.block _ (by omega)).trans HZ4.out
      have hb05 : Below w.heap.size w w5 := HB04.out.trans (Joins.below_le hb5 HB04.out.size)
      cases ck with
      | false =>
        have hokf : ok = false := by rw [hokv]; rfl
        subst hokf
        obtain ⟨⟨z0, z1, z2⟩, z3, z4, z5⟩ := HNO.out w5 hz5
        obtain ⟨wf, hwf⟩ : ∃ wf, wf = ((w5.setCell ⟨w.heap.size, 0, none⟩ (.bool false)).setCell ⟨w.heap.size, 1, none⟩ (.slice none 0 0)).setCell ⟨w.heap.size, 2, none⟩ (.slice none 0 0) := ⟨_, rfl⟩
        have e1 : wf.heap[w.heap.size]? = some (.cells #[.bool false, .slice none 0 0, .slice none 0 0] 31 (0, 0)) := by rw [hwf]; exact set3_at hz5
        have hbf : Below w.heap.size w wf := by rw [hwf]; exact ((hb05.setCell (Nat.le_refl _) _).setCell (Nat.le_refl _) _).setCell (Nat.le_refl _) _
        have r0 : wf.cell? ⟨w.heap.size, 0, none⟩ = some (.bool false) := (row_cells e1).1 0
        have r1 : wf.cell? ⟨w.heap.size, 1, none⟩ = some (.slice none 0 0) := (row_cells e1).1 1
        have r2 : wf.cell? ⟨w.heap.size, 2, none⟩ = some (.slice none 0 0) := (row_cells e1).1 2
        have HBF := Lib.hid hbf
        have HWF := Lib.hid hwf
        clear hwf e1 hbf hokv
        go_wp2_with fail
        rw [← HWF.out]
        refine bodyPost_ret (v := .tuple #[.agg #[.bool false, .slice none 0 0, .slice none 0 0], .int .i64 4]) (by rw [results_cell_tmp rfl]; go_simp; try rfl) rfl ?_
        rw [HERR.out, HNOD.out]
        exact ⟨_, rfl, OwnN.zero _ _, HBF.out⟩
      | true =>
        have hr5 : Rdr 101 w5 R s := HR4.out.keep fun b hb => hb5.block b (by omega)
        have cL := left_any R s w5 hr5
        rw [← HLT.out] at cL
        obtain ⟨k, hk⟩ : ∃ k, k = l.length - lt := ⟨_, rfl⟩
        rw [← hk] at hokv
        have hkl : k ≤ l.length := by omega
        have hsub : wrap64 ((l.length : Int) - (lt : Int)) = (k : Int) := by unfold wrap64; omega
        have hsub2 : (l.length : Int) - (lt : Int) = (k : Int) := by omega
        have sU : ∀ W : World, (Instr.sliceAt 26 (.slice A l.length c) (some (.int .i64 (k : Int))) none none).run Try.prog W = .ok (.slice (atFrom A c k 1) (l.length - k) (c - k)) W := fun W => (run_sliceAt_slice _ _ _ _ _ _ elem_U).trans (fromU W A l.length c k hkl)
        have hnb : BN w5 Any (.slice (atFrom A c k 1) (l.length - k) (c - k)) (l.drop k) := BN.drop (RowN.grow HH.out hb05) hkl
        have cZ := noughts_any (l.drop k) _ w5 hnb (by rw [List.length_drop]; omega)
        obtain ⟨nt, hnt⟩ : ∃ nt, nt = allNought (l.drop k) := ⟨_, rfl⟩
        rw [← hnt] at cZ hokv
        have ho5 := HO4.out.below hb5
        have hx5 := (hb5.block _ hlw4).trans HX4.out
        have HO5 := Lib.hid ho5
        have HX5 := Lib.hid hx5
        have HZ5 := Lib.hid hz5
        have HB05 := Lib.hid hb05
        have hlw5 : w3.heap.size < w5.heap.size := by have := hb5.size; omega
        clear hnt hk hnb hr5 ho5 hx5 hz5 hb05 hb5 cC cO x0 x1 x2
        go_wp2_with fail
        refine cL.mono ?_
        rintro e w6 ⟨rfl, rfl⟩
        go_wp2_with fail
        refine cZ.mono ?_
        rintro e w6 ⟨rfl, rfl⟩
        cases nt with
        | false =>
          have hokf : ok = false := by rw [hokv]; rfl
          subst hokf
          obtain ⟨⟨z0, z1, z2⟩, z3, z4, z5⟩ := HNO.out w5 HZ5.out
          obtain ⟨wf, hwf⟩ : ∃ wf, wf = ((w5.setCell ⟨w.heap.size, 0, none⟩ (.bool false)).setCell ⟨w.heap.size, 1, none⟩ (.slice none 0 0)).setCell ⟨w.heap.size, 2, none⟩ (.slice none 0 0) := ⟨_, rfl⟩
          have e1 : wf.heap[w.heap.size]? = some (.cells #[.bool false, .slice none 0 0, .slice none 0 0] 31 (0, 0)) := by rw [hwf]; exact set3_at HZ5.out
          have hbf : Below w.heap.size w wf := by rw [hwf]; exact ((HB05.out.setCell (Nat.le_refl _) _).setCell (Nat.le_refl _) _).setCell (Nat.le_refl _) _
          have r0 : wf.cell? ⟨w.heap.size, 0, none⟩ = some (.bool false) := (row_cells e1).1 0
          have r1 : wf.cell? ⟨w.heap.size, 1, none⟩ = some (.slice none 0 0) := (row_cells e1).1 1
          have r2 : wf.cell? ⟨w.heap.size, 2, none⟩ = some (.slice none 0 0) := (row_cells e1).1 2
          have HBF := Lib.hid hbf
          have HWF := Lib.hid hwf
          clear hwf e1 hbf hokv
          go_wp2_with fail
          rw [← HWF.out]
          refine bodyPost_ret (v := .tuple #[.agg #[.bool false, .slice none 0 0, .slice none 0 0], .int .i64 4]) (by rw [results_cell_tmp rfl]; go_simp; try rfl) rfl ?_
          rw [HERR.out, HNOD.out]
          exact ⟨_, rfl, OwnN.zero _ _, HBF.out⟩
        | true =>
          have hokt : ok = true := by rw [hokv]; rfl
          subst hokt
          obtain ⟨⟨z0, z1, z2⟩, z3, z4, z5⟩ := HNO.out w5 HZ5.out
          obtain ⟨wf, hwf⟩ : ∃ wf, wf = ((w5.setCell ⟨w.heap.size, 0, none⟩ (.bool n.leaf)).setCell ⟨w.heap.size, 1, none⟩ (.slice A1 n.cells.length c1)).setCell ⟨w.heap.size, 2, none⟩ (.slice A2 n.kids.length c2) := ⟨_, rfl⟩
          have e1 : wf.heap[w.heap.size]? = some (.cells #[.bool n.leaf, .slice A1 n.cells.length c1, .slice A2 n.kids.length c2] 31 (0, 0)) := by rw [hwf]; exact set3_at HZ5.out
          have hbf : Below w.heap.size w wf := by rw [hwf]; exact ((HB05.out.setCell (Nat.le_refl _) _).setCell (Nat.le_refl _) _).setCell (Nat.le_refl _) _
          have hof : OwnN wf w.heap.size (.agg #[.bool n.leaf, .slice A1 n.cells.length c1, .slice A2 n.kids.length c2]) n := (HO5.out.same (fun b hb _ => by rw [hwf]; exact set3_far (by omega))).base (by omega)
          have x0 : w5.cell? ⟨w3.heap.size, 0, none⟩ = some (.bool n.leaf) := (row_cells HX5.out).1 0
          have x1 : w5.cell? ⟨w3.heap.size, 1, none⟩ = some (.slice A1 n.cells.length c1) := (row_cells HX5.out).1 1
          have x2 : w5.cell? ⟨w3.heap.size, 2, none⟩ = some (.slice A2 n.kids.length c2) := (row_cells HX5.out).1 2
          have r0 : wf.cell? ⟨w.heap.size, 0, none⟩ = some (.bool n.leaf) := (row_cells e1).1 0
          have r1 : wf.cell? ⟨w.heap.size, 1, none⟩ = some (.slice A1 n.cells.length c1) := (row_cells e1).1 1
          have r2 : wf.cell? ⟨w.heap.size, 2, none⟩ = some (.slice A2 n.kids.length c2) := (row_cells e1).1 2
          have HBF := Lib.hid hbf
          have HOF := Lib.hid hof
          have HWF := Lib.hid hwf
          clear hwf e1 hbf hof hokv
          go_wp2_with fail
          rw [← HWF.out]
          refine bodyPost_ret (v := .tuple #[.agg #[.bool n.leaf, .slice A1 n.cells.length c1, .slice A2 n.kids.length c2], .int .i64 0]) (by rw [results_cell_tmp rfl]; go_simp; try rfl) rfl ?_
          rw [HERR.out, HNOD.out]
          exact ⟨_, rfl, HOF.out, HBF.out⟩
  · have a1 : (512 : Int) < (l.length : Int) := by omega
    have hokf : ok = false := by rw [HOK.out]; unfold decOk; rw [decide_eq_false h512]; rfl
    subst hokf
    obtain ⟨⟨z0, z1, z2⟩, z3, z4, z5⟩ := HNO.out w1 HZ1.out
    obtain ⟨w4, hw4⟩ : ∃ w4, w4 = ((w1.setCell ⟨w.heap.size, 0, none⟩ (.bool false)).setCell ⟨w.heap.size, 1, none⟩ (.slice none 0 0)).setCell ⟨w.heap.size, 2, none⟩ (.slice none 0 0) := ⟨_, rfl⟩
    have e1 : w4.heap[w.heap.size]? = some (.cells #[.bool false, .slice none 0 0, .slice none 0 0] 31 (0, 0)) := by rw [hw4]; exact set3_at HZ1.out
    have hb4 : Below w.heap.size w w4 := by rw [hw4]; exact ((HB1.out.setCell (Nat.le_refl _) _).setCell (Nat.le_refl _) _).setCell (Nat.le_refl _) _
    have r0 : w4.cell? ⟨w.heap.size, 0, none⟩ = some (.bool false) := (row_cells e1).1 0
    have r1 : w4.cell? ⟨w.heap.size, 1, none⟩ = some (.slice none 0 0) := (row_cells e1).1 1
    have r2 : w4.cell? ⟨w.heap.size, 2, none⟩ = some (.slice none 0 0) := (row_cells e1).1 2
    have HB4 := Lib.hid hb4
    have HW4 := Lib.hid hw4
    clear hw4 e1 hb4
    go_upto_region 2 with fail
    rw [← HW1.out]
    go_wp2_with fail
    rw [← HW4.out]
    refine bodyPost_ret (v := .tuple #[.agg #[.bool false, .slice none 0 0, .slice none 0 0], .int .i64 4]) (by rw [results_cell_tmp rfl]; go_simp; try rfl) rfl ?_
    rw [HERR.out, HNOD.out]
    exact ⟨_, rfl, OwnN.zero _ _, HB4.out⟩
end Go.Proofs.Ytedcknlafkokkaa
