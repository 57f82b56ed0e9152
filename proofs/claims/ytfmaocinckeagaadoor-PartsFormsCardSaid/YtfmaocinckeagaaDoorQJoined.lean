/-
  The program's joined: the whole message, in new memory. No statement is proved here. No condition.
-/
import Derived.Test.YtfmaocinckeagaaDoorQAdd
import Derived.Test.YtfmaocinckeagaaDoorQPoke
import Derived.Lib.BufferWrite
namespace Go.Proofs.YtfmaocinckeagaaDoor
open Go.RowKit

theorem byteCells_BS (l : List UInt8) : Lib.byteCells l = BS l := rfl
/-- all parts are there, and of their lengths -/
structure Full (l : List (List UInt8)) : Prop where
  one : 1 ≤ l.length
  most : l.length ≤ 22
  each : ∀ i d, l[i]? = some d → i + 1 < l.length → d.length = 380
  last : ∀ d ∈ l, d.length ≤ 380
theorem Full.till {l : List (List UInt8)} (h : Full l) {i : Nat} (hi : i < l.length) : ((l.take i).flatten).length = 380 * i := by
  induction i with
  | zero => simp
  | succ i ih =>
    obtain ⟨d, hd⟩ : ∃ d, l[i]? = some d := ⟨_, List.getElem?_eq_getElem (by omega)⟩
    rw [List.take_add_one, hd, List.flatten_append, List.length_append, ih (by omega)]
    simp [h.each i d hd hi]
    omega
theorem Full.all {l : List (List UInt8)} (h : Full l) {d : List UInt8} (hd : l[l.length - 1]? = some d) : l.flatten.length = 380 * (l.length - 1) + d.length := by
  have h1 := h.one
  have e : l = l.take (l.length - 1) ++ [d] := by
    have := List.take_add_one (l := l) (i := l.length - 1)
    rw [hd, List.take_of_length_le (by omega)] at this
    exact this
  have h2 := h.till (i := l.length - 1) (by omega)
  have := congrArg (fun x => x.flatten.length) e
  simp only [List.flatten_append, List.length_append] at this
  rw [this, h2]
  simp
/-- what is there of a message, and noughts behind -/
def soFar (l : List (List UInt8)) (i : Nat) : List UInt8 := (l.take i).flatten ++ List.replicate (l.flatten.length - ((l.take i).flatten).length) 0
theorem soFar_zero (l : List (List UInt8)) : soFar l 0 = List.replicate l.flatten.length 0 := by simp [soFar]
theorem take_flat_le (l : List (List UInt8)) (i : Nat) : ((l.take i).flatten).length ≤ l.flatten.length := by
  conv => rhs; rw [← List.take_append_drop i l]
  rw [List.flatten_append, List.length_append]
  omega
theorem soFar_length (l : List (List UInt8)) (i : Nat) : (soFar l i).length = l.flatten.length := by
  have := take_flat_le l i
  unfold soFar
  rw [List.length_append, List.length_replicate]
  omega
theorem soFar_all (l : List (List UInt8)) : soFar l l.length = l.flatten := by
  unfold soFar
  rw [List.take_length]
  simp
theorem soFar_succ {l : List (List UInt8)} {i : Nat} {d : List UInt8} (hd : l[i]? = some d) : soFar l (i + 1) = (soFar l i).take ((l.take i).flatten).length ++ d ++ (soFar l i).drop (((l.take i).flatten).length + d.length) := by
  have h1 := take_flat_le l (i + 1)
  have e : (l.take (i + 1)).flatten = (l.take i).flatten ++ d := by rw [List.take_add_one, hd, List.flatten_append]; simp
  rw [e, List.length_append] at h1
  unfold soFar
  rw [e, List.take_left, List.drop_append, List.drop_of_length_le (by omega), List.nil_append, List.length_append]
  congr 1
  rw [List.drop_replicate]
  congr 1
  omega
/-- new bytes: noughts -/
theorem noughts_made (n : Nat) (hn : n ≤ 140737488355328) (w : World) : ∃ w', (Instr.makeSlice 27 (.int .i64 (n : Int)) (.int .i64 (n : Int))).run Tryd.prog w = .ok (.slice (some ⟨w.heap.size, 0, none⟩) n n) w' ∧ w'.heap[w.heap.size]? = some (.cells (BS (List.replicate n 0)).toArray 5 (0, 0)) ∧ Below w.heap.size w w' := by
  obtain ⟨i0, hi, hz0, hz1, hz2⟩ := info_parts info_u8
  have hr := run_make (P := Tryd.prog) w 27 5 i0 _ Tryd.underlying27 hi hz0 .i64 .i64 (n : Int) (n : Int) (by omega) (Int.le_refl _) (by rw [hz2]; omega) (by omega)
  rw [hz1, Int.toNat_natCast, Nat.mul_one] at hr
  have hrow : madeCells (Value.int .u8 0).cells n = (BS (List.replicate n 0)).toArray := by
    apply Array.toList_inj.1
    show (madeCells #[Value.int .u8 0] n).toList = _
    rw [toList_madeCells_one]
    unfold BS
    rw [List.map_replicate]
    rfl
  rw [hrow] at hr
  exact ⟨_, hr, heap_alloc_new w _, (Below.refl _ _).alloc (Nat.le_refl _) _⟩
/-- a part copied to its place -/
theorem part_copied {w w0 : World} {g B i : Nat} {l : List (List UInt8)} {d : List UInt8} (hF : Full l) (hd : l[i]? = some d) (hg : w.heap[g]? = some (.cells (BS (soFar l i)).toArray 5 (0, 0))) (hb : Below B w0 w) (hB : B ≤ g) :
    ∃ (A : Option Addr) (w' : World), (∀ W, (Instr.slice 27 (.slice (some ⟨g, 0, none⟩) l.flatten.length l.flatten.length) (some (.int .i64 ((i : Int) * 380))) none none).run Tryd.prog W = .ok (.slice A (l.flatten.length - 380 * i) (l.flatten.length - 380 * i)) W) ∧
      (Builtin.copy_ #[27, 9] 3 #[.slice A (l.flatten.length - 380 * i) (l.flatten.length - 380 * i), .string (tx d)]).run Tryd.prog w = .ok (goInt d.length) w' ∧ w'.heap[g]? = some (.cells (BS (soFar l (i + 1))).toArray 5 (0, 0)) ∧ Below B w0 w' := by
  have hil := (List.getElem?_eq_some_iff.1 hd).1
  have ht := hF.till hil
  have h1 := take_flat_le l (i + 1)
  have e : (l.take (i + 1)).flatten = (l.take i).flatten ++ d := by rw [List.take_add_one, hd, List.flatten_append]; simp
  rw [e, List.length_append, ht] at h1
  have hsl := soFar_length l i
  by_cases h0 : d.length = 0
  · have hsame : soFar l (i + 1) = soFar l i := by
      rw [soFar_succ hd, List.eq_nil_of_length_eq_zero h0]
      simp
    refine ⟨if l.flatten.length = 380 * i then some ⟨g, 0, none⟩ else (some (⟨g, 0, none⟩ : Addr)).map (·.add (380 * i)), w, fun W => ?_, ?_, by rw [hsame]; exact hg, hb⟩
    · rw [show (i : Int) * 380 = ((380 * i : Nat) : Int) by omega, run_slice_l _ _ _ _ _ elem_bytes .i64 ((380 * i : Nat) : Int) (by omega) (by omega), size_bytes]
      simp only [Result.andThen, sliced, Int.toNat_natCast, Nat.mul_one]
    · rw [h0]
      exact Lib.run_copy_empty_string w 27 9 3 5 _ _ _ (tx d) Tryd.underlying27 (by rw [u8_one]; rfl) (by rw [tx_size]; exact h0)
  · have hs := fun W => slice_from W g 0 l.flatten.length l.flatten.length ((i : Int) * 380) (380 * i) (by omega) (by omega) (by omega)
    have hc := Lib.run_copy_row_string (P := Tryd.prog) w 27 9 3 5 g (0 + 380 * i) (l.flatten.length - 380 * i) (l.flatten.length - 380 * i) (tx d) _ 5 Tryd.underlying27 u8_one hg (by rw [tx_size]; omega) (by rw [tx_size, List.size_toArray, BS_length, hsl]; omega)
    rw [tx_size, tx_data, byteCells_BS] at hc
    have hrow : (BS (soFar l i)).toArray.toList.take (0 + 380 * i) ++ BS d ++ (BS (soFar l i)).toArray.toList.drop (0 + 380 * i + d.length) = BS (soFar l (i + 1)) := by
      rw [soFar_succ hd, ht, BS_append, BS_append, Nat.zero_add]
      unfold BS
      rw [List.map_take, List.map_drop]
    rw [hrow] at hc
    exact ⟨_, _, hs, hc, setRow_heap w g _ _ _ _ hg, below_setRow hb hB _⟩
set_option maxHeartbeats 4000000 in
set_option maxRecDepth 100000 in
theorem joined_any {w : World} {e : KE} (h : MsgAt w e) (hF : Full e.parts) :
    Calls Tryd.prog 26 #[.pointer (some ⟨e.p, 0, none⟩)] w fun r w' => ∃ v, r = .returned v ∧ w'.ownsRow w.heap.size 5 1 v e.parts.flatten.length (BS e.parts.flatten) ∧ Below w.heap.size w w' := by
  have h1 := hF.one
  have h2 := hF.most
  obtain ⟨d, hd⟩ : ∃ d, e.parts[e.parts.length - 1]? = some d := ⟨_, List.getElem?_eq_getElem (by omega)⟩
  obtain ⟨s0, -⟩ := str_cell h.row hd
  have hall := hF.all hd
  have hdl := hF.last d (List.mem_of_getElem? hd)
  obtain ⟨w1, hmk, hg1, hb1⟩ := noughts_made e.parts.flatten.length (by omega) w
  rw [← soFar_zero] at hg1
  have p0 : w.cell? ⟨e.p, 0, none⟩ = some (.slice (some ⟨e.s, 0, none⟩) e.parts.length e.parts.length) := (blk_cells h.obj).1 0
  have p01 : w1.cell? ⟨e.p, 0, none⟩ = some (.slice (some ⟨e.s, 0, none⟩) e.parts.length e.parts.length) := (blk_cells (h.grow hb1).obj).1 0
  have hNb : e.parts.flatten.length ≤ 10000 := by rw [hall]; omega
  obtain ⟨m, hm⟩ : ∃ m, e.parts.length = m + 1 := ⟨e.parts.length - 1, by omega⟩
  have e1 : (e.parts.length : Int) - 1 = (m : Int) := by omega
  have e2 : (m : Int) * 380 + (d.length : Int) = ((e.parts.flatten.length : Nat) : Int) := by rw [hall]; omega
  rw [show e.parts.length - 1 = m by omega] at s0
  have a1 : (m : Int) < (e.parts.length : Int) := by omega
  have a0 : (0 : Int) ≤ (m : Int) := by omega
  have hsz := tx_size d
  have HG1 := Lib.hid hg1
  have HB1 := Lib.hid hb1
  have H := Lib.hid h
  have HF := Lib.hid hF
  obtain ⟨N, hN⟩ : ∃ N, N = e.parts.flatten.length := ⟨_, rfl⟩
  rw [← hN] at hmk e2 hNb ⊢
  have HN := Lib.hid hN
  obtain ⟨g, hgE⟩ : ∃ g, g = w.heap.size := ⟨_, rfl⟩
  rw [← hgE] at hmk
  have HGE := Lib.hid hgE
  clear hg1 hb1 h hF hall hN hgE hd hm
  go_enter Tryd.func26, Tryd.ntmps26
  go_upto_region 4 with fail
  clear hmk s0 p0 p01 e1 e2 a1 a0 hsz hdl
  go_loopw [5, 6, 30] (fun _ _ s30 wr => ∃ i : Nat, s30 = .int .i64 (i : Int) ∧ i ≤ e.parts.length ∧ Hid (wr.heap[g]? = some (.cells (BS (soFar e.parts i)).toArray 5 (0, 0))) ∧ Hid (Below w.heap.size w wr)) (fun _ _ s30 _ => e.parts.length - (intOf s30).toNat)
  case atStart => exact ⟨0, rfl, Nat.zero_le _, Lib.hid (by rw [HGE.out]; exact HG1.out), HB1⟩
  case round =>
    clear HG1 HB1
    obtain ⟨i, rfl, hi, hG, hB⟩ := hrel
    obtain ⟨wz, hwz⟩ : ∃ wz : World, wz = wr := ⟨_, rfl⟩
    subst hwz
    by_cases hil : i < e.parts.length
    · have b1 : (i : Int) < (e.parts.length : Int) := by omega
      have b0 : (0 : Int) ≤ (i : Int) := by omega
      obtain ⟨x, hx⟩ : ∃ x, e.parts[i]? = some x := ⟨_, List.getElem?_eq_getElem hil⟩
      obtain ⟨s0, -⟩ := str_cell (H.out.grow hB.out).row hx
      obtain ⟨A, w2, hs, hc, hg2, hb2⟩ := part_copied HF.out hx hG.out hB.out (by rw [HGE.out]; exact Nat.le_refl _)
      rw [← HN.out] at hs hc
      have hs2 : ∀ W, (Instr.sliceAt 27 (.slice (some ⟨g, 0, none⟩) N N) (some (.int .i64 ((i : Int) * 380))) none none).run Tryd.prog W = .ok (.slice A (N - 380 * i) (N - 380 * i)) W := fun W => (run_sliceAt_slice _ _ _ _ _ _ elem_bytes).trans (hs W)
      have HG2 := Lib.hid hg2
      have HB2 := Lib.hid hb2
      clear hg2 hb2 hx
      go_wp2_with fail
      exact ⟨⟨i + 1, by go_num, hil, HG2, HB2⟩, by simp [intOf]; omega⟩
    · have b1 : ¬ (i : Int) < (e.parts.length : Int) := by omega
      have hie : i = e.parts.length := by omega
      have hfin : wz.ownsRow w.heap.size 5 1 (.slice (some ⟨g, 0, none⟩) N N) N (BS e.parts.flatten) := by
        have := hG.out
        rw [hie, soFar_all] at this
        refine ⟨by rw [BS_length, HN.out]; omega, .inr ⟨g, N, _, rfl, by rw [HGE.out]; exact Nat.le_refl _, this, Nat.le_refl _, ?_, by rw [List.size_toArray, BS_length, HN.out]; omega, by rw [List.take_of_length_le (by rw [BS_length, HN.out]; omega)]⟩⟩
        unfold maxLen
        omega
      have HFN := Lib.hid hfin
      clear hfin
      go_wp2_with fail
      go_ret
      exact ⟨_, rfl, HFN.out, hB.out⟩
end Go.Proofs.YtfmaocinckeagaaDoor
