/-
  The program's message: the one that is kept by a key, or a new one. No statement is proved here. No condition.
-/
import Derived.Test.YtfmaocinckeagaaDoorQDrop
namespace Go.Proofs.YtfmaocinckeagaaDoor
open Go.RowKit

theorem findA_some {L : List KE} {k : Key} {p : Nat} (h : findA (pairs L) k = some p) : ∃ e ∈ L, e.key = k ∧ e.p = p := by
  unfold findA pairs at h
  rw [List.find?_map] at h
  cases hf : L.find? ((fun x : Key × Nat => decide (x.1 = k)) ∘ fun e => (e.key, e.p)) with
  | none => rw [hf] at h; cases h
  | some e =>
    rw [hf] at h
    have h1 := List.find?_some hf
    refine ⟨e, List.mem_of_find?_eq_some hf, by simpa using h1, ?_⟩
    simpa using h
theorem findA_none {L : List KE} {k : Key} (h : findA (pairs L) k = none) : ∀ e ∈ L, e.key ≠ k := by
  intro e he hk
  unfold findA pairs at h
  rw [Option.map_eq_none_iff, List.find?_eq_none] at h
  have := h (e.key, e.p) (List.mem_map_of_mem he)
  simp [hk] at this
theorem findA_not {L : List KE} {k : Key} (h : ∀ e ∈ L, e.key ≠ k) : findA (pairs L) k = none := by
  unfold findA pairs
  rw [Option.map_eq_none_iff, List.find?_eq_none]
  intro x hx
  obtain ⟨e, he, rfl⟩ := List.mem_map.1 hx
  simpa using h e he
theorem key_one {L : List KE} (h : (L.map KE.key).Nodup) {e f : KE} (he : e ∈ L) (hf : f ∈ L) (hk : e.key = f.key) : e = f := by
  induction L with
  | nil => cases he
  | cons a L ih =>
    rw [List.map_cons, List.nodup_cons] at h
    rcases List.mem_cons.1 he with he' | he' <;> rcases List.mem_cons.1 hf with hf' | hf'
    · rw [he', hf']
    · exact absurd (by rw [← he', hk]; exact List.mem_map_of_mem hf') h.1
    · exact absurd (by rw [← hf', ← hk]; exact List.mem_map_of_mem he') h.1
    · exact ih h.2 he' hf'
/-- what message comes to -/
def MsgPost (w : World) (G : Nat → Prop) (j mb n : Nat) (rv : Value) (L : List KE) (k : Key) (m : Nat) (e : Ending) (w' : World) : Prop :=
  (∃ x ∈ L, x.key = k ∧ x.parts.length = m ∧ e = .returned (.pointer (some ⟨x.p, 0, none⟩)) ∧ Below w.heap.size w w') ∨
  ((∀ x ∈ L, x.key = k → x.parts.length ≠ m) ∧ ∃ rv' p s, e = .returned (.pointer (some ⟨p, 0, none⟩)) ∧ JAt w' G j mb rv' n (dropL L k) ∧ MsgAt w' ⟨k, List.replicate m [], m, p, s⟩ ∧ w.heap.size ≤ p ∧ w.heap.size ≤ s ∧ Kept w w' G)
theorem nil_str (n : Nat) : strR.row (List.replicate n []) = List.replicate n (Value.string ⟨#[]⟩) := by
  induction n with
  | zero => rfl
  | succ n ih => rw [List.replicate_succ, List.replicate_succ, strR.row_cons, ih]; rfl
/-- room for a message's parts -/
theorem str_made (w : World) (n : Nat) (hn : n ≤ 100000) : ∃ w', (Instr.makeSlice 71 (.int .i64 (n : Int)) (.int .i64 (n : Int))).run Tryd.prog w = .ok (.slice (some ⟨w.heap.size, 0, none⟩) n n) w' ∧
    w'.heap[w.heap.size]? = some (.cells (strR.row (List.replicate n [])).toArray 9 (0, 0)) ∧ Below w.heap.size w w' ∧ w'.heap.size = w.heap.size + 1 := by
  obtain ⟨i0, hi, hz0, hz1, hz2⟩ := info_parts info_str
  have hr := run_make (P := Tryd.prog) w 71 9 i0 _ Tryd.underlying71 hi hz0 .i64 .i64 (n : Int) (n : Int) (by omega) (Int.le_refl _) (by rw [hz2]; omega) (by omega)
  rw [hz1, Int.toNat_natCast, Nat.mul_one] at hr
  have hrow : madeCells (Value.string ⟨#[]⟩).cells n = (strR.row (List.replicate n [])).toArray := by
    apply Array.toList_inj.1
    show (madeCells #[Value.string ⟨#[]⟩] n).toList = _
    rw [toList_madeCells_one]
    exact (nil_str n).symm
  rw [hrow] at hr
  exact ⟨_, hr, heap_alloc_new w _, (Below.refl _ _).alloc (Nat.le_refl _) _, by simp⟩
set_option maxHeartbeats 4000000 in
set_option maxRecDepth 100000 in
theorem pmessage_any {w : World} {G : Nat → Prop} {j mb n : Nat} {rv : Value} {L : List KE} (h : JAt w G j mb rv n L) (k : Key) (hk : k.good) (m : Nat) (hm : m ≤ 100000) (hL : L.length ≤ 100000) :
    Calls Tryd.prog 22 #[.pointer (some ⟨j, 0, none⟩), k.v, .int .i64 (m : Int)] w (MsgPost w G j mb n rv L k m) := by
  obtain ⟨w1, hw1⟩ : ∃ w1, w1 = w.alloc (.cells #[.int .i64 k.1, .int .i64 k.2] 67) := ⟨_, rfl⟩
  have hb1 : Below w.heap.size w w1 := by rw [hw1]; exact (Below.refl _ _).alloc (Nat.le_refl _) _
  obtain ⟨q, hq⟩ : ∃ q, q = w.heap.size := ⟨_, rfl⟩
  have hx1 : w1.heap[q]? = some (.cells #[.int .i64 k.1, .int .i64 k.2] 67 (0, 0)) := by rw [hw1, hq]; exact heap_alloc_new w _
  obtain ⟨x0, x1⟩ : w1.cell? ⟨q, 0, none⟩ = some (.int .i64 k.1) ∧ w1.cell? ⟨q, 1, none⟩ = some (.int .i64 k.2) := ⟨(blk_cells hx1).1 0, (blk_cells hx1).1 1⟩
  have h1 := h.grow hb1
  have c0 : w1.cell? ⟨j, 0, none⟩ = some (.map (some mb)) := (blk_cells h1.obj).1 0
  have hlook := MapJ.look (w := w1.drew) (h1.map.same rfl) hk
  obtain ⟨f, hf⟩ : ∃ f, f = findA (pairs L) k := ⟨_, rfl⟩
  rw [← hf] at hlook
  obtain ⟨w2, hw2⟩ : ∃ w2, w2 = w1.drew := ⟨_, rfl⟩
  have hb2 : Below w.heap.size w w2 := by rw [hw2]; exact hb1.drew
  have h2 : JAt w2 G j mb rv n L := h.grow hb2
  obtain ⟨z0, z1⟩ : w2.cell? ⟨q, 0, none⟩ = some (.int .i64 k.1) ∧ w2.cell? ⟨q, 1, none⟩ = some (.int .i64 k.2) := by rw [hw2]; exact ⟨x0, x1⟩
  have cD := pdrop_any h2 k hk hL
  have HW1 := Lib.hid hw1
  have HQ := Lib.hid hq
  have HW2 := Lib.hid hw2
  have HB2 := Lib.hid hb2
  have H2 := Lib.hid h2
  unfold Key.v at hlook cD ⊢
  have rest : ∀ (Q : Prop), True := fun _ => trivial
  cases f with
  | some p =>
    obtain ⟨x, hxL, hxk, hxp⟩ := findA_some hf.symm
    have hxm := h2.msg x hxL
    rw [← hxp] at hlook
    by_cases hxl : x.parts.length = m
    · have p0 : w2.cell? ⟨x.p, 0, none⟩ = some (.slice (some ⟨x.s, 0, none⟩) m m) := by rw [← hxl]; exact (blk_cells hxm.obj).1 0
      have HX : Hid (x ∈ L ∧ x.key = k ∧ x.parts.length = m) := Lib.hid ⟨hxL, hxk, hxl⟩
      have e1 : ((m : Int) == (m : Int)) = true := by simp
      clear hxm hxL hxk hxp hxl hf hw1 hq hw2 hb1 hx1 h1 h2 cD h hb2
      unfold ptrO at hlook
      go_enter Tryd.func22, Tryd.ntmps22
      go_upto_region 1 with fail
      rw [← HW1.out, ← HQ.out]
      go_region
      rw [← HW2.out]
      clear hlook x0 x1 c0
      go_wp2_with fail
      go_ret
      exact .inl ⟨x, HX.out.1, HX.out.2.1, HX.out.2.2, rfl, HB2.out⟩
    · -- another
      have p0 : w2.cell? ⟨x.p, 0, none⟩ = some (.slice (some ⟨x.s, 0, none⟩) x.parts.length x.parts.length) := (blk_cells hxm.obj).1 0
      have HN : Hid (∀ y ∈ L, y.key = k → y.parts.length ≠ m) := Lib.hid (fun y hy hyk => by rw [key_one h2.keys hy hxL (hyk.trans hxk.symm)]; exact hxl)
      have e0 : ¬ (x.parts.length : Int) = (m : Int) := by omega
      have e1 : ((x.parts.length : Int) == (m : Int)) = false := by rw [beq_eq_false_iff_ne]; exact e0
      clear hxm hxL hxk hxp hxl hf hw1 hq hw2 hb1 hx1 h1 h2 h hb2
      unfold ptrO at hlook
      go_enter Tryd.func22, Tryd.ntmps22
      go_upto_region 1 with fail
      rw [← HW1.out, ← HQ.out]
      go_region
      rw [← HW2.out]
      clear hlook x0 x1 c0
      go_wp2_with fail
      refine cD.mono ?_
      rintro e w3 ⟨rfl, rv', hJ3, hK3⟩
      clear cD
      obtain ⟨w4, hmk, hs4, hb4, hz4⟩ := str_made w3 m hm
      obtain ⟨w5, hw5⟩ : ∃ w5, w5 = w4.alloc (.cells #[.slice (some ⟨w3.heap.size, 0, none⟩) m m, .int .i64 (m : Int)] 73) := ⟨_, rfl⟩
      have hb5 : Below w4.heap.size w4 w5 := by rw [hw5]; exact (Below.refl _ _).alloc (Nat.le_refl _) _
      have hx5 : w5.heap[w4.heap.size]? = some (.cells #[.slice (some ⟨w3.heap.size, 0, none⟩) m m, .int .i64 (m : Int)] 73 (0, 0)) := by rw [hw5]; exact heap_alloc_new w4 _
      have hM : MsgAt w5 ⟨k, List.replicate m [], m, w4.heap.size, w3.heap.size⟩ := ⟨by rw [hx5]; simp, (hb5.block w3.heap.size (by omega)).trans hs4⟩
      have hJ5 := (hJ3.grow hb4).grow hb5
      have hle := Nat.le_trans HB2.out.size hK3.size
      have hK : Kept w w5 G := ((show Kept w w2 G from ⟨HB2.out.os, HB2.out.tape, HB2.out.output, HB2.out.size, fun b hb _ => HB2.out.block b hb⟩).trans hK3 fun n hn => .inl hn).trans (show Kept w3 w5 G from ⟨hb5.os.trans hb4.os, hb5.tape.trans hb4.tape, hb5.output.trans hb4.output, Nat.le_trans hb4.size hb5.size, fun b hb _ => (hb5.block b (Nat.lt_of_lt_of_le hb hb4.size)).trans (hb4.block b hb)⟩) fun n hn => .inl hn
      have HF := Lib.hid (show JAt w5 G j mb rv' n (dropL L k) ∧ MsgAt w5 ⟨k, List.replicate m [], m, w4.heap.size, w3.heap.size⟩ ∧ w.heap.size ≤ w4.heap.size ∧ w.heap.size ≤ w3.heap.size ∧ Kept w w5 G from ⟨hJ5, hM, by omega, hle, hK⟩)
      have HW5 := Lib.hid hw5
      clear hs4 hb4 hz4 hb5 hx5 hM hJ5 hle hK hw5 hJ3 hK3
      go_wp2_with fail
      rw [← HW5.out]
      go_ret
      exact .inr ⟨HN.out, rv', w4.heap.size, w3.heap.size, rfl, HF.out⟩
  | none =>
    have HN : Hid (∀ y ∈ L, y.key = k → y.parts.length ≠ m) := Lib.hid (fun y hy hyk => absurd hyk (findA_none hf.symm y hy))
    clear hf hw1 hq hw2 hb1 hx1 h1 h2 h hb2
    unfold ptrO at hlook
    go_enter Tryd.func22, Tryd.ntmps22
    go_upto_region 1 with fail
    rw [← HW1.out, ← HQ.out]
    go_region
    rw [← HW2.out]
    clear hlook x0 x1 c0
    go_wp2_with fail
    refine cD.mono ?_
    rintro e w3 ⟨rfl, rv', hJ3, hK3⟩
    clear cD
    obtain ⟨w4, hmk, hs4, hb4, hz4⟩ := str_made w3 m hm
    obtain ⟨w5, hw5⟩ : ∃ w5, w5 = w4.alloc (.cells #[.slice (some ⟨w3.heap.size, 0, none⟩) m m, .int .i64 (m : Int)] 73) := ⟨_, rfl⟩
    have hb5 : Below w4.heap.size w4 w5 := by rw [hw5]; exact (Below.refl _ _).alloc (Nat.le_refl _) _
    have hx5 : w5.heap[w4.heap.size]? = some (.cells #[.slice (some ⟨w3.heap.size, 0, none⟩) m m, .int .i64 (m : Int)] 73 (0, 0)) := by rw [hw5]; exact heap_alloc_new w4 _
    have hM : MsgAt w5 ⟨k, List.replicate m [], m, w4.heap.size, w3.heap.size⟩ := ⟨by rw [hx5]; simp, (hb5.block w3.heap.size (by omega)).trans hs4⟩
    have hJ5 := (hJ3.grow hb4).grow hb5
    have hle := Nat.le_trans HB2.out.size hK3.size
    have hK : Kept w w5 G := ((show Kept w w2 G from ⟨HB2.out.os, HB2.out.tape, HB2.out.output, HB2.out.size, fun b hb _ => HB2.out.block b hb⟩).trans hK3 fun n hn => .inl hn).trans (show Kept w3 w5 G from ⟨hb5.os.trans hb4.os, hb5.tape.trans hb4.tape, hb5.output.trans hb4.output, Nat.le_trans hb4.size hb5.size, fun b hb _ => (hb5.block b (Nat.lt_of_lt_of_le hb hb4.size)).trans (hb4.block b hb)⟩) fun n hn => .inl hn
    have HF := Lib.hid (show JAt w5 G j mb rv' n (dropL L k) ∧ MsgAt w5 ⟨k, List.replicate m [], m, w4.heap.size, w3.heap.size⟩ ∧ w.heap.size ≤ w4.heap.size ∧ w.heap.size ≤ w3.heap.size ∧ Kept w w5 G from ⟨hJ5, hM, by omega, hle, hK⟩)
    have HW5 := Lib.hid hw5
    clear hs4 hb4 hz4 hb5 hx5 hM hJ5 hle hK hw5 hJ3 hK3
    go_wp2_with fail
    rw [← HW5.out]
    go_ret
    exact .inr ⟨HN.out, rv', w4.heap.size, w3.heap.size, rfl, HF.out⟩
end Go.Proofs.YtfmaocinckeagaaDoor
