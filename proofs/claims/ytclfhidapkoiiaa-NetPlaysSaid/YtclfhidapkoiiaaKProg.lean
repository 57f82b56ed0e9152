/-
  The program's net: New, Len, Lost, has, Look, add, Send, Double. No statement is proved here. No condition.
-/
import Derived.Test.YtclfhidapkoiiaaKMemP
namespace Go.Proofs.Ytclfhidapkoiiaa
open Go.RowKit

set_option maxRecDepth 100000 in
theorem pnew_any (m : Int) (w : World) :
    Calls Try.prog 4 #[.int .i64 m] w fun e w' => (newErr m ≠ 0 ∧ e = .returned (.tuple #[.pointer none, .int .i64 1]) ∧ w' = w) ∨ (newErr m = 0 ∧ e = .returned (.tuple #[.pointer (some ⟨w.heap.size, 0, none⟩), .int .i64 0]) ∧ PNetM w' w.heap.size w.heap.size 54 36 (.slice none 0 0) (NT.new m.toNat) ∧ Below w.heap.size w w') := by
  have hz := zero_net
  go_enter Try.func4, Try.ntmps4
  by_cases h1 : m < 0
  · go_wp2_with fail
    go_ret2
    exact .inl ⟨by unfold newErr; rw [if_pos (.inl h1)]; decide, rfl, rfl⟩
  · by_cases h2 : 1000 < m
    · go_wp2_with fail
      go_ret2
      exact .inl ⟨by unfold newErr; rw [if_pos (.inr h2)]; decide, rfl, rfl⟩
    · have hb : Below w.heap.size w (w.alloc (.cells #[.int .i64 m, .slice none 0 0, .int .i64 0] 54)) := (Below.refl _ _).alloc (Nat.le_refl _) _
      have hx : (w.alloc (.cells #[.int .i64 m, .slice none 0 0, .int .i64 0] 54)).heap[w.heap.size]? = some (.cells #[.int .i64 m, .slice none 0 0, .int .i64 0] 54 (0, 0)) := heap_alloc_new w _
      have HB := Lib.hid hb
      have HX := Lib.hid hx
      clear hb hx
      go_wp2_with fail
      go_ret2
      refine .inr ⟨by unfold newErr; rw [if_neg (by omega)], rfl, ⟨?_, Nat.le_refl _, Rec.Own.none _ _ _ _⟩, HB.out⟩
      have e : ((m.toNat : Nat) : Int) = m := by omega
      refine HX.out.trans ?_
      show some (Obj.cells #[Value.int .i64 m, Value.slice none 0 0, Value.int .i64 0] _ (0, 0)) = some (Obj.cells #[Value.int .i64 ((m.toNat : Nat) : Int), Value.slice none 0 0, Value.int .i64 ((0 : Nat) : Int)] _ (0, 0))
      rw [e]
      rfl
set_option maxRecDepth 100000 in
theorem plen_any (n : NT) (B p : Nat) (v : Value) (w : World) (h : PNetM w B p 54 36 v n) :
    Calls Try.prog 16 #[.pointer (some ⟨p, 0, none⟩)] w fun e w' => e = .returned (.int .i64 (n.row.length : Int)) ∧ w' = w := by
  obtain ⟨A, c, rfl⟩ := h.row.slice
  have c1 : w.cell? ⟨p, 1, none⟩ = some (.slice A n.row.length c) := (blk_cells h.net).1 1
  clear h
  go_enter Try.func16, Try.ntmps16
  go_wp2_with fail
  go_ret
  exact ⟨rfl, rfl⟩
set_option maxRecDepth 100000 in
theorem plost_any (n : NT) (B p : Nat) (v : Value) (w : World) (h : PNetM w B p 54 36 v n) :
    Calls Try.prog 17 #[.pointer (some ⟨p, 0, none⟩)] w fun e w' => e = .returned (.int .i64 (n.lost : Int)) ∧ w' = w := by
  have c1 : w.cell? ⟨p, 2, none⟩ = some (.int .i64 (n.lost : Int)) := (blk_cells h.net).1 2
  clear h
  go_enter Try.func17, Try.ntmps17
  go_wp2_with fail
  go_ret
  exact ⟨rfl, rfl⟩
set_option maxRecDepth 100000 in
theorem phas_any (n : NT) (i : Int) (B p : Nat) (v : Value) (w : World) (h : PNetM w B p 54 36 v n) :
    Calls Try.prog 21 #[.pointer (some ⟨p, 0, none⟩), .int .i64 i] w fun e w' => e = .returned (.bool (n.at? i).isSome) ∧ w' = w := by
  have cL := plen_any n B p v w h
  clear h
  obtain ⟨S, hS⟩ : ∃ S, S = (n.at? i).isSome := ⟨_, rfl⟩
  rw [← hS]
  have hS' : (S = true ↔ ¬ (i < 0 ∨ (n.row.length : Int) ≤ i)) := by
    rw [hS, ← NT.at_none (n := n) (i := i)]
    cases n.at? i <;> simp
  have HS := Lib.hid hS'
  clear hS hS'
  by_cases h0 : i < 0
  · have e : S = false := by
      cases hs : S
      · rfl
      · exact absurd (.inl h0) (HS.out.1 hs)
    have HE := Lib.hid e
    clear e cL
    go_enter Try.func21, Try.ntmps21
    go_wp2_with fail
    go_ret
    rw [HE.out]
    exact ⟨rfl, rfl⟩
  · have e : S = decide (i < (n.row.length : Int)) := by
      by_cases h1 : i < (n.row.length : Int)
      · rw [HS.out.2 (by omega)]; simp [h1]
      · cases hs : S
        · simp [h1]
        · exact absurd (.inr (by omega)) (HS.out.1 hs)
    have HE := Lib.hid e
    clear e
    go_enter Try.func21, Try.ntmps21
    go_wp2_with fail
    refine cL.mono ?_
    rintro e w2 ⟨rfl, rfl⟩
    clear cL
    go_wp2_with fail
    go_ret
    rw [HE.out]
    exact ⟨rfl, rfl⟩
set_option maxHeartbeats 4000000 in
set_option maxRecDepth 100000 in
theorem plook_any (n : NT) (i : Int) (B p : Nat) (v : Value) (w : World) (h : PNetM w B p 54 36 v n) :
    Calls Try.prog 13 #[.pointer (some ⟨p, 0, none⟩), .int .i64 i] w fun e w' => e = .returned (.tuple #[((n.at? i).getD zK).agg, .bool (n.at? i).isSome]) ∧ Below w.heap.size w w' := by
  have hz := zero_pk
  obtain ⟨w1, hw1⟩ : ∃ w1, w1 = w.alloc (.cells #[.int .i64 0, .int .i64 0, .string ⟨#[]⟩] 36) := ⟨_, rfl⟩
  have hb1 : Below w.heap.size w w1 := by rw [hw1]; exact (Below.refl _ _).alloc (Nat.le_refl _) _
  have hx1 : w1.heap[w.heap.size]? = some (.cells #[.int .i64 0, .int .i64 0, .string ⟨#[]⟩] 36 (0, 0)) := by rw [hw1]; exact heap_alloc_new w _
  have h1 := h.grow hb1
  have cH := phas_any n i B p v w1 h1
  obtain ⟨S, hS⟩ : ∃ S, S = n.at? i := ⟨_, rfl⟩
  rw [← hS] at cH ⊢
  obtain ⟨x, hx⟩ : ∃ x, x = S.getD zK := ⟨_, rfl⟩
  rw [← hx]
  obtain ⟨r0, r1, r2, r3, r4, r5⟩ : w1.cell? ⟨w.heap.size, 0, none⟩ = some (.int .i64 0) ∧ w1.cell? ⟨w.heap.size, 1, none⟩ = some (.int .i64 0) ∧ w1.cell? ⟨w.heap.size, 2, none⟩ = some (.string ⟨#[]⟩) ∧ w1.frozen? ⟨w.heap.size, 0, none⟩ = false ∧ w1.frozen? ⟨w.heap.size, 1, none⟩ = false ∧ w1.frozen? ⟨w.heap.size, 2, none⟩ = false := ⟨(blk_cells hx1).1 0, (blk_cells hx1).1 1, (blk_cells hx1).1 2, (blk_cells hx1).2 0, (blk_cells hx1).2 1, (blk_cells hx1).2 2⟩
  obtain ⟨wf, hwf⟩ : ∃ wf, wf = ((w1.setCell ⟨w.heap.size, 0, none⟩ (.int .i64 x.frm)).setCell ⟨w.heap.size, 1, none⟩ (.int .i64 x.dst)).setCell ⟨w.heap.size, 2, none⟩ (.string x.data) := ⟨_, rfl⟩
  have hxf : wf.heap[w.heap.size]? = some (.cells #[.int .i64 x.frm, .int .i64 x.dst, .string x.data] 36 (0, 0)) := by rw [hwf]; exact set3k_at hx1
  obtain ⟨g0, g1, g2⟩ : wf.cell? ⟨w.heap.size, 0, none⟩ = some (.int .i64 x.frm) ∧ wf.cell? ⟨w.heap.size, 1, none⟩ = some (.int .i64 x.dst) ∧ wf.cell? ⟨w.heap.size, 2, none⟩ = some (.string x.data) := ⟨(blk_cells hxf).1 0, (blk_cells hxf).1 1, (blk_cells hxf).1 2⟩
  have hbf : Below w.heap.size w wf := by rw [hwf]; exact ((hb1.setCell (p := ⟨w.heap.size, 0, none⟩) (Nat.le_refl _) _).setCell (p := ⟨w.heap.size, 1, none⟩) (Nat.le_refl _) _).setCell (p := ⟨w.heap.size, 2, none⟩) (Nat.le_refl _) _
  have HBF := Lib.hid hbf
  have HW1 := Lib.hid hw1
  have hp := h.lt
  cases S with
  | none =>
    have hxz : x = zK := hx
    have HWF := Lib.hid (show wf = ((w1.setCell ⟨w.heap.size, 0, none⟩ (.int .i64 0)).setCell ⟨w.heap.size, 1, none⟩ (.int .i64 0)).setCell ⟨w.heap.size, 2, none⟩ (.string ⟨#[]⟩) by rw [hwf, hxz]; rfl)
    clear h hS h1 hb1 hx1 hw1 hwf hxf hbf hx hxz
    go_enter Try.func13, Try.ntmps13
    go_upto_region 1 with fail
    rw [← HW1.out]
    go_wp2_with fail
    refine cH.mono ?_
    rintro e w2 ⟨rfl, rfl⟩
    clear cH
    go_wp2_with fail
    rw [← HWF.out]
    refine bodyPost_ret (v := .tuple #[x.agg, .bool false]) (by clear r0 r1 r2 r3 r4 r5; unfold PK.agg; rw [results_ct rfl]; go_simp; try rfl) rfl ?_
    exact ⟨rfl, HBF.out⟩
  | some y =>
    have hxy : x = y := hx
    subst hxy
    obtain ⟨h0, hjl, hjx⟩ := NT.at_lt hS.symm
    obtain ⟨b, o, n', k', hv, -, hbs, d0, d1, d2⟩ := pk_cell h1.row.n hjx
    subst hv
    obtain ⟨A, c, hv⟩ := h1.row.slice
    injection hv with e1 e2 e3
    subst e2
    have c1 : w1.cell? ⟨p, 1, none⟩ = some (.slice (some ⟨b, o, none⟩) n.row.length k') := (blk_cells h1.net).1 1
    obtain ⟨j, hj⟩ : ∃ j : Nat, i = (j : Int) := ⟨i.toNat, by omega⟩
    subst hj
    rw [Int.toNat_natCast] at hjl hjx d0 d1 d2
    have b1 : ¬ (n.row.length : Int) ≤ (j : Int) := by omega
    have b2 : (j : Int) < (n.row.length : Int) := by omega
    have b0 : ¬ (j : Int) < 0 := by omega
    have HWF := Lib.hid hwf
    clear h hS h1 hb1 hx1 hw1 hwf hxf hbf hx hjx e1 e3 hbs
    go_enter Try.func13, Try.ntmps13
    go_upto_region 1 with fail
    rw [← HW1.out]
    go_wp2_with fail
    refine cH.mono ?_
    rintro e w2 ⟨rfl, rfl⟩
    clear cH
    go_wp2_with fail
    rw [← HWF.out]
    refine bodyPost_ret (v := .tuple #[x.agg, .bool true]) (by clear r0 r1 r2 r3 r4 r5 d0 d1 d2 c1; unfold PK.agg; rw [results_ct rfl]; go_simp; try rfl) rfl ?_
    exact ⟨rfl, HBF.out⟩
end Go.Proofs.Ytclfhidapkoiiaa
