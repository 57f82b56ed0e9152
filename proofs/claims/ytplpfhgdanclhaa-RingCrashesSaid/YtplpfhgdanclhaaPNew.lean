/-
  The program's own disk: New, the clones, Reopen, Copy. No statement is proved here. No condition.
-/
import Derived.Test.YtplpfhgdanclhaaPMore
import Derived.Lib.SliceRun
namespace Go.Proofs.Ytplpfhgdanclhaa
open Go.RowKit Go.Maps

theorem RowAt.grow {w w' : World} {v : Value} {n size : Nat} {xs : List Value} (h : RowAt w v n size xs) (hb : Below w.heap.size w w') : RowAt w' v n size xs := by
  obtain ⟨A, c, rfl, h1, h2, h3, h4, h5⟩ := h
  refine ⟨A, c, rfl, h1, h2, h3, h4, fun hn => ?_⟩
  obtain ⟨b, o, rfl, hc⟩ := h5 hn
  exact ⟨b, o, rfl, fun j u hu => (hb.cell (p := ⟨b, o + j, none⟩) (World.block_lt_of_cell? w _ (hc j u hu))).trans (hc j u hu)⟩

/-- a new disk's head -/
def headOf (v : Value) (m : Nat) : Obj := .cells #[v, .slice none 0 0, .map (some m), .int .i64 0, .bool false, .bool false, .int .i64 0, .string ByteArray.empty] 90 (0, 0)
theorem p_of (A : Option Addr) (n c : Nat) (w : World) :
    Calls Try.prog 33 #[.slice A n c] w fun e w' => e = .returned (.pointer (some ⟨w.heap.size + 1, 0, none⟩)) ∧ w' = (w.alloc (.map #[] 0)).alloc (headOf (.slice A n c) w.heap.size) := by
  have hmm := run_makeMap (P := Try.prog) 85 w
  go_enter Try.func33, Try.ntmps33
  go_wp2_with fail
  go_ret
  exact ⟨by first | rfl | simp, by unfold headOf; first | rfl | simp⟩

/-- what lies behind of: a disk -/
theorem PD.of {w : World} {S : Nat → Prop} {base : Nat} {v : Value} {L : List (List UInt8)} {pl : List (Option Nat)} (h : w.ownsRow base 95 1 v L.length (PS pl)) (hs : Secs w S pl L) :
    PD ((w.alloc (.map #[] 0)).alloc (headOf v w.heap.size)) (fun b => (base ≤ b ∧ b < w.heap.size) ∨ (w.heap.size ≤ b ∧ b < w.heap.size + 2)) S (w.heap.size + 1) ⟨L, [], 0, false, none, []⟩ := by
  have hb : Below w.heap.size w ((w.alloc (.map #[] 0)).alloc (headOf v w.heap.size)) := ((Below.refl _ _).alloc (Nat.le_refl _) _).alloc (by simp) _
  have hz : (w.alloc (.map #[] 0)).heap.size = w.heap.size + 1 := by simp
  refine ⟨v, .slice none 0 0, w.heap.size, false, 0, ByteArray.empty, pl, [], ⟨.inr ⟨by omega, by omega⟩, ?_, fun _ => ⟨fun _ => ⟨rfl, rfl, rfl⟩, fun k hk => by cases hk⟩, own_eq (row_same h fun b hb' => hb.block b (h.lt b hb').2) rfl rfl (Nat.zero_le _), fun b hb' => .inl (h.lt b hb'), World.ownsRow_nil _ _ _ _, (fun b hb' => by cases hb'), hs.kept (fun _ h => h) (fun b _ _ hb' => hb.block b hb'), Wts.nil _ _⟩, .inr ⟨Nat.le_refl _, by omega⟩, ?_⟩
  · have := heap_alloc_new (w.alloc (.map #[] 0)) (headOf v w.heap.size)
    rw [hz] at this
    exact this
  · exact (MapAt.made w).same (Below.heap_alloc _ _ _ (by omega))

theorem made_ptrs (n : Nat) (hn : n ≤ 65536) (w : World) : ∃ w', (Instr.makeSlice 66 (.int .i64 (n : Int)) (.int .i64 (n : Int))).run Try.prog w = .ok (.slice (some ⟨w.heap.size, 0, none⟩) n n) w' ∧ w'.ownsRow w.heap.size 95 1 (.slice (some ⟨w.heap.size, 0, none⟩) n n) n (PS (List.replicate n none)) ∧ Below w.heap.size w w' := by
  obtain ⟨i0, hi, hz0, hz1, hz2⟩ := info_parts info_P
  obtain ⟨w', h1, h2, h3⟩ := run_make_full (P := Try.prog) w w.heap.size 66 95 i0 _ 1 Try.underlying66 hi hz0 hz1 .i64 .i64 n (by rw [hz2]; omega) (by unfold maxLen; omega) (Nat.le_refl _)
  have hBS : (madeCells (Value.pointer none).cells (n * 1)).toList = PS (List.replicate n none) := by
    show (madeCells #[Value.pointer none] (n * 1)).toList = _
    rw [toList_madeCells_one]
    unfold PS
    rw [List.map_replicate, Nat.mul_one]
    rfl
  rw [hBS] at h2
  exact ⟨w', h1, h2, (Below.refl _ _).grown h3 (Nat.le_refl _) (fun k h => by cases h)⟩

/-- no block -/
def Nil : Nat → Prop := fun _ => False

theorem pNew_no (n : Int) (w : World) (hn : n < 1 ∨ (65536 : Int) < n) :
    Calls Try.prog 7 #[.int .i64 n] w fun e w' => e = .returned (.tuple #[.pointer none, .int .i64 1]) ∧ w = w' := by
  have key : n < 1 ∨ (¬ n < 1 ∧ (65536 : Int) < n) := by omega
  clear hn
  rcases key with n1 | ⟨n1, n2⟩
  all_goals
    go_enter Try.func7, Try.ntmps7
    go_wp2_with fail
    go_ret2
    exact ⟨rfl, rfl⟩

set_option maxHeartbeats 1000000 in
theorem pNew_yes (n : Nat) (w : World) (hn1 : 1 ≤ n) (hn2 : n ≤ 65536) :
    Calls Try.prog 7 #[.int .i64 (n : Int)] w fun e w' => Below w.heap.size w w' ∧ ∃ q, e = .returned (.tuple #[.pointer (some ⟨q, 0, none⟩), .int .i64 0]) ∧ PD w' (Made w w') Nil q (DS.new n) := by
  have n1 : ¬ (n : Int) < 1 := by omega
  have n2 : ¬ (65536 : Int) < (n : Int) := by omega
  obtain ⟨w1, hmk, ho1, hb1⟩ := made_ptrs n hn2 w
  obtain ⟨g, hg⟩ : ∃ g, g = w.heap.size := ⟨_, rfl⟩
  rw [← hg] at hmk ho1
  have HG := Lib.hid hg
  have HO1 := Lib.hid ho1
  clear hg ho1
  go_enter Try.func7, Try.ntmps7
  go_wp2_with fail
  refine (p_of (some ⟨g, 0, none⟩) n n w1).mono ?_
  rintro e w2 ⟨rfl, rfl⟩
  go_wp2_with fail
  go_ret2
  have hL : (List.replicate n (List.replicate 512 (0 : UInt8))).length = n := List.length_replicate
  have hs : Secs w1 Nil (List.replicate n none) (List.replicate n (List.replicate 512 (0 : UInt8))) := by
    refine ⟨by rw [List.length_replicate, List.length_replicate], fun i o s h1 h2 => ?_⟩
    have e1 := (List.mem_replicate.1 (List.mem_of_getElem? h1)).2
    have e2 := (List.mem_replicate.1 (List.mem_of_getElem? h2)).2
    rw [e1]
    exact e2
  have hpd := PD.of (own_eq HO1.out hL.symm rfl (Nat.le_refl _)) hs
  have hz := hb1.size
  have hG := HG.out
  refine ⟨(hb1.alloc hz _).alloc (by simp; omega) _, _, rfl, hpd.mono (fun b hb => ?_) (fun _ h => h)⟩
  show w.heap.size ≤ b ∧ b < _
  simp
  rcases hb with hb | hb <;> omega

set_option maxHeartbeats 1000000 in
theorem p_clone_ptrs (v : Value) (n : Nat) (pl : List (Option Nat)) (w : World) (hv : RowAt w v n 1 (PS pl)) (hn : n ≤ 1000000) :
    Calls Try.prog 52 #[v] w fun e w' => ∃ v', e = .returned v' ∧ w'.ownsRow w.heap.size 95 1 v' n (PS pl) ∧ Below w.heap.size w w' := by
  have HV := Lib.hid hv
  obtain ⟨A, c, rfl, hl, h2, h3, h4, h5⟩ := hv
  have q : ∀ (w : World) (a : Option Addr) (n c n' c' : Nat), (binOp .eql 66 (.slice a n c) (.slice none n' c')).run Try.prog w = .ok (.bool a.isNone) w := fun w a n c n' c' => Lib.run_eql_slice_nil w _ _ a n c n' c' Try.underlying66
  obtain ⟨i0, hi0, hz0, hz1, hz2⟩ := info_parts info_P
  cases A with
  | none =>
    have hc := h4 rfl
    have hn0 : n = 0 := by omega
    subst hn0
    have hpl : PS pl = [] := List.eq_nil_of_length_eq_zero (by omega)
    rw [hpl]
    go_enter Try.func52, Try.ntmps52
    go_wp2_with fail
    go_ret
    exact ⟨_, rfl, World.ownsRow_nil _ _ _ _, Below.refl _ _⟩
  | some ad =>
    have hrow : RowAt (w.alloc (.cells #[] 95)) (.slice (some ad) n c) n 1 (PS pl) := HV.out.grow ((Below.refl _ _).alloc (Nat.le_refl _) _)
    clear hl h2 h3 h4 h5
    go_enter Try.func52, Try.ntmps52
    go_wp2_with (at_builtin; go_must (refine wpList_appG rfl (.tmp 5) (.tmp 6) 66 rfl w.heap.size 95 i0 _ 1 8 Try.underlying66 hi0 hz0 hz1 hz2 rfl (by decide) _ _ 0 [] n (PS pl) rfl rfl (empty_row w 95 1 w.heap.size (Nat.le_refl _)) hrow (PS_one _) (by unfold maxLen; omega) (by omega) (by simp) ?_; intro v2 w2 ho2 hg2; have hb2 : Below w.heap.size w w2 := ((Below.refl _ _).alloc (Nat.le_refl _) _).grown hg2 (by simp) (fun b hb => by injection hb with hb; subst hb; exact Nat.le_refl _)))
    go_ret
    exact ⟨_, rfl, own_eq ho2 (by omega) (by simp) (Nat.le_refl _), hb2⟩
set_option maxHeartbeats 2000000 in
theorem pReopen_any (G S : Nat → Prop) (q : Nat) (D : DS) (w : World) (h : PD w G S q D) (hll : D.lasts.length ≤ 1000000) :
    Calls Try.prog 32 #[.pointer (some ⟨q, 0, none⟩)] w fun e w' => Below w.heap.size w w' ∧ (if D.dead then ∃ q', e = .returned (.tuple #[.pointer (some ⟨q', 0, none⟩), .int .i64 0]) ∧ PD w' (Made w w') S q' D.again else e = .returned (.tuple #[.pointer none, .int .i64 50])) := by
  obtain ⟨vl, vw, m, st, left, ks, pl, pw, h, hm, hM⟩ := h
  have c4 : w.cell? ⟨q, 4, none⟩ = some (.bool D.dead) := (row7 h.cells).1 4
  have c0 : w.cell? ⟨q, 0, none⟩ = some vl := (row7 h.cells).1 0
  cases hd : D.dead with
  | false =>
    rw [hd] at c4
    clear hd h hm hM
    go_enter Try.func32, Try.ntmps32
    go_wp2_with fail
    go_ret2
    exact ⟨Below.refl _ _, rfl⟩
  | true =>
    rw [hd] at c4
    have hcl := p_clone_ptrs vl D.lasts.length pl w (RowAt.of_own h.lasts) hll
    obtain ⟨_, _, hvl, -⟩ := RowAt.of_own h.lasts
    have hvl' : ∃ Al cl, vl = .slice Al D.lasts.length cl := ⟨_, _, hvl⟩
    clear hvl
    obtain ⟨Al, cl, rfl⟩ := hvl'
    have HS := Lib.hid h.secs
    clear hd h hm hM
    go_enter Try.func32, Try.ntmps32
    go_wp2_with fail
    refine hcl.mono ?_
    rintro e w1 ⟨v', rfl, ho1, hb1⟩
    obtain ⟨_, _, hv1, -⟩ := RowAt.of_own ho1
    have hv1' : ∃ A1 c1, v' = .slice A1 D.lasts.length c1 := ⟨_, _, hv1⟩
    clear hv1
    obtain ⟨A1, c1, rfl⟩ := hv1'
    have HO1 := Lib.hid ho1
    clear ho1
    go_wp2_with fail
    refine (p_of A1 D.lasts.length c1 w1).mono ?_
    rintro e w2 ⟨rfl, rfl⟩
    go_wp2_with fail
    go_ret2
    have hz := hb1.size
    have hpd := PD.of HO1.out (HS.out.kept (fun _ h => h) (fun b _ _ hb => hb1.block b hb))
    refine ⟨(hb1.alloc hz _).alloc (by simp; omega) _, _, rfl, hpd.mono (fun b hb => ?_) (fun _ h => h)⟩
    show w.heap.size ≤ b ∧ b < _
    simp
    rcases hb with hb | hb <;> omega
end Go.Proofs.Ytplpfhgdanclhaa
