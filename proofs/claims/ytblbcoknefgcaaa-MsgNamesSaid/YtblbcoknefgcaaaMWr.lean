/-
  The program's writer: put, and what writes one thing each. No statement is proved here. No condition.
-/
import Derived.Test.YtblbcoknefgcaaaCode
import Derived.Test.YtblbcoknefgcaaaMTwinM
namespace Go.Proofs.Ytblbcoknefgcaaa
open Go.RowKit

/-- what a writer has: its bytes, and whether it is full -/
abbrev WS := List UInt8 × Bool
def wput (s : WS) (x : List UInt8) : WS := if s.2 = true ∨ 8192 < s.1.length + x.length then (s.1, true) else (s.1 ++ x, false)
structure WrP (w : World) (B k : Nat) (s : WS) : Prop where
  ex : ∃ v, w.heap[k]? = some (.cells #[v, .bool s.2] 70 (0, 0)) ∧ w.ownsRow B 5 1 v s.1.length (BS s.1)
  len : s.1.length ≤ 8192
  kB : B ≤ k
  sB : B ≤ w.heap.size
/-- what a writer's calls leave: all below B, and all that is neither the writer nor bytes -/
structure Wrote (B k : Nat) (w w' : World) : Prop where
  os : w'.os = w.os
  tape : w'.tape = w.tape
  output : w'.output = w.output
  size : w.heap.size ≤ w'.heap.size
  block : ∀ n, n < w.heap.size → n ≠ k → (n < B ∨ ∀ cur, w.heap[n]? ≠ some (.cells cur 5 (0, 0))) → w'.heap[n]? = w.heap[n]?
theorem Wrote.of_below {B k : Nat} {w w' : World} (h : Below w.heap.size w w') : Wrote B k w w' := ⟨h.os, h.tape, h.output, h.size, fun n hn _ _ => h.block n hn⟩
theorem Wrote.refl (B k : Nat) (w : World) : Wrote B k w w := ⟨rfl, rfl, rfl, Nat.le_refl _, fun _ _ _ _ => rfl⟩
theorem Wrote.trans {B k : Nat} {a b c : World} (h : Wrote B k a b) (g : Wrote B k b c) : Wrote B k a c :=
  ⟨g.os.trans h.os, g.tape.trans h.tape, g.output.trans h.output, Nat.le_trans h.size g.size, fun n hn hk ht => by
    have e := h.block n hn hk ht
    exact (g.block n (Nat.lt_of_lt_of_le hn h.size) hk (ht.imp id fun ht cur => by rw [e]; exact ht cur)).trans e⟩
theorem Wrote.below {B k : Nat} {w w' : World} (h : Wrote B k w w') (hk : B ≤ k) (hB : B ≤ w.heap.size) : Below B w w' := ⟨h.os, h.tape, h.output, h.size, fun n hn => h.block n (by omega) (by omega) (.inl hn)⟩
theorem Wrote.cell {B k : Nat} {w w' : World} (h : Wrote B k w w') {p : Addr} (hp : p.block < w.heap.size) (hk : p.block ≠ k) (hB : p.block < B ∨ ∀ cur, w.heap[p.block]? ≠ some (.cells cur 5 (0, 0))) : w'.cell? p = w.cell? p := World.cell?_of_block (h.block _ hp hk hB)
theorem WrP.below {w w' : World} {B k : Nat} {s : WS} (h : WrP w B k s) (hb : Below w.heap.size w w') : WrP w' B k s := by
  obtain ⟨v, hk, ho⟩ := h.ex
  exact ⟨⟨v, (hb.block k (lt_of_heap hk)).trans hk, row_same ho fun n hn => hb.block n (ho.lt n hn).2⟩, h.len, h.kB, Nat.le_trans h.sB hb.size⟩
theorem wput_full {l : List UInt8} {x : List UInt8} : wput (l, true) x = (l, true) := by simp [wput]
theorem wput_len {s : WS} {x : List UInt8} (h : s.1.length ≤ 8192) : (wput s x).1.length ≤ 8192 := by
  unfold wput
  split
  · exact h
  · rename_i hn
    simp only [List.length_append]
    omega
set_option maxHeartbeats 4000000 in
set_option maxRecDepth 100000 in
/-- put -/
theorem wr_put (B k : Nat) (s : WS) (x : List UInt8) (v : Value) (w : World) (h : WrP w B k s) (hx : Rd w w.heap.size v x) (hl : x.length ≤ 140737488340000) :
    Calls Try.prog 152 #[.pointer (some ⟨k, 0, none⟩), v] w fun e w' => e = .returned (.tuple #[]) ∧ WrP w' B k (wput s x) ∧ Wrote B k w w' := by
  obtain ⟨l, full⟩ := s
  obtain ⟨vb, hk, ho⟩ := h.ex
  dsimp only at hk ho
  have hll := h.len
  dsimp only at hll
  obtain ⟨Ab, cb, rfl⟩ := own_slice ho
  obtain ⟨Ax, cx, rfl, hx1, hx2, hx3, hx4⟩ := hx
  have hx : Rd w w.heap.size (.slice Ax x.length cx) x := ⟨Ax, cx, rfl, hx1, hx2, hx3, hx4⟩
  obtain ⟨c0, c1⟩ : w.cell? ⟨k, 0, none⟩ = some (.slice Ab l.length cb) ∧ w.cell? ⟨k, 1, none⟩ = some (.bool full) := ⟨(blk_cells hk).1 0, (blk_cells hk).1 1⟩
  have f1 : w.frozen? ⟨k, 1, none⟩ = false := (blk_cells hk).2 1
  have hset : ∀ b : Bool, (w.setCell ⟨k, 1, none⟩ (.bool b)).heap[k]? = some (.cells #[.slice Ab l.length cb, .bool b] 70 (0, 0)) := fun b => by rw [Joins.block_setCell hk _]; rfl
  have far : ∀ (b : Bool) n, n ≠ k → (w.setCell ⟨k, 1, none⟩ (.bool b)).heap[n]? = w.heap[n]? := fun b n hn => Below.heap_setCell w ⟨k, 1, none⟩ _ n hn
  have hkn : ∀ n, (Value.slice Ab l.length cb).ownBlock = some n → n ≠ k := fun n hn e => by
    subst e
    obtain ⟨cur, hc⟩ := row_type ho hn
    exact apart_T hc hk (by decide) rfl
  have hrow : ∀ b : Bool, (w.setCell ⟨k, 1, none⟩ (.bool b)).ownsRow B 5 1 (.slice Ab l.length cb) l.length (BS l) := fun b => row_same ho fun n hn => far b n (hkn n hn)
  have hw1 : ∀ b : Bool, Wrote B k w (w.setCell ⟨k, 1, none⟩ (.bool b)) := fun b => ⟨rfl, rfl, rfl, by simp [World.setCell], fun n _ hn _ => far b n hn⟩
  have hp1 : ∀ b : Bool, WrP (w.setCell ⟨k, 1, none⟩ (.bool b)) B k (l, b) := fun b => ⟨⟨_, hset b, hrow b⟩, hll, h.kB, by simp only [World.setCell, Array.size_modify]; exact h.sB⟩
  have HSB := Lib.hid (And.intro h.sB h.kB)
  cases full with
  | true =>
    have HF : Hid (WrP (w.setCell ⟨k, 1, none⟩ (.bool true)) B k (wput (l, true) x) ∧ Wrote B k w (w.setCell ⟨k, 1, none⟩ (.bool true))) := Lib.hid ⟨by rw [wput_full]; exact hp1 true, hw1 true⟩
    have d1 : (w.setCell ⟨k, 1, none⟩ (.bool true)).cell? ⟨k, 1, none⟩ = some (.bool true) := (blk_cells (hset true)).1 1
    clear h hk ho hx hx1 hx2 hx3 hx4 hset far hkn hrow hw1 hp1
    go_enter Try.func152, Try.ntmps152
    go_wp2_with fail
    go_end0
    exact ⟨rfl, HF.out.1, HF.out.2⟩
  | false =>
    by_cases hb : 8192 < l.length + x.length
    · have a1 : (8192 : Int) < (l.length : Int) + (x.length : Int) := by omega
      have HF : Hid (WrP (w.setCell ⟨k, 1, none⟩ (.bool true)) B k (wput (l, false) x) ∧ Wrote B k w (w.setCell ⟨k, 1, none⟩ (.bool true))) := Lib.hid ⟨by
        have e : wput (l, false) x = (l, true) := by unfold wput; rw [if_pos (.inr hb)]
        rw [e]
        exact hp1 true, hw1 true⟩
      have d1 : (w.setCell ⟨k, 1, none⟩ (.bool true)).cell? ⟨k, 1, none⟩ = some (.bool true) := (blk_cells (hset true)).1 1
      clear h hk ho hx hx1 hx2 hx3 hx4 hset far hkn hrow hw1 hp1
      go_enter Try.func152, Try.ntmps152
      go_wp2_with fail
      go_end0
      exact ⟨rfl, HF.out.1, HF.out.2⟩
    · have a1 : ¬ (8192 : Int) < (l.length : Int) + (x.length : Int) := by omega
      have e : wput (l, false) x = (l ++ x, false) := by unfold wput; rw [if_neg (by simp; omega)]
      obtain ⟨w1, hwe⟩ : ∃ w1, w1 = w.setCell ⟨k, 1, none⟩ (.bool false) := ⟨_, rfl⟩
      have hk1 := hset false
      have ho1 := hrow false
      have hW1 := hw1 false
      have hf1 := far false
      rw [← hwe] at hk1 ho1 hW1 hf1
      have d1 : w1.cell? ⟨k, 1, none⟩ = some (.bool false) := (blk_cells hk1).1 1
      have d0 : w1.cell? ⟨k, 0, none⟩ = some (.slice Ab l.length cb) := (blk_cells hk1).1 0
      have hsz1 : w1.heap.size = w.heap.size := by rw [hwe]; simp [World.setCell]
      have hx' : Rd w1 w1.heap.size (.slice Ax x.length cx) x := by
        refine ⟨Ax, cx, rfl, hx1, hx2, hx3, fun hne => ?_⟩
        obtain ⟨b, o, hA, hbl, hc⟩ := hx4 hne
        refine ⟨b, o, hA, by rw [hsz1]; exact hbl, fun i y hi => ?_⟩
        by_cases hbk : b = k
        · exfalso
          subst hbk
          have h1 := hc i y hi
          rw [(blk_cells hk).1] at h1
          match hoi : o + i, h1 with
          | 0, h1 => simp at h1
          | 1, h1 => simp at h1
          | n + 2, h1 => simp at h1
        · rw [World.cell?_of_block (hf1 b hbk)]
          exact hc i y hi
      obtain ⟨i0, hi, hz0, hz1, hz2⟩ := info_parts (info_u8)
      obtain ⟨v2, w2, hr, ho2, hg2⟩ := run_app (P := Try.prog) (w := w1) B 23 23 5 i0 Try.underlying23 hi hz0 hz1 hz2 _ _ l x l.length ho1 w1.heap.size hx' (by omega) (by rw [hsz1]; exact h.sB)
      obtain ⟨A2, c2, rfl⟩ := own_slice ho2
      have hkn1 : (Value.slice Ab l.length cb).ownBlock ≠ some k := fun hn => hkn k hn rfl
      have hk2 := (hg2.block k (lt_of_heap hk1) (fun e => hkn1 e.symm)).trans hk1
      have d2 : w2.cell? ⟨k, 0, none⟩ = some (.slice Ab l.length cb) := (blk_cells hk2).1 0
      have f2 : w2.frozen? ⟨k, 0, none⟩ = false := (blk_cells hk2).2 0
      have f1' : w1.frozen? ⟨k, 0, none⟩ = false := (blk_cells hk1).2 0
      have hset2 : (w2.setCell ⟨k, 0, none⟩ (.slice A2 (l.length + x.length) c2)).heap[k]? = some (.cells #[.slice A2 (l.length + x.length) c2, .bool false] 70 (0, 0)) := by rw [Joins.block_setCell hk2 _]; rfl
      have far2 : ∀ n, n ≠ k → (w2.setCell ⟨k, 0, none⟩ (.slice A2 (l.length + x.length) c2)).heap[n]? = w2.heap[n]? := fun n hn => Below.heap_setCell w2 ⟨k, 0, none⟩ _ n hn
      have ho3 : (w2.setCell ⟨k, 0, none⟩ (.slice A2 (l.length + x.length) c2)).ownsRow B 5 1 (.slice A2 (l.length + x.length) c2) (l.length + x.length) (BS (l ++ x)) := row_same ho2 fun n hn => far2 n fun e => by
        subst e
        obtain ⟨cur, hc⟩ := row_type ho2 hn
        exact apart_T hc hk2 (by decide) rfl
      have hW2 : Wrote B k w1 (w2.setCell ⟨k, 0, none⟩ (.slice A2 (l.length + x.length) c2)) := ⟨hg2.os, hg2.tape, hg2.output, by simp only [World.setCell, Array.size_modify]; exact hg2.size, fun n hn hnk ht => (far2 n hnk).trans (hg2.block n hn fun e => by
        obtain ⟨cur, hc⟩ := row_type ho1 e.symm
        rcases ht with ht | ht
        · have := (ho1.lt n e.symm).1; omega
        · exact ht cur hc)⟩
      have HF : Hid (WrP (w2.setCell ⟨k, 0, none⟩ (.slice A2 (l.length + x.length) c2)) B k (wput (l, false) x) ∧ Wrote B k w (w2.setCell ⟨k, 0, none⟩ (.slice A2 (l.length + x.length) c2))) := Lib.hid ⟨by
        rw [e]
        refine ⟨⟨_, hset2, by simpa using ho3⟩, by simp; omega, HSB.out.2, ?_⟩
        have := hg2.size
        have := HSB.out.1
        simp only [World.setCell, Array.size_modify]
        omega, hW1.trans hW2⟩
      have HR := Lib.hid hr
      have HWE := Lib.hid hwe
      clear h hk ho hx hx1 hx2 hx3 hx4 hset far hkn hrow hw1 hp1 hwe hk1 ho1 hW1 hf1 hsz1 hx' hi hz0 hz1 hz2 hr ho2 hg2 hkn1 hk2 hset2 far2 ho3 hW2 e
      go_enter Try.func152, Try.ntmps152
      go_upto_region 1 with fail
      rw [← HWE.out]
      go_wp2_with (at_builtin; go_must (refine Lib.wpList_append_run _ rfl (.tmp 31) (.tmp 32) 23 23 rfl _ _ rfl rfl _ _ HR.out ?_))
      go_end0
      exact ⟨rfl, HF.out.1, HF.out.2⟩
end Go.Proofs.Ytblbcoknefgcaaa
