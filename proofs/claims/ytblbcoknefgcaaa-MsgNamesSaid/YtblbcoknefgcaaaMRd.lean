/-
  The program's reader of messages: what is read, plainly; its methods. No statement is proved here. No condition.
-/
import Derived.Test.YtblbcoknefgcaaaReaderC
import Derived.Test.YtblbcoknefgcaaaMEncD
namespace Go.Proofs.Ytblbcoknefgcaaa
open Go.RowKit

/-- what is left to be read -/
abbrev RS := Option (List UInt8)
def rK (st : RS) : Int × RS := told 0 (gCount 255) st
def rN (st : RS) : Int × RS := told 0 gNum st
def rF (st : RS) : Bool × RS := told false gFlag st
def rS (st : RS) : ByteArray × RS := (⟨(told [] (gStr 8192) st).1.toArray⟩, (told [] (gStr 8192) st).2)
def rL (st : RS) : Int × RS := told 0 (gCount ((st.getD []).length : Int)) st
theorem told_range {α : Type} {z : α} {g : List UInt8 → Option (α × List UInt8)} {p : α → Prop} (hz : p z) (hg : ∀ l a t, g l = some (a, t) → p a) (st : RS) : p (told z g st).1 := by
  cases st with
  | none => exact hz
  | some l =>
    cases h : g l with
    | none => rw [told_none h]; exact hz
    | some q => rw [told_some (a := q.1) (t := q.2) h]; exact hg l q.1 q.2 h
theorem rK_range (st : RS) : 0 ≤ (rK st).1 ∧ (rK st).1 ≤ 255 := told_range (p := fun n => 0 ≤ n ∧ n ≤ 255) (by omega) (fun l a t h => by
  obtain ⟨q, h1, h2, h3⟩ := gCount_nat h
  omega) st
theorem rL_range (st : RS) : 0 ≤ (rL st).1 ∧ (rL st).1 ≤ 2147483647 := told_range (p := fun n => 0 ≤ n ∧ n ≤ 2147483647) (by omega) (fun l a t h => by
  obtain ⟨q, h1, h2, h3⟩ := gCount_nat h
  omega) st
theorem rN_range (st : RS) : I64 (rN st).1 := told_range (p := I64) (by unfold I64; omega) (fun l a t h => by
  unfold gNum at h
  cases hg : getU 0 0 l with
  | none => rw [hg] at h; cases h
  | some q =>
    rw [hg] at h
    simp only [Option.some.injEq, Prod.mk.injEq] at h
    rw [← h.1]
    have := getU_fits l 0 0 q.1 q.2 (by omega) (by decide) hg
    unfold U64 at this
    unfold I64 unzz
    split <;> omega) st
/-- cells of one block are written, in their order; besides, nothing that was there turns but the reader -/
structure SetTo (w w' : World) (b R o : Nat) (vs : List Value) : Prop where
  os : w'.os = w.os
  tape : w'.tape = w.tape
  output : w'.output = w.output
  size : w.heap.size ≤ w'.heap.size
  block : ∀ k, k < w.heap.size → k ≠ b → k ≠ R → w'.heap[k]? = w.heap[k]?
  blk : ∀ cs T, w.heap[b]? = some (.cells cs T (0, 0)) → ∃ cs' : Array Value, w'.heap[b]? = some (.cells cs' T (0, 0)) ∧ cs'.size = cs.size ∧ (∀ j, (j < o ∨ o + vs.length ≤ j) → cs'[j]? = cs[j]?) ∧ (o + vs.length ≤ cs.size → ∀ j v, vs[j]? = some v → cs'[o + j]? = some v)
section
variable {w w1 w' : World} {b R o : Nat} {vs us : List Value}
theorem SetTo.trans (h : SetTo w w1 b R o vs) (g : SetTo w1 w' b R (o + vs.length) us) : SetTo w w' b R o (vs ++ us) := by
  refine ⟨g.os.trans h.os, g.tape.trans h.tape, g.output.trans h.output, Nat.le_trans h.size g.size, fun k hk h1 h2 => (g.block k (Nat.lt_of_lt_of_le hk h.size) h1 h2).trans (h.block k hk h1 h2), fun cs T hc => ?_⟩
  obtain ⟨c1, a1, a2, a3, a4⟩ := h.blk cs T hc
  obtain ⟨c2, b1, b2, b3, b4⟩ := g.blk c1 T a1
  rw [List.length_append]
  refine ⟨c2, b1, b2.trans a2, fun j hj => (b3 j (by omega)).trans (a3 j (by omega)), fun hs j v hj => ?_⟩
  by_cases hjl : j < vs.length
  · rw [b3 (o + j) (by omega)]
    exact a4 (by omega) j v (by rwa [List.getElem?_append_left hjl] at hj)
  · rw [List.getElem?_append_right (by omega)] at hj
    have := b4 (by omega) (j - vs.length) v hj
    rwa [show o + vs.length + (j - vs.length) = o + j by omega] at this
theorem SetTo.nil_any (h : SetTo w w' b R o []) (q : Nat) : SetTo w w' b R q [] := ⟨h.os, h.tape, h.output, h.size, h.block, fun cs T hc => by
  obtain ⟨c1, a1, a2, a3, -⟩ := h.blk cs T hc
  exact ⟨c1, a1, a2, fun j _ => a3 j (by simp; omega), fun _ j v hj => by cases hj⟩⟩
theorem SetTo.pre (h : SetTo w w1 b R o []) (g : SetTo w1 w' b R o vs) : SetTo w w' b R o vs := by
  have := h.trans (us := vs) (by simpa using g)
  simpa using this
theorem SetTo.post (h : SetTo w w1 b R o vs) (g : SetTo w1 w' b R o []) : SetTo w w' b R o vs := by
  have := h.trans (g.nil_any (o + vs.length))
  simpa using this
theorem SetTo.of_below (hb : Below w.heap.size w w') (b R o : Nat) : SetTo w w' b R o [] :=
  ⟨hb.os, hb.tape, hb.output, hb.size, fun k hk _ _ => hb.block k hk, fun cs T hc => ⟨cs, (hb.block b (lt_of_heap hc)).trans hc, rfl, fun _ _ => rfl, fun _ j v hj => by cases hj⟩⟩
theorem SetTo.of_grown (hg : w.grownBy w' (some R)) (hne : b ≠ R) (o : Nat) : SetTo w w' b R o [] :=
  ⟨hg.os, hg.tape, hg.output, hg.size, fun k hk _ h2 => hg.block k hk fun e => h2 (by injection e), fun cs T hc => ⟨cs, (hg.block b (lt_of_heap hc) fun e => hne (by injection e)).trans hc, rfl, fun _ _ => rfl, fun _ j v hj => by cases hj⟩⟩
theorem SetTo.store {cs : Array Value} {T : TypeId} (h : SetTo w w1 b R o []) (hk : w1.heap[b]? = some (.cells cs T (0, 0))) (v : Value) : SetTo w (w1.setCell ⟨b, o, none⟩ v) b R o [v] := by
  refine h.pre ⟨rfl, rfl, rfl, by simp [World.setCell], fun k _ h1 _ => Below.heap_setCell w1 ⟨b, o, none⟩ _ k h1, fun c1 T1 hc => ?_⟩
  rw [hk] at hc
  have hc := Option.some.inj hc
  injection hc with e1 e2
  subst e1 e2
  refine ⟨cs.setIfInBounds o v, Joins.block_setCell hk v, by simp, fun j hj => ?_, fun hs j u hj => ?_⟩
  · rw [Array.getElem?_setIfInBounds_ne (by simp at hj; omega)]
  · match j, hj with
    | 0, hj => simp at hj hs; subst hj; rw [Nat.add_zero, Array.getElem?_setIfInBounds_self]; simp; omega
end
theorem Rdr.keepB {w w' : World} {R : Nat} {st : RS} (h : Rdr 151 w R st) (hb : Below (R + 1) w w') : Rdr 151 w' R st := by
  obtain ⟨v, hh, hr⟩ := h
  exact ⟨v, (hb.block R (Nat.lt_succ_self R)).trans hh, hr.keep (Nat.le_refl _) fun p hp => hb.cell (by omega)⟩
theorem Rdr.setB {w : World} {R b o : Nat} {st : RS} (h : Rdr 151 w R st) (hR : R < b) (v : Value) : Rdr 151 (w.setCell ⟨b, o, none⟩ v) R st := h.keepB ((Below.refl _ _).setCell hR v)
theorem Rdr.grow {w w' : World} {R : Nat} {st : RS} (h : Rdr 151 w R st) (hb : Below w.heap.size w w') : Rdr 151 w' R st := h.keepB (Joins.below_le hb h.lt)
/-- a cell to be written -/
structure CellOf (w : World) (R b o n : Nat) : Prop where
  lt : R < b
  ex : ∃ cs T, w.heap[b]? = some (.cells cs T (0, 0)) ∧ o + n ≤ cs.size
theorem CellOf.same {w w' : World} {R b o n : Nat} {q : Nat} {vs : List Value} (h : CellOf w R b o n) (hs : SetTo w w' b R q vs) : CellOf w' R b o n := by
  obtain ⟨cs, T, h1, h2⟩ := h.ex
  obtain ⟨c1, a1, a2, -⟩ := hs.blk cs T h1
  exact ⟨h.lt, c1, T, a1, by rw [a2]; exact h2⟩
theorem CellOf.sub {w : World} {R b o n : Nat} (h : CellOf w R b o n) {k m : Nat} (hk : k + m ≤ n) : CellOf w R b (o + k) m := by
  obtain ⟨cs, T, h1, h2⟩ := h.ex
  exact ⟨h.lt, cs, T, h1, by omega⟩
/-- read, and written there -/
structure RdTo (w w' : World) (R b o : Nat) (st : RS) (vs : List Value) : Prop where
  rd : Rdr 151 w' R st
  set : SetTo w w' b R o vs
set_option maxHeartbeats 1000000 in
set_option maxRecDepth 100000 in
theorem r_kind (R b o : Nat) (st : RS) (w : World) (h : Rdr 151 w R st) (hc : CellOf w R b o 1) :
    Calls Try.prog 161 #[.agg #[.pointer (some ⟨R, 0, none⟩)], .pointer (some ⟨b, o, none⟩)] w fun e w' => e = .returned (.tuple #[]) ∧ RdTo w w' R b o (rK st).2 [.int .u8 (rK st).1] := by
  have HRG := Lib.hid (rK_range st)
  unfold rK
  obtain ⟨w1, hw1⟩ : ∃ w1, w1 = w.alloc (.cells #[.pointer (some ⟨R, 0, none⟩)] 77) := ⟨_, rfl⟩
  have hb1 : Below w.heap.size w w1 := by rw [hw1]; exact (Below.refl _ _).alloc (Nat.le_refl _) _
  obtain ⟨p, hp⟩ : ∃ p, p = w.heap.size := ⟨_, rfl⟩
  have hx1 : w1.heap[p]? = some (.cells #[.pointer (some ⟨R, 0, none⟩)] 77 (0, 0)) := by rw [hw1, hp]; exact heap_alloc_new w _
  have p0 := (blk_cells hx1).1 0
  have H := Lib.hid h
  have HB := Lib.hid hb1
  have HC := Lib.hid hc
  have c := Count_any R 255 st w1 (H.out.grow HB.out)
  have HRN : Hid (0 ≤ (told (0 : Int) (gCount 255) st).1 ∧ (told (0 : Int) (gCount 255) st).1 ≤ 255) := HRG
  obtain ⟨⟨n, st2⟩, hn⟩ : ∃ q, q = told (0 : Int) (gCount 255) st := ⟨_, rfl⟩
  rw [← hn] at c HRN ⊢
  clear hn
  have HW := Lib.hid (And.intro hw1 hp)
  have HX := Lib.hid hx1
  clear h hb1 hc hw1 hp hx1
  go_enter Try.func161, Try.ntmps161
  go_upto_region 1 with fail
  rw [← HW.out.1, ← HW.out.2]
  go_wp2_with fail
  refine c.mono ?_
  rintro e w2 ⟨rfl, hg, hr⟩
  clear c
  have hs0 : SetTo w w2 b R o [] := (SetTo.of_below HB.out b R o).pre (SetTo.of_grown hg (by have := HC.out.lt; omega) o)
  obtain ⟨cs, T, hk, ho⟩ := (HC.out.same hs0).ex
  have hf0 : w2.frozen? ⟨b, o, none⟩ = false := (blk_cells hk).2 o
  obtain ⟨y, hy⟩ : ∃ y, w2.cell? ⟨b, o, none⟩ = some y := ⟨cs[o]'(by omega), by rw [(blk_cells hk).1 o]; exact Array.getElem?_eq_getElem _⟩
  have HF : Hid (RdTo w (w2.setCell ⟨b, o, none⟩ (.int .u8 n)) R b o st2 [.int .u8 n]) := Lib.hid ⟨Rdr.setB hr HC.out.lt _, hs0.store hk _⟩
  have hwr : IntKind.u8.wrap n = n := by have := HRN.out; simp [IntKind.wrap, IntKind.bits, IntKind.signed] at *; omega
  clear hs0 hk ho hg hr
  go_wp2_with fail
  go_end0
  exact ⟨rfl, HF.out⟩
set_option maxHeartbeats 1000000 in
set_option maxRecDepth 100000 in
theorem r_flag (R b o : Nat) (st : RS) (w : World) (h : Rdr 151 w R st) (hc : CellOf w R b o 1) :
    Calls Try.prog 160 #[.agg #[.pointer (some ⟨R, 0, none⟩)], .pointer (some ⟨b, o, none⟩)] w fun e w' => e = .returned (.tuple #[]) ∧ RdTo w w' R b o (rF st).2 [.bool (rF st).1] := by
  unfold rF
  obtain ⟨w1, hw1⟩ : ∃ w1, w1 = w.alloc (.cells #[.pointer (some ⟨R, 0, none⟩)] 77) := ⟨_, rfl⟩
  have hb1 : Below w.heap.size w w1 := by rw [hw1]; exact (Below.refl _ _).alloc (Nat.le_refl _) _
  obtain ⟨p, hp⟩ : ∃ p, p = w.heap.size := ⟨_, rfl⟩
  have hx1 : w1.heap[p]? = some (.cells #[.pointer (some ⟨R, 0, none⟩)] 77 (0, 0)) := by rw [hw1, hp]; exact heap_alloc_new w _
  have p0 := (blk_cells hx1).1 0
  have H := Lib.hid h
  have HB := Lib.hid hb1
  have HC := Lib.hid hc
  have c := Flag_any R st w1 (H.out.grow HB.out)
  obtain ⟨⟨n, st2⟩, hn⟩ : ∃ q, q = told false gFlag st := ⟨_, rfl⟩
  rw [← hn] at c ⊢
  clear hn
  have HW := Lib.hid (And.intro hw1 hp)
  have HX := Lib.hid hx1
  clear h hb1 hc hw1 hp hx1
  go_enter Try.func160, Try.ntmps160
  go_upto_region 1 with fail
  rw [← HW.out.1, ← HW.out.2]
  go_wp2_with fail
  refine c.mono ?_
  rintro e w2 ⟨rfl, hg, hr⟩
  clear c
  have hs0 : SetTo w w2 b R o [] := (SetTo.of_below HB.out b R o).pre (SetTo.of_grown hg (by have := HC.out.lt; omega) o)
  obtain ⟨cs, T, hk, ho⟩ := (HC.out.same hs0).ex
  have hf0 : w2.frozen? ⟨b, o, none⟩ = false := (blk_cells hk).2 o
  obtain ⟨y, hy⟩ : ∃ y, w2.cell? ⟨b, o, none⟩ = some y := ⟨cs[o]'(by omega), by rw [(blk_cells hk).1 o]; exact Array.getElem?_eq_getElem _⟩
  have HF : Hid (RdTo w (w2.setCell ⟨b, o, none⟩ (.bool n)) R b o st2 [.bool n]) := Lib.hid ⟨Rdr.setB hr HC.out.lt _, hs0.store hk _⟩
  clear hs0 hk ho hg hr
  go_wp2_with fail
  go_end0
  exact ⟨rfl, HF.out⟩
set_option maxHeartbeats 1000000 in
set_option maxRecDepth 100000 in
theorem r_text (R b o : Nat) (st : RS) (w : World) (h : Rdr 151 w R st) (hc : CellOf w R b o 1) :
    Calls Try.prog 165 #[.agg #[.pointer (some ⟨R, 0, none⟩)], .pointer (some ⟨b, o, none⟩)] w fun e w' => e = .returned (.tuple #[]) ∧ RdTo w w' R b o (rS st).2 [.string (rS st).1] := by
  unfold rS
  obtain ⟨w1, hw1⟩ : ∃ w1, w1 = w.alloc (.cells #[.pointer (some ⟨R, 0, none⟩)] 77) := ⟨_, rfl⟩
  have hb1 : Below w.heap.size w w1 := by rw [hw1]; exact (Below.refl _ _).alloc (Nat.le_refl _) _
  obtain ⟨p, hp⟩ : ∃ p, p = w.heap.size := ⟨_, rfl⟩
  have hx1 : w1.heap[p]? = some (.cells #[.pointer (some ⟨R, 0, none⟩)] 77 (0, 0)) := by rw [hw1, hp]; exact heap_alloc_new w _
  have p0 := (blk_cells hx1).1 0
  have H := Lib.hid h
  have HB := Lib.hid hb1
  have HC := Lib.hid hc
  have c := Str_any R 8192 st w1 (H.out.grow HB.out)
  obtain ⟨⟨n, st2⟩, hn⟩ : ∃ q, q = told [] (gStr 8192) st := ⟨_, rfl⟩
  rw [← hn] at c ⊢
  clear hn
  have HW := Lib.hid (And.intro hw1 hp)
  have HX := Lib.hid hx1
  clear h hb1 hc hw1 hp hx1
  go_enter Try.func165, Try.ntmps165
  go_upto_region 1 with fail
  rw [← HW.out.1, ← HW.out.2]
  go_wp2_with fail
  refine c.mono ?_
  rintro e w2 ⟨rfl, hg, hr⟩
  clear c
  have hs0 : SetTo w w2 b R o [] := (SetTo.of_below HB.out b R o).pre (SetTo.of_grown hg (by have := HC.out.lt; omega) o)
  obtain ⟨cs, T, hk, ho⟩ := (HC.out.same hs0).ex
  have hf0 : w2.frozen? ⟨b, o, none⟩ = false := (blk_cells hk).2 o
  obtain ⟨y, hy⟩ : ∃ y, w2.cell? ⟨b, o, none⟩ = some y := ⟨cs[o]'(by omega), by rw [(blk_cells hk).1 o]; exact Array.getElem?_eq_getElem _⟩
  have HF : Hid (RdTo w (w2.setCell ⟨b, o, none⟩ (.string ⟨n.toArray⟩)) R b o st2 [.string ⟨n.toArray⟩]) := Lib.hid ⟨Rdr.setB hr HC.out.lt _, hs0.store hk _⟩
  clear hs0 hk ho hg hr
  go_wp2_with fail
  go_end0
  exact ⟨rfl, HF.out⟩
set_option maxHeartbeats 1000000 in
set_option maxRecDepth 100000 in
theorem r_num (R b o : Nat) (st : RS) (w : World) (h : Rdr 151 w R st) (hc : CellOf w R b o 1) :
    Calls Try.prog 163 #[.agg #[.pointer (some ⟨R, 0, none⟩)], .pointer (some ⟨b, o, none⟩)] w fun e w' => e = .returned (.tuple #[]) ∧ RdTo w w' R b o (rN st).2 [.int .i64 (rN st).1] := by
  unfold rN
  obtain ⟨w1, hw1⟩ : ∃ w1, w1 = w.alloc (.cells #[.pointer (some ⟨R, 0, none⟩)] 77) := ⟨_, rfl⟩
  have hb1 : Below w.heap.size w w1 := by rw [hw1]; exact (Below.refl _ _).alloc (Nat.le_refl _) _
  obtain ⟨p, hp⟩ : ∃ p, p = w.heap.size := ⟨_, rfl⟩
  have hx1 : w1.heap[p]? = some (.cells #[.pointer (some ⟨R, 0, none⟩)] 77 (0, 0)) := by rw [hw1, hp]; exact heap_alloc_new w _
  have p0 := (blk_cells hx1).1 0
  have H := Lib.hid h
  have HB := Lib.hid hb1
  have HC := Lib.hid hc
  have c := Num_any R st w1 (H.out.grow HB.out)
  obtain ⟨⟨n, st2⟩, hn⟩ : ∃ q, q = told (0 : Int) gNum st := ⟨_, rfl⟩
  rw [← hn] at c ⊢
  clear hn
  have HW := Lib.hid (And.intro hw1 hp)
  have HX := Lib.hid hx1
  clear h hb1 hc hw1 hp hx1
  go_enter Try.func163, Try.ntmps163
  go_upto_region 1 with fail
  rw [← HW.out.1, ← HW.out.2]
  go_wp2_with fail
  refine c.mono ?_
  rintro e w2 ⟨rfl, hg, hr⟩
  clear c
  have hs0 : SetTo w w2 b R o [] := (SetTo.of_below HB.out b R o).pre (SetTo.of_grown hg (by have := HC.out.lt; omega) o)
  obtain ⟨cs, T, hk, ho⟩ := (HC.out.same hs0).ex
  have hf0 : w2.frozen? ⟨b, o, none⟩ = false := (blk_cells hk).2 o
  obtain ⟨y, hy⟩ : ∃ y, w2.cell? ⟨b, o, none⟩ = some y := ⟨cs[o]'(by omega), by rw [(blk_cells hk).1 o]; exact Array.getElem?_eq_getElem _⟩
  have HF : Hid (RdTo w (w2.setCell ⟨b, o, none⟩ (.int .i64 n)) R b o st2 [.int .i64 n]) := Lib.hid ⟨Rdr.setB hr HC.out.lt _, hs0.store hk _⟩
  have hd : (w2.setCell ⟨b, o, none⟩ (.int .i64 n)).cell? ⟨b, o, none⟩ = some (.int .i64 n) := by
    rw [(blk_cells (Joins.block_setCell hk _)).1 o, Array.getElem?_setIfInBounds_self]
    simp
    omega
  clear hs0 hk ho hg hr
  go_wp2_with fail
  go_end0
  exact ⟨rfl, HF.out⟩
set_option maxHeartbeats 1000000 in
theorem r_stopped (R : Nat) (st : RS) (w : World) (h : Rdr 151 w R st) :
    Calls Try.prog 164 #[.agg #[.pointer (some ⟨R, 0, none⟩)]] w fun e w' => e = .returned (.bool (!st.isSome)) ∧ Below w.heap.size w w' := by
  obtain ⟨w1, hw1⟩ : ∃ w1, w1 = w.alloc (.cells #[.pointer (some ⟨R, 0, none⟩)] 77) := ⟨_, rfl⟩
  have hb1 : Below w.heap.size w w1 := by rw [hw1]; exact (Below.refl _ _).alloc (Nat.le_refl _) _
  obtain ⟨p, hp⟩ : ∃ p, p = w.heap.size := ⟨_, rfl⟩
  have hx1 : w1.heap[p]? = some (.cells #[.pointer (some ⟨R, 0, none⟩)] 77 (0, 0)) := by rw [hw1, hp]; exact heap_alloc_new w _
  have p0 := (blk_cells hx1).1 0
  have c := ok_any R st w1 (h.grow hb1)
  have HB := Lib.hid hb1
  have HW := Lib.hid (And.intro hw1 hp)
  obtain ⟨q, hq⟩ : ∃ q, q = st.isSome := ⟨_, rfl⟩
  rw [← hq] at c ⊢
  clear h hb1 hw1 hp hx1 hq
  go_enter Try.func164, Try.ntmps164
  go_upto_region 1 with fail
  rw [← HW.out.1, ← HW.out.2]
  go_wp2_with fail
  refine c.mono ?_
  rintro e w2 ⟨rfl, rfl⟩
  go_wp2_with fail
  go_ret
  exact ⟨rfl, HB.out⟩
set_option maxHeartbeats 1000000 in
set_option maxRecDepth 100000 in
theorem r_many (R b : Nat) (k : Int) (st : RS) (w : World) (h : Rdr 151 w R st) (hb : R < b) :
    Calls Try.prog 162 #[.agg #[.pointer (some ⟨R, 0, none⟩)], .int .i64 k] w fun e w' => e = .returned (.int .i64 (rL st).1) ∧ RdTo w w' R b 0 (rL st).2 [] := by
  unfold rL
  obtain ⟨w1, hw1⟩ : ∃ w1, w1 = w.alloc (.cells #[.pointer (some ⟨R, 0, none⟩)] 77) := ⟨_, rfl⟩
  have hb1 : Below w.heap.size w w1 := by rw [hw1]; exact (Below.refl _ _).alloc (Nat.le_refl _) _
  obtain ⟨p, hp⟩ : ∃ p, p = w.heap.size := ⟨_, rfl⟩
  have hx1 : w1.heap[p]? = some (.cells #[.pointer (some ⟨R, 0, none⟩)] 77 (0, 0)) := by rw [hw1, hp]; exact heap_alloc_new w _
  have hne : p ≠ R := by have := h.lt; omega
  have H := Lib.hid (And.intro h hb)
  have HB := Lib.hid hb1
  have HW := Lib.hid (And.intro hw1 hp)
  have HX := Lib.hid (And.intro hx1 hne)
  have p0 := (blk_cells hx1).1 0
  clear h hb hb1 hw1 hp hx1 hne
  go_enter Try.func162, Try.ntmps162
  go_upto_region 1 with fail
  rw [← HW.out.1, ← HW.out.2]
  have hst : w1.cell? ⟨p, 0, none⟩ = some (.pointer (some ⟨R, 0, none⟩)) := p0
  have HR : Hid (∀ W : World, W.heap = w1.heap → Rdr 151 W R st) := Lib.hid fun W hW => by
    obtain ⟨v, hh, hr⟩ := H.out.1.grow HB.out
    exact ⟨v, by rw [hW]; exact hh, hr.keep (Nat.le_refl _) fun p hp => by simp only [World.cell?, hW]⟩
  go_region_held3 (fun W => W.cell? ⟨p, 0, none⟩ = some (.pointer (some ⟨R, 0, none⟩))) (first | with_reducible exact hst | exact hst | exact hst2)
    (first
      | (go_at_call 96; refine (left_any R st _ (by exact HR.out _ rfl)).mono ?_; rintro e wy ⟨rfl, rfl⟩)
      | (go_at_call 167; refine (Count_any R _ st _ (by exact HR.out _ rfl)).mono ?_; rintro e wy ⟨rfl, hg, hr⟩; have hst2 : wy.cell? ⟨p, 0, none⟩ = some (.pointer (some ⟨R, 0, none⟩)) := (World.cell?_of_block (a := ⟨p, 0, none⟩) (hg.block p (lt_of_heap HX.out.1) fun e => HX.out.2 (by injection e))).trans hst))
  have hs0 : SetTo w wy b R 0 [] := SetTo.pre (by first | exact SetTo.of_below HB.out b R 0 | exact SetTo.of_below HB.out.drew b R 0 | exact SetTo.of_below HB.out.drew.drew b R 0) (SetTo.of_grown hg (by have := H.out.2; omega) 0)
  have HF := Lib.hid (RdTo.mk hr hs0)
  clear hs0 hg hr hst hst2
  go_wp2_with fail
  go_ret
  exact ⟨rfl, HF.out⟩
end Go.Proofs.Ytblbcoknefgcaaa
