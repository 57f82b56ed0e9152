/-
  The walk of the law CodeWrites: numbers, counts, texts and truth values are written as the document says. Conditions: the text has no more than 2147483647 bytes, and what is written has room in the memory that a call may have.
-/
import Derived.Test.YtfpammdpnccciaaRef
import Derived.Deep.DeepCutAuto
namespace Go.Proofs.Ytfpammdpnccciaa
open Go.RowKit

/-- a count's bytes, or none if it may not be -/
def cv (c : Int) : List UInt8 := if 0 ≤ c ∧ c ≤ 2147483647 then uv c.toNat else []
theorem cv_length (c : Int) : (cv c).length ≤ 10 := by
  unfold cv
  split
  · exact uv_length64 _ (by unfold U64; omega)
  · simp

theorem count_all (l : List UInt8) (v : Value) (n : Int) (w : World) (hr : Rd w w.heap.size v l) (hl : l.length ≤ 140737488355318) :
    Calls Try.prog 10 #[v, .int .i64 n] w fun e w' => ∃ v', e = .returned v' ∧ w'.ownsRow w.heap.size 5 1 v' (l ++ cv n).length (BS (l ++ cv n)) ∧ Below w.heap.size w w' := by
  by_cases h : 0 ≤ n ∧ n ≤ 2147483647
  · have e : cv n = uv n.toNat := by unfold cv; rw [if_pos h]
    rw [e]
    exact count_any l v n w hr h.1 h.2 hl
  · have e : cv n = [] := by unfold cv; rw [if_neg h]
    rw [e, List.append_nil]
    exact count_no l v n w hr (by omega) hl
theorem xcount_all (l : List UInt8) (v : Value) (n : Int) (w : World) (hr : Rd w w.heap.size v l) (hl : l.length ≤ 140737488355318) :
    Calls Try.prog 23 #[v, .int .i64 n] w fun e w' => ∃ v', e = .returned v' ∧ w'.ownsRow w.heap.size 5 1 v' (l ++ cv n).length (BS (l ++ cv n)) ∧ Below w.heap.size w w' := by
  by_cases h : 0 ≤ n ∧ n ≤ 2147483647
  · have e : cv n = uv n.toNat := by unfold cv; rw [if_pos h]
    rw [e]
    exact xcount_any l v n w hr h.1 h.2 hl
  · have e : cv n = [] := by unfold cv; rw [if_neg h]
    rw [e, List.append_nil]
    exact xcount_no l v n w hr (by omega) hl

def six (a b c d e f : Nat) : Nat → Nat
  | 0 => a
  | 1 => b
  | 2 => c
  | 3 => d
  | 4 => e
  | _ => f
/-- five of something -/
def five {α : Type} (a b c d e : α) : Nat → α
  | 0 => a
  | 1 => b
  | 2 => c
  | 3 => d
  | _ => e

theorem own_same {w w' : World} {base : Nat} {e : TypeId} {v : Value} {n : Nat} {xs : List Value} (h : w.ownsRow base e 1 v n xs) (hk : ∀ p, v.ownBlock = some p → w'.heap[p]? = w.heap[p]?) : w'.ownsRow base e 1 v n xs := by
  refine ⟨h.1, ?_⟩
  rcases h.2 with hn | ⟨g, cap, cur, rfl, hb, hg, rest⟩
  · exact .inl hn
  · exact .inr ⟨g, cap, cur, rfl, hb, (hk g rfl).trans hg, rest⟩

/-- What lies in memory when both rows of answers are there: the row's blocks in order. -/
structure Laid (ws : World) (n : Nat → Nat) (P M : Nat) (vs ms : Nat → Value) (Ls : Nat → List UInt8) : Prop where
  cellP : ∀ i, i < 5 → ws.cell? ⟨P, i, none⟩ = some (vs i)
  cellM : ∀ i, i < 5 → ws.cell? ⟨M, i, none⟩ = some (ms i)
  own : ∀ i, i < 5 → ws.ownsRow (n i) 5 1 (vs i) (Ls i).length (BS (Ls i))
  top : ∀ i, i < 5 → ∀ k, (vs i).ownBlock = some k → k < n (i + 1)
  other : ∀ i, i < 5 → ws.ownsRow (n 5) 5 1 (ms i) (Ls i).length (BS (Ls i))
  mono : ∀ i, i < 5 → n i ≤ n (i + 1)
  low : ∀ i, i < 6 → n 0 ≤ n i
  high : ∀ i, i < 6 → n i ≤ n 5
  P_ge : n 5 ≤ P
  M_ge : n 5 ≤ M

/-- Outside the rows that were written over the world is as it was. -/
def Wr (n0 top : Nat) (ws w : World) : Prop := w.os = ws.os ∧ w.tape = ws.tape ∧ w.output = ws.output ∧ ws.heap.size ≤ w.heap.size ∧ ∀ p, (p < n0 ∨ top ≤ p) → p < ws.heap.size → w.heap[p]? = ws.heap[p]?

theorem Wr.below {n0 top : Nat} {w0 ws w : World} (h : Wr n0 top ws w) (hb : Below w0.heap.size w0 ws) (hn : w0.heap.size ≤ n0) : Below w0.heap.size w0 w :=
  ⟨h.1.trans hb.os, h.2.1.trans hb.tape, h.2.2.1.trans hb.output, Nat.le_trans hb.size h.2.2.2.1, fun k hk => (h.2.2.2.2 k (.inl (by omega)) (Nat.lt_of_lt_of_le hk hb.size)).trans (hb.block k hk)⟩

set_option maxRecDepth 100000 in
set_option maxHeartbeats 2000000 in
theorem writes_walk (l : List UInt8) (b : Value) (n c : Int) (s : ByteArray) (w : World) (hb : Rd w w.heap.size b l) (hn : I64 n) (hs : s.size ≤ 2147483647) (hl : l.length + s.size ≤ 140737488355318) :
    Calls Try.prog 4 #[b, .int .i64 n, .int .i64 c, .string s] w fun e w' => e = .returned (.bool true) ∧ Below w.heap.size w w' := by
  obtain ⟨i0, hi, hz0, hz1, hz2⟩ := info_parts info_u8
  have HB := Lib.hid hb
  obtain ⟨A, ca, rfl, -⟩ := hb
  have hlit : (w.alloc (.cells #[] 5)).ownsRow w.heap.size 5 1 (.slice (some ⟨w.heap.size, 0, none⟩) 0 0) 0 (BS []) := World.ownsRow_lit w #[] 0 (Nat.le_refl _) (by unfold maxLen; omega) rfl
  have hbl : Below w.heap.size w (w.alloc (.cells #[] 5)) := (Below.refl _ _).alloc (Nat.le_refl _) _
  have hr0 : Rd (w.alloc (.cells #[] 5)) (w.heap.size + 1) (.slice A l.length ca) l := HB.out.below hbl (by omega)
  go_enter Try.func4, Try.ntmps4
  go_wp2_with (first
    | (at_builtin; refine wpList_app rfl (.tmp 14) (.tmp 15) 23 rfl w.heap.size 5 i0 Try.underlying23 hi hz0 hz1 hz2 _ _ [] l 0 rfl rfl hlit _ hr0 (by simp only [List.length_nil]; omega) (by simp) ?_; intro vi w0 ho0 hg0; have hb0 := hbl.grown hg0 hbl.size (fun k h => (hlit.lt k h).1); clear hlit hbl hr0 hg0)
    | fail)
  have hoi := own_as ho0 (List.nil_append l) rfl
  have hri := Rd.own hoi
  clear ho0
  obtain ⟨L1, hL1⟩ : ∃ L, L = l ++ uv (zz n) := ⟨_, rfl⟩
  obtain ⟨L2, hL2⟩ : ∃ L, L = l ++ cv c := ⟨_, rfl⟩
  obtain ⟨L3, hL3⟩ : ∃ L, L = l ++ tv s.data.toList := ⟨_, rfl⟩
  obtain ⟨L4, hL4⟩ : ∃ L, L = l ++ fv true := ⟨_, rfl⟩
  obtain ⟨L5, hL5⟩ : ∃ L, L = l ++ fv false := ⟨_, rfl⟩
  have H1 := Lib.hid hL1
  have H2 := Lib.hid hL2
  have H3 := Lib.hid hL3
  have H4 := Lib.hid hL4
  have H5 := Lib.hid hL5
  clear hL1 hL2 hL3 hL4 hL5
  have C1 := num_any l vi n w0 hri hn (by omega)
  rw [← H1.out] at C1
  refine C1.mono ?_
  rintro e w1 ⟨v1, rfl, ho1, hb1⟩
  clear C1
  have O1 := Lib.hid ho1
  obtain ⟨A1, c1, rfl, -⟩ := Rd.own ho1
  have hri1 := hri.below hb1 hb1.size
  have hs1 := hb1.size
  clear ho1
  go_wp2_with fail
  have C1 := count_all l vi c w1 hri1 (by omega)
  rw [← H2.out] at C1
  refine C1.mono ?_
  rintro e w2 ⟨v2, rfl, ho2, hb2⟩
  clear C1
  have O2 := Lib.hid ho2
  obtain ⟨A2, c2, rfl, -⟩ := Rd.own ho2
  have hri2 := hri1.below hb2 hb2.size
  have hs2 := hb2.size
  clear ho2
  go_wp2_with fail
  have C1 := str_any l vi s w2 hri2 hs (by omega)
  rw [← H3.out] at C1
  refine C1.mono ?_
  rintro e w3 ⟨v3, rfl, ho3, hb3⟩
  clear C1
  have O3 := Lib.hid ho3
  obtain ⟨A3, c3, rfl, -⟩ := Rd.own ho3
  have hri3 := hri2.below hb3 hb3.size
  have hs3 := hb3.size
  clear ho3
  go_wp2_with fail
  have C1 := flag_any l vi true w3 hri3 (by omega)
  rw [← H4.out] at C1
  refine C1.mono ?_
  rintro e w4 ⟨v4, rfl, ho4, hb4⟩
  clear C1
  have O4 := Lib.hid ho4
  obtain ⟨A4, c4, rfl, -⟩ := Rd.own ho4
  have hri4 := hri3.below hb4 hb4.size
  have hs4 := hb4.size
  clear ho4
  go_wp2_with fail
  have C1 := flag_any l vi false w4 hri4 (by omega)
  rw [← H5.out] at C1
  refine C1.mono ?_
  rintro e w5 ⟨v5, rfl, ho5, hb5⟩
  clear C1
  have O5 := Lib.hid ho5
  obtain ⟨A5, c5, rfl, -⟩ := Rd.own ho5
  have hri5 := hri4.below hb5 hb5.size
  have hs5 := hb5.size
  clear ho5
  go_wp2_with fail
  obtain ⟨w6, hw6⟩ : ∃ W, W = w5.alloc (.cells #[.slice A1 L1.length c1, .slice A2 L2.length c2, .slice A3 L3.length c3, .slice A4 L4.length c4, .slice A5 L5.length c5] 23) := ⟨_, rfl⟩
  rw [← hw6]
  have hT6 : w6.heap[w5.heap.size]? = some (.cells #[.slice A1 L1.length c1, .slice A2 L2.length c2, .slice A3 L3.length c3, .slice A4 L4.length c4, .slice A5 L5.length c5] 23 (0, 0)) := by rw [hw6]; exact heap_alloc_new _ _
  have hb6 : Below w5.heap.size w5 w6 := by rw [hw6]; exact (Below.refl _ _).alloc (Nat.le_refl _) _
  have hs6 : w5.heap.size < w6.heap.size := by rw [hw6]; simp
  have HT6 := Lib.hid hT6
  have g5 := hb6
  have g4 := hb5.trans (g5.mono hs5)
  have g3 := hb4.trans (g4.mono hs4)
  have g2 := hb3.trans (g3.mono hs3)
  have g1 := hb2.trans (g2.mono hs2)
  have g0 := hb0.trans ((hb1.trans (g1.mono hs1)).mono hb0.size)
  clear hT6 hw6
  have C1 := xnum_any l _ n w6 (HB.out.below g0 g0.size) hn (by omega)
  rw [← H1.out] at C1
  refine C1.mono ?_
  rintro e x1 ⟨m1, rfl, po1, pb1⟩
  clear C1
  have Q1 := Lib.hid po1
  obtain ⟨D1, d1, rfl, -⟩ := Rd.own po1
  have k1 := g0.trans (pb1.mono g0.size)
  have ps1 := pb1.size
  clear po1
  go_wp2_with fail
  have C1 := xcount_all l _ c x1 (HB.out.below k1 k1.size) (by omega)
  rw [← H2.out] at C1
  refine C1.mono ?_
  rintro e x2 ⟨m2, rfl, po2, pb2⟩
  clear C1
  have Q2 := Lib.hid po2
  obtain ⟨D2, d2, rfl, -⟩ := Rd.own po2
  have k2 := k1.trans (pb2.mono k1.size)
  have ps2 := pb2.size
  clear po2
  go_wp2_with fail
  have C1 := xstr_any l _ s x2 (HB.out.below k2 k2.size) hs (by omega)
  rw [← H3.out] at C1
  refine C1.mono ?_
  rintro e x3 ⟨m3, rfl, po3, pb3⟩
  clear C1
  have Q3 := Lib.hid po3
  obtain ⟨D3, d3, rfl, -⟩ := Rd.own po3
  have k3 := k2.trans (pb3.mono k2.size)
  have ps3 := pb3.size
  clear po3
  go_wp2_with fail
  have C1 := xflag_any l _ true x3 (HB.out.below k3 k3.size) (by omega)
  rw [← H4.out] at C1
  refine C1.mono ?_
  rintro e x4 ⟨m4, rfl, po4, pb4⟩
  clear C1
  have Q4 := Lib.hid po4
  obtain ⟨D4, d4, rfl, -⟩ := Rd.own po4
  have k4 := k3.trans (pb4.mono k3.size)
  have ps4 := pb4.size
  clear po4
  go_wp2_with fail
  have C1 := xflag_any l _ false x4 (HB.out.below k4 k4.size) (by omega)
  rw [← H5.out] at C1
  refine C1.mono ?_
  rintro e x5 ⟨m5, rfl, po5, pb5⟩
  clear C1
  have Q5 := Lib.hid po5
  obtain ⟨D5, d5, rfl, -⟩ := Rd.own po5
  have k5 := k4.trans (pb5.mono k4.size)
  have ps5 := pb5.size
  clear po5
  go_wp2_with fail
  obtain ⟨ws, hws⟩ : ∃ W, W = x5.alloc (.cells #[.slice D1 L1.length d1, .slice D2 L2.length d2, .slice D3 L3.length d3, .slice D4 L4.length d4, .slice D5 L5.length d5] 23) := ⟨_, rfl⟩
  rw [← hws]
  have hTM : ws.heap[x5.heap.size]? = some (.cells #[.slice D1 L1.length d1, .slice D2 L2.length d2, .slice D3 L3.length d3, .slice D4 L4.length d4, .slice D5 L5.length d5] 23 (0, 0)) := by rw [hws]; exact heap_alloc_new _ _
  have f5 : Below x5.heap.size x5 ws := by rw [hws]; exact (Below.refl _ _).alloc (Nat.le_refl _) _
  have f4 := pb5.trans (f5.mono ps5)
  have f3 := pb4.trans (f4.mono ps4)
  have f2 := pb3.trans (f3.mono ps3)
  have f1 := pb2.trans (f2.mono ps2)
  have f0 := pb1.trans (f1.mono ps1)
  have q5 := g5.trans (f0.mono hb6.size)
  have q4 := g4.trans (f0.mono g4.size)
  have q3 := g3.trans (f0.mono g3.size)
  have q2 := g2.trans (f0.mono g2.size)
  have q1 := g1.trans (f0.mono g1.size)
  have kall := g0.trans (f0.mono g0.size)
  have q0 : Below w0.heap.size w0 ws := hb1.trans (q1.mono hs1)
  have hwi : ws.ownsRow w.heap.size 5 1 vi l.length (BS l) := own_same hoi fun p hp => q0.block p (hoi.lt p hp).2
  have hwit : ∀ k, vi.ownBlock = some k → k < w0.heap.size := fun k hk => (hoi.lt k hk).2
  have hLaid : Laid ws (six w0.heap.size w1.heap.size w2.heap.size w3.heap.size w4.heap.size w5.heap.size) w5.heap.size x5.heap.size (five (.slice A1 L1.length c1) (.slice A2 L2.length c2) (.slice A3 L3.length c3) (.slice A4 L4.length c4) (.slice A5 L5.length c5))
      (five (.slice D1 L1.length d1) (.slice D2 L2.length d2) (.slice D3 L3.length d3) (.slice D4 L4.length d4) (.slice D5 L5.length d5)) (five L1 L2 L3 L4 L5) := by
    have hcP := (row_cells ((f0.block w5.heap.size hs6).trans HT6.out)).1
    have hcM := (row_cells hTM).1
    refine ⟨fun i hi => ?_, fun i hi => ?_, fun i hi => ?_, fun i hi => ?_, fun i hi => ?_, fun i hi => ?_, fun i hi => ?_, fun i hi => ?_, Nat.le_refl _, ?_⟩
    · match i, hi with
      | 0, _ => exact hcP 0
      | 1, _ => exact hcP 1
      | 2, _ => exact hcP 2
      | 3, _ => exact hcP 3
      | 4, _ => exact hcP 4
    · match i, hi with
      | 0, _ => exact hcM 0
      | 1, _ => exact hcM 1
      | 2, _ => exact hcM 2
      | 3, _ => exact hcM 3
      | 4, _ => exact hcM 4
    · match i, hi with
      | 0, _ => exact own_same O1.out fun p hp => q1.block p (O1.out.lt p hp).2
      | 1, _ => exact own_same O2.out fun p hp => q2.block p (O2.out.lt p hp).2
      | 2, _ => exact own_same O3.out fun p hp => q3.block p (O3.out.lt p hp).2
      | 3, _ => exact own_same O4.out fun p hp => q4.block p (O4.out.lt p hp).2
      | 4, _ => exact own_same O5.out fun p hp => q5.block p (O5.out.lt p hp).2
    · match i, hi with
      | 0, _ => exact fun k hk => (O1.out.lt k hk).2
      | 1, _ => exact fun k hk => (O2.out.lt k hk).2
      | 2, _ => exact fun k hk => (O3.out.lt k hk).2
      | 3, _ => exact fun k hk => (O4.out.lt k hk).2
      | 4, _ => exact fun k hk => (O5.out.lt k hk).2
    · have e6 : w5.heap.size ≤ w6.heap.size := hb6.size
      match i, hi with
      | 0, _ => exact World.ownsRow.mono (own_same Q1.out fun p hp => f1.block p (Q1.out.lt p hp).2) e6
      | 1, _ => exact World.ownsRow.mono (own_same Q2.out fun p hp => f2.block p (Q2.out.lt p hp).2) (show w5.heap.size ≤ x1.heap.size by omega)
      | 2, _ => exact World.ownsRow.mono (own_same Q3.out fun p hp => f3.block p (Q3.out.lt p hp).2) (show w5.heap.size ≤ x2.heap.size by omega)
      | 3, _ => exact World.ownsRow.mono (own_same Q4.out fun p hp => f4.block p (Q4.out.lt p hp).2) (show w5.heap.size ≤ x3.heap.size by omega)
      | 4, _ => exact World.ownsRow.mono (own_same Q5.out fun p hp => f5.block p (Q5.out.lt p hp).2) (show w5.heap.size ≤ x4.heap.size by omega)
    · match i, hi with
      | 0, _ => exact hs1
      | 1, _ => exact hs2
      | 2, _ => exact hs3
      | 3, _ => exact hs4
      | 4, _ => exact hs5
    · match i, hi with
      | 0, _ => exact Nat.le_refl _
      | 1, _ => exact hs1
      | 2, _ => show w0.heap.size ≤ w2.heap.size; omega
      | 3, _ => show w0.heap.size ≤ w3.heap.size; omega
      | 4, _ => show w0.heap.size ≤ w4.heap.size; omega
      | 5, _ => show w0.heap.size ≤ w5.heap.size; omega
    · match i, hi with
      | 0, _ => show w0.heap.size ≤ w5.heap.size; omega
      | 1, _ => show w1.heap.size ≤ w5.heap.size; omega
      | 2, _ => show w2.heap.size ≤ w5.heap.size; omega
      | 3, _ => show w3.heap.size ≤ w5.heap.size; omega
      | 4, _ => exact hs5
      | 5, _ => exact Nat.le_refl _
    · show w5.heap.size ≤ x5.heap.size
      omega
  have hPs : w5.heap.size < ws.heap.size := Nat.lt_of_lt_of_le hs6 f0.size
  have hMs : x5.heap.size < ws.heap.size := by rw [hws]; simp
  have hn0 : w.heap.size ≤ w0.heap.size := hb0.size
  have hlen5 : ∀ i, i < 5 → (five L1 L2 L3 L4 L5 i).length ≤ 281474976710656 := by
    have t1 := uv_length64 _ (zz_fits n hn)
    have t2 := cv_length c
    have t3 := uv_length64 s.size (by unfold U64; omega)
    have t4 : s.data.toList.length = s.size := by simp
    intro i hi
    match i, hi with
    | 0, _ => show L1.length ≤ _; rw [H1.out, List.length_append]; omega
    | 1, _ => show L2.length ≤ _; rw [H2.out, List.length_append]; omega
    | 2, _ => show L3.length ≤ _; rw [H3.out, List.length_append]; unfold tv; rw [List.length_append, t4]; omega
    | 3, _ => show L4.length ≤ _; rw [H4.out, List.length_append]; simp only [fv, List.length_cons, List.length_nil]; omega
    | 4, _ => show L5.length ≤ _; rw [H5.out, List.length_append]; simp only [fv, List.length_cons, List.length_nil]; omega
  have HLEN := Lib.hid hlen5
  generalize (five (Value.slice A1 L1.length c1) (Value.slice A2 L2.length c2) (Value.slice A3 L3.length c3) (Value.slice A4 L4.length c4) (Value.slice A5 L5.length c5)) = vs at hLaid
  generalize (five (Value.slice D1 L1.length d1) (Value.slice D2 L2.length d2) (Value.slice D3 L3.length d3) (Value.slice D4 L4.length d4) (Value.slice D5 L5.length d5)) = ms at hLaid
  generalize hLs : five L1 L2 L3 L4 L5 = Ls at hLaid HLEN
  obtain ⟨nn, hnn⟩ : ∃ f, f = six w0.heap.size w1.heap.size w2.heap.size w3.heap.size w4.heap.size w5.heap.size := ⟨_, rfl⟩
  rw [← hnn] at hLaid
  have hnn0 : nn 0 = w0.heap.size := by rw [hnn]; rfl
  obtain ⟨P, hP⟩ : ∃ k, k = w5.heap.size := ⟨_, rfl⟩
  obtain ⟨M, hM⟩ : ∃ k, k = x5.heap.size := ⟨_, rfl⟩
  rw [← hP] at hLaid hPs
  rw [← hM] at hLaid hMs
  rw [← hP, ← hM]
  rw [← hnn0] at hwit hn0
  have HL := Lib.hid hLaid
  have HWI := Lib.hid hwi
  have HWT := Lib.hid hwit
  have HK := Lib.hid kall
  clear hLaid hwi hwit kall hlen5 hLs hnn hnn0 hP hM hws hTM f0 f1 f2 f3 f4 f5 q0 q1 q2 q3 q4 q5 k1 k2 k3 k4 k5 g0 g1 g2 g3 g4 g5 hb0 hb1 hb2 hb3 hb4 hb5 hb6 pb1 pb2 pb3 pb4 pb5 hs1 hs2 hs3 hs4 hs5 hs6 ps1 ps2 ps3 ps4 ps5 hri hri1 hri2 hri3 hri4 hri5 hoi O1 O2 O3 O4 O5 Q1 Q2 Q3 Q4 Q5 HT6 H1 H2 H3 H4 H5
  go_loopw [12] (fun i wr => ∃ k : Nat, i = .int .i64 k ∧ k ≤ 5 ∧ Wr (nn 0) (nn k) ws wr) (fun i _ => 5 - (intOf i).toNat)
  case atStart => exact ⟨0, rfl, by omega, rfl, rfl, rfl, Nat.le_refl _, fun _ _ _ => rfl⟩
  case round =>
    obtain ⟨k, rfl, hk, hw⟩ := hrel
    by_cases hk5 : k < 5
    · have hk' : (k : Int) < 5 := by omega
      have hvo := HL.out.own k hk5
      have hmo := HL.out.other k hk5
      have hlk := HLEN.out k hk5
      have hlo := HL.out.low k (by omega)
      have hup := HL.out.high (k + 1) (by omega)
      have hst := HL.out.mono k hk5
      have hup0 := HL.out.high k (by omega)
      have hPg := HL.out.P_ge
      have hMg := HL.out.M_ge
      have htop := HL.out.top k hk5
      have hvw : wr.ownsRow (nn k) 5 1 (vs k) (Ls k).length (BS (Ls k)) := own_same hvo fun p hp => hw.2.2.2.2 p (.inr (hvo.lt p hp).1) (hvo.lt p hp).2
      have hmw : wr.ownsRow (nn 5) 5 1 (ms k) (Ls k).length (BS (Ls k)) := own_same hmo fun p hp => hw.2.2.2.2 p (.inr (Nat.le_trans hup0 (hmo.lt p hp).1)) (hmo.lt p hp).2
      have hcP : wr.cell? ⟨P, k, none⟩ = some (vs k) := (World.cell?_of_block (hw.2.2.2.2 P (.inr (Nat.le_trans hup0 hPg)) hPs)).trans (HL.out.cellP k hk5)
      have hcM : wr.cell? ⟨M, k, none⟩ = some (ms k) := (World.cell?_of_block (hw.2.2.2.2 M (.inr (Nat.le_trans hup0 hMg)) hMs)).trans (HL.out.cellM k hk5)
      obtain ⟨Av, cv', hv, -⟩ := Rd.own hvw
      obtain ⟨Am, cm, hm, -⟩ := Rd.own hmw
      have hv1 : ∀ q, (convert 23 9 (vs k)).run Try.prog (wr.drewN q) = .ok (.string ⟨(Ls k).toArray⟩) (wr.drewN q) := fun q => conv_str (B := wr.heap.size) ((Rd.own hvw).keep (Nat.le_refl _) fun _ _ => rfl)
      have hm1 : ∀ q, (convert 23 9 (ms k)).run Try.prog (wr.drewN q) = .ok (.string ⟨(Ls k).toArray⟩) (wr.drewN q) := fun q => conv_str (B := wr.heap.size) ((Rd.own hmw).keep (Nat.le_refl _) fun _ _ => rfl)
      have hcP0 := HL.out.cellP k hk5
      rw [hv] at hcP hv1 hvw hvo htop hcP0
      rw [hm] at hcM hm1
      generalize Ls k = L at *
      have HVW := Lib.hid hvw
      have HTOP := Lib.hid htop
      have HCP := Lib.hid hcP0
      have hk0 : (0 : Int) ≤ (k : Int) := by omega
      clear hvo hmo hmw hvw hv hm htop hcP0
      go_upto_region 7 with fail
      go_cut [61] (fun x wx => x = .bool false ∧ ∃ q, wx = wr.drewN q)
      case first =>
        go_quiet (fail)
        go_wp2_with fail
        go_meet
        exact ⟨by simp, _, rfl⟩
      case rest =>
        obtain ⟨rfl, q, rfl⟩ := hcut
        have hw' : Wr (nn 0) (nn (k + 1)) ws (wr.drewN q) := ⟨hw.1, hw.2.1, hw.2.2.1, hw.2.2.2.1, fun p hp => hw.2.2.2.2 p (by omega)⟩
        have hvw' : (wr.drewN q).ownsRow (nn k) 5 1 (.slice Av L.length cv') L.length (BS L) := HVW.out
        clear hv1 hm1 hcP hcM hw
        go_wp2_with fail
        go_loopw [13] (fun j wx => ∃ (r : Nat) (xs : List Value), j = .int .i64 r ∧ r ≤ L.length ∧ Wr (nn 0) (nn (k + 1)) ws wx ∧ wx.ownsRow (nn k) 5 1 (.slice Av L.length cv') L.length xs) (fun j _ => L.length - (intOf j).toNat)
        case atStart => exact ⟨0, _, rfl, by omega, hw', hvw'⟩
        case round =>
          obtain ⟨r, xs, rfl, hr, hwx, hox⟩ := hrel
          clear hw' hvw'
          have hcPx : wr.cell? ⟨P, k, none⟩ = some (.slice Av L.length cv') := (World.cell?_of_block (hwx.2.2.2.2 P (.inr (Nat.le_trans hup hPg)) hPs)).trans HCP.out
          by_cases hrl : r < L.length
          · have hrl' : (r : Int) < (L.length : Int) := by omega
            obtain ⟨g, cap, hform, hg1, hg2⟩ := hox.form (by omega)
            injection hform with e1 _ e3
            subst e1
            subst e3
            have hlx : xs.length = L.length := by simpa using hox.1
            obtain ⟨y, hcg⟩ : ∃ y, wr.cell? ⟨g, r, none⟩ = some y := ⟨xs[r]'(by omega), by rw [hox.cellAt r (by omega)]; exact List.getElem?_eq_getElem (by omega)⟩
            have hfg : wr.frozen? ⟨g, r, none⟩ = false := hox.frozenAt r
            have hst2 := hox.stored r (.int .u8 99)
            have htg := HTOP.out g rfl
            have HST := Lib.hid hst2
            have HWX := Lib.hid hwx
            clear hst2 hwx hox hlx
            go_wp2_with fail
            refine ⟨⟨r + 1, _, by go_num, hrl, ?_, HST.out.1⟩, by simp [intOf]; omega⟩
            have h1 := HWX.out
            have h2 := HST.out.2
            exact ⟨h2.os.trans h1.1, h2.tape.trans h1.2.1, h2.output.trans h1.2.2.1, Nat.le_trans h1.2.2.2.1 h2.size, fun p hp hps => (h2.block p (Nat.lt_of_lt_of_le hps h1.2.2.2.1) (fun e => by injection e with e; omega)).trans (h1.2.2.2.2 p hp hps)⟩
          · have hrl' : ¬ (r : Int) < (L.length : Int) := by omega
            go_wp2_with fail
            refine ⟨⟨k + 1, by go_num, by omega, hwx⟩, by simp [intOf]; omega⟩
    · have hk' : ¬ (k : Int) < 5 := by omega
      have hbw : Below w.heap.size w wr := hw.below HK.out hn0
      have hwr : wr.ownsRow w.heap.size 5 1 vi l.length (BS l) := own_same HWI.out fun p hp => hw.2.2.2.2 p (.inl (by have := HWT.out p hp; omega)) (HWI.out.lt p hp).2
      have hc1 := conv_str (Rd.own hwr)
      have hc2 := conv_str (HB.out.below hbw hbw.size)
      go_wp2_with fail
      go_ret
      exact ⟨by simp, hbw⟩
end Go.Proofs.Ytfpammdpnccciaa
