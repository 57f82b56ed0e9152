/-
  RWrite: The program's ring: a piece is written. No statement is proved here. No condition.
  RNext: The program's ring: the next piece of a record; what Append answers. No statement is proved here. No condition.
  RAppend: The program's ring: Append. No statement is proved here. No condition.
-/
import Derived.Test.YtlokehekkllbeaaRD
namespace Go.Proofs.Ytlokehekkllbeaa
open Go.RowKit

set_option maxHeartbeats 2000000 in
set_option maxRecDepth 100000 in
theorem pwrite_any {w : World} {G S : Nat → Prop} {r q : Nat} {R : RG} {D : DS} (h : RgAt w r q R) (hR : R.fine) (hD : PD w G S q D) (hF : Fine D) (hG : ∀ b, G b → b < w.heap.size ∧ b ≠ r) (p : Pc) (u : Value) (hp : p.fine) (hu : Rd w w.heap.size u p.data) :
    Calls Try.prog 31 #[.pointer (some ⟨r, 0, none⟩), pcv p u] w fun e w' => e = .returned (.int .i64 (D.write ((R.first + p.n % R.count : Nat) : Int) p.sec).1) ∧ Kept w w' (Mut G w) ∧ PD w' (More G w w') (More S w w') q (D.write ((R.first + p.n % R.count : Nat) : Int) p.sec).2 := by
  have hsec : ∀ W, Below w.heap.size w W → Calls Try.prog 46 #[pcv p u] W fun e w' => e = .returned (.agg (sec p.sec)) ∧ Below W.heap.size W w' := fun W hW => psector_any p u W hp (hu.below hW hW.size)
  have hsl := p.sec_length hp.2.2.1
  have hzero := rsec_zero
  obtain ⟨Z, hZ⟩ : ∃ Z, Z = sec (List.replicate 512 0) := ⟨_, rfl⟩
  have hZs : Z.size = 512 := by rw [hZ, sec_size, List.length_replicate]
  simp only [← hZ] at hzero
  have hmod : (p.n : Int).tmod (R.count : Int) = ((p.n % R.count : Nat) : Int) := by rw [Int.tmod_eq_emod_of_nonneg (by omega)]; exact (Int.natCast_emod _ _).symm
  have hcz : ¬ R.count = 0 := by have := hR.pos; omega
  have hml : p.n % R.count < R.count := Nat.mod_lt _ hR.pos
  have hroom := hR.room
  obtain ⟨m, hm⟩ : ∃ m, m = p.n % R.count := ⟨_, rfl⟩
  rw [← hm] at hmod hml ⊢
  obtain ⟨T, hT⟩ : ∃ T, T = p.sec := ⟨_, rfl⟩
  rw [← hT] at hsec hsl ⊢
  have hto := sec_one T
  have hts : (sec T).size = 512 := by rw [sec_size, hsl]
  obtain ⟨X, hX⟩ : ∃ X, X = sec T := ⟨_, rfl⟩
  rw [← hX] at hts hto
  simp only [← hX] at hsec
  have HX := Lib.hid hX
  have H := Lib.hid h
  have HD := Lib.hid hD
  obtain ⟨n, last, data⟩ := p
  unfold pcv at hsec ⊢
  have hb0 : Below w.heap.size w (w.alloc (.cells #[.int .i64 (n : Int), .bool last, u] 71)) := (Below.refl _ _).alloc (Nat.le_refl _) _
  have hs := hsec _ hb0
  have HB0 := Lib.hid hb0
  have lr := h.lt
  have hp0 : (w.alloc (.cells #[.int .i64 (n : Int), .bool last, u] 71)).heap[w.heap.size]? = some (.cells #[.int .i64 (n : Int), .bool last, u] 71 (0, 0)) := heap_alloc_new _ _
  have HP0 := Lib.hid hp0
  clear h hD hX hT hm hZ hsec hu hb0 hp0 hR
  go_enter Try.func31, Try.ntmps31
  go_wp2_with fail
  refine hs.mono ?_
  rintro e w1 ⟨rfl, hb1⟩
  clear hs
  have hnewb := heap_alloc_new w1 (.cells Z 88)
  go_wp2_with (first
      | (refine wpList_store_row rfl 88 (.tmp 5) (.tmp 7) rfl w1.heap.size X rfl rfl 88 Z hnewb (by rw [hts]; exact rsec_info) (by rw [hts]; exact hZs) hto ?_))
  have hfin := setRow_heap (w1.alloc (.cells Z 88)) w1.heap.size Z X _ _ hnewb
  have hbl : Below w.heap.size w ((w1.alloc (.cells Z 88)).setRow w1.heap.size X) := by
    have h1 := HB0.out.trans (Joins.below_le hb1 HB0.out.size)
    exact below_setRow (h1.alloc h1.size _) h1.size _
  have hz1 : w.heap.size < w1.heap.size := by have := hb1.size; simp at this; omega
  have hpp : ((w1.alloc (.cells Z 88)).setRow w1.heap.size X).heap[w.heap.size]? = some (.cells #[.int .i64 (n : Int), .bool last, u] 71 (0, 0)) := by
    rw [setRow_other _ _ _ _ (by omega), Below.heap_alloc _ _ _ hz1, hb1.block _ (by simp)]
    exact HP0.out
  obtain ⟨g, hg⟩ : ∃ g, g = w1.heap.size := ⟨_, rfl⟩
  obtain ⟨w2, hw2⟩ : ∃ w2, w2 = (w1.alloc (.cells Z 88)).setRow w1.heap.size X := ⟨_, rfl⟩
  rw [← hw2] at hfin hbl hpp
  rw [← hw2, ← hg]
  rw [← hg] at hfin
  have hgl : g < w2.heap.size := (Array.getElem?_eq_some_iff.1 hfin).1
  have hr2 : RgAt w2 r q R := H.out.kept (hbl.block r lr)
  have hD2 : PD w2.drew G S q D := HD.out.kept (fun _ h => h) (fun _ h => h) (fun b hb _ => hbl.block b hb) (fun b _ _ hb => hbl.block b hb)
  have hrd : Rd w2.drew w2.drew.heap.size (.slice (some ⟨g, 0, none⟩) 512 512) T := by
    refine ⟨some ⟨g, 0, none⟩, 512, by rw [hsl], by omega, by unfold maxLen; omega, (fun h => by cases h), fun _ => ⟨g, 0, rfl, hgl, fun i x hx => ?_⟩⟩
    have := (row7 hfin).1 i
    rw [HX.out] at this
    have hil : i < T.length := (List.getElem?_eq_some_iff.1 hx).1
    rw [sec_getD T hil, List.getD_eq_getElem?_getD, hx] at this
    rw [Nat.zero_add]
    exact this
  have cw := pWrite_any G S q D ((R.first + m : Nat) : Int) _ T w2.drew hD2 hrd hF
  obtain ⟨R1, hR1⟩ : ∃ R1, R1 = D.write ((R.first + m : Nat) : Int) T := ⟨_, rfl⟩
  rw [← hR1, show ((R.first + m : Nat) : Int) = (R.first : Int) + (m : Int) from rfl] at cw
  have HR1 := Lib.hid hR1
  have HBL := Lib.hid hbl
  have c0 := hr2.c0
  have c1 := hr2.c1
  have c2 := hr2.c2
  have p0 : w2.cell? ⟨w.heap.size, 0, none⟩ = some (.int .i64 (n : Int)) := (row7 hpp).1 0
  have hpl : w.heap.size < w2.heap.size := (Array.getElem?_eq_some_iff.1 hpp).1
  clear hr2 hD2 hrd hpp hfin hw2 hbl hR1 hnewb hg hb1 HB0 HP0
  have CW := Lib.hid cw
  clear cw
  have hst : w2.drew.cell? ⟨r, 0, none⟩ = some (.pointer (some ⟨q, 0, none⟩)) ∧ w2.drew.cell? ⟨r, 1, none⟩ = some (.int .i64 (R.first : Int)) ∧ w2.drew.cell? ⟨r, 2, none⟩ = some (.int .i64 (R.count : Int)) ∧ w2.drew.cell? ⟨w.heap.size, 0, none⟩ = some (.int .i64 (n : Int)) := ⟨c0, c1, c2, p0⟩
  have hwl : w.heap.size < w2.drew.heap.size := hpl
  have hrl : r < w2.drew.heap.size := by omega
  have hkeep : ∀ w3, Kept w2.drew w3 (Mut G w2.drew) → w3.cell? ⟨r, 0, none⟩ = some (.pointer (some ⟨q, 0, none⟩)) ∧ w3.cell? ⟨r, 1, none⟩ = some (.int .i64 (R.first : Int)) ∧ w3.cell? ⟨r, 2, none⟩ = some (.int .i64 (R.count : Int)) ∧ w3.cell? ⟨w.heap.size, 0, none⟩ = some (.int .i64 (n : Int)) := fun w3 hk => by
    have n1 : ¬ Mut G w2.drew r := fun hm => (hG r hm.1).2 rfl
    have n2 : ¬ Mut G w2.drew w.heap.size := fun hm => absurd (hG _ hm.1).1 (by omega)
    exact ⟨(hk.cell (p := ⟨r, 0, none⟩) hrl n1).trans hst.1, (hk.cell (p := ⟨r, 1, none⟩) hrl n1).trans hst.2.1, (hk.cell (p := ⟨r, 2, none⟩) hrl n1).trans hst.2.2.1, (hk.cell (p := ⟨w.heap.size, 0, none⟩) hwl n2).trans hst.2.2.2⟩
  have HKEEP := Lib.hid hkeep
  have hwr : IntKind.i64.wrap ((R.first : Int) + (m : Int)) = (R.first : Int) + (m : Int) := by rw [IntKind.wrap_i64]; omega
  clear hkeep
  simp only [Act.put]
  go_region_held3 (fun w' => w'.cell? ⟨r, 0, none⟩ = some (.pointer (some ⟨q, 0, none⟩)) ∧ w'.cell? ⟨r, 1, none⟩ = some (.int .i64 (R.first : Int)) ∧ w'.cell? ⟨r, 2, none⟩ = some (.int .i64 (R.count : Int)) ∧ w'.cell? ⟨w.heap.size, 0, none⟩ = some (.int .i64 (n : Int))) (first | exact hst | exact hst3)
    (first
      | (go_at_call 18; refine CW.out.mono ?_; rintro e w3 ⟨rfl, hk3, hd3⟩; have hst3 := HKEEP.out w3 hk3))
  go_wp2_with fail
  go_ret
  rw [show ((R.first + m : Nat) : Int) = (R.first : Int) + (m : Int) from rfl] at HR1 ⊢
  rw [← HR1.out]
  have h1 : Kept w w2.drew (Mut G w) := Kept.ofBelow (F := Mut G w) HBL.out.drew
  have hsz : w.heap.size ≤ w2.drew.heap.size := h1.size
  have hs3 := hk3.size
  exact ⟨rfl, h1.transM hk3 (fun _ h _ => h), hd3.mono (fun b h => h.elim .inl fun h => .inr ⟨by omega, h.2⟩) (fun b h => h.elim .inl fun h => .inr ⟨by omega, h.2⟩)⟩
end Go.Proofs.Ytlokehekkllbeaa
namespace Go.Proofs.Ytlokehekkllbeaa
open Go.RowKit

theorem pieces_pos (n : Nat) : 1 ≤ pieces n := by unfold pieces; split <;> omega
theorem pieces_few {n : Nat} (h : n ≤ 501) : pieces n = 1 := by unfold pieces; split <;> omega
theorem pieces_more {n : Nat} (h : 501 < n) : pieces n = pieces (n - 501) + 1 := by unfold pieces; split <;> split <;> omega
theorem cut_get (n : Nat) (r : List UInt8) : ∀ i, i < pieces r.length → (cut n r)[i]? = some ⟨n + i, pieces r.length - (i + 1) == 0, (r.drop (501 * i)).take 501⟩ := by
  fun_induction cut n r with
  | case1 n r h =>
    intro i hi
    rw [pieces_few h] at hi ⊢
    obtain rfl : i = 0 := by omega
    rw [Nat.mul_zero, List.drop_zero, List.take_of_length_le h]
    rfl
  | case2 n r h ih =>
    intro i hi
    have hp := pieces_more (show 501 < r.length by omega)
    have hp1 := pieces_pos (r.length - 501)
    cases i with
    | zero =>
      rw [List.getElem?_cons_zero, Nat.mul_zero, List.drop_zero, hp]
      have : (pieces (r.length - 501) + 1 - (0 + 1) == 0) = false := by simp; omega
      rw [this]
      rfl
    | succ i =>
      have := ih i (by rw [List.length_drop]; omega)
      rw [List.getElem?_cons_succ, this, List.length_drop, hp, List.drop_drop]
      have e1 : n + 1 + i = n + (i + 1) := by omega
      have e2 : 501 + 501 * i = 501 * (i + 1) := by omega
      have e3 : pieces (r.length - 501) - (i + 1) = pieces (r.length - 501) + 1 - (i + 1 + 1) := by omega
      rw [e1, e2, e3]

theorem putAll_app (first count : Nat) (W1 W2 : List Pc) : ∀ D : DS, D.putAll first count (W1 ++ W2) = if (D.putAll first count W1).1 = 0 then (D.putAll first count W1).2.putAll first count W2 else D.putAll first count W1 := by
  induction W1 with
  | nil => intro D; rfl
  | cons p W1 ih =>
    intro D
    rw [List.cons_append, DS.putAll, DS.putAll]
    split
    · exact ih _
    · rename_i h
      first | rfl | (rw [if_neg h])
theorem putAll_snoc {first count : Nat} {W : List Pc} {D Di : DS} {i : Nat} {p : Pc} (hp : W[i]? = some p) (h : D.putAll first count (W.take i) = (0, Di)) : D.putAll first count (W.take (i + 1)) = Di.write ((first + p.n % count : Nat) : Int) p.sec := by
  rw [take_snoc hp, putAll_app, h]
  show Di.putAll first count [p] = _
  rw [DS.putAll]
  split
  · rename_i h0
    show (0, _) = _
    rw [← h0]
  · rfl
theorem putAll_stop {first count : Nat} {W : List Pc} {D : DS} {i : Nat} (h : (D.putAll first count (W.take i)).1 ≠ 0) : D.putAll first count W = D.putAll first count (W.take i) := by
  have := putAll_app first count (W.take i) (W.drop i) D
  rw [List.take_append_drop, if_neg h] at this
  exact this

/-- where a record's cutter stands -/
def CutSt (w : World) (N : Nat → Prop) (a b c : Nat) (rec : List UInt8) (last i : Nat) : Prop := ∃ v, CutAt w a b c (pieces rec.length - i) (last + i) v ∧ RdN w N v (rec.drop (501 * i))
theorem CutSt.kept {w w' : World} {N : Nat → Prop} {a b c : Nat} {rec : List UInt8} {last i : Nat} (h : CutSt w N a b c rec last i) (hs : w.heap.size ≤ w'.heap.size) (hk : ∀ x, x < w.heap.size → (x = a ∨ x = b ∨ x = c ∨ N x) → w'.heap[x]? = w.heap[x]?) : CutSt w' N a b c rec last i := by
  obtain ⟨v, h1, h2⟩ := h
  exact ⟨v, h1.kept (hk a (Array.getElem?_eq_some_iff.1 h1.ca).1 (.inl rfl)) (hk b (Array.getElem?_eq_some_iff.1 h1.cb).1 (.inr (.inl rfl))) (hk c (Array.getElem?_eq_some_iff.1 h1.cc).1 (.inr (.inr (.inl rfl)))), h2.kept (fun _ h _ => h) hs fun x hx hl => hk x hl (.inr (.inr (.inr hx)))⟩

theorem pnext_any {w : World} {N : Nat → Prop} {a b c : Nat} {rec : List UInt8} {last i : Nat} (h : CutSt w N a b c rec last i) (hi : i ≤ pieces rec.length) (hl : rec.length < 140737488355328) (hlast : last + i < 9223372036854775807) (hN : ∀ x, N x → x ≠ a ∧ x ≠ b ∧ x ≠ c) :
    Calls Try.prog 45 #[.pointer (some ⟨a, 0, none⟩), .pointer (some ⟨b, 0, none⟩), .pointer (some ⟨c, 0, none⟩)] w fun e w' => ∃ (n : Nat) (l : Bool) (d : List UInt8) (Au : Option Addr) (nu cu : Nat), e = .returned (.tuple #[.agg #[.int .i64 (n : Int), .bool l, .slice Au nu cu], .bool (decide (i < pieces rec.length))]) ∧ Kept w w' (fun x => x = a ∨ x = b ∨ x = c) ∧ w'.heap[a]? = some (.cells #[.int .i64 ((pieces rec.length - (i + 1) : Nat) : Int)] 3 (0, 0)) ∧ (i < pieces rec.length → (cut (last + 1) rec)[i]? = some ⟨n, l, d⟩ ∧ RdN w' N (.slice Au nu cu) d ∧ CutSt w' N a b c rec last (i + 1)) := by
  obtain ⟨v, h1, h2⟩ := h
  by_cases hlt : i < pieces rec.length
  · obtain ⟨k, hk⟩ : ∃ k, k = pieces rec.length - (i + 1) := ⟨_, rfl⟩
    rw [show pieces rec.length - i = k + 1 by omega] at h1
    have hpl : pieces rec.length ≤ rec.length + 1 := by unfold pieces; split <;> omega
    refine (pcut1_next a b c k (last + i) v _ N w h1 h2 (by omega) hlast hN).mono ?_
    rintro e w' ⟨u, v', he, hu, hc, hv, hK⟩
    obtain ⟨Au, cu, hue, -⟩ := id hu
    have hue' : ∃ nu cu, u = .slice Au nu cu := ⟨_, _, hue⟩
    obtain ⟨nu, cu', rfl⟩ := hue'
    refine ⟨last + i + 1, k == 0, (rec.drop (501 * i)).take 501, Au, nu, cu', ?_, hK, by rw [← hk]; exact hc.ca, fun _ => ⟨?_, hu, v', ?_, ?_⟩⟩
    · rw [he, decide_eq_true hlt]
      rfl
    · rw [cut_get _ _ _ hlt, ← hk, show last + 1 + i = last + i + 1 by omega]
    · rw [← hk]; exact hc
    · rw [List.drop_drop] at hv
      rw [show 501 * (i + 1) = 501 * i + 501 by omega]
      exact hv
  · rw [show pieces rec.length - i = 0 by omega] at h1
    refine (pcut1_end a b c (last + i) v w h1).mono ?_
    rintro e w' ⟨he, hb⟩
    refine ⟨0, false, [], none, 0, 0, ?_, Kept.ofBelow hb, ?_, fun h => absurd h hlt⟩
    · rw [he, decide_eq_false hlt]
      rfl
    · rw [hb.block a (Array.getElem?_eq_some_iff.1 h1.ca).1, show pieces rec.length - (i + 1) = 0 by omega]
      exact h1.ca

/-- how many pieces a cutter has left; whether it went on -/
def leftOf (w : World) (a : Nat) : Nat := match w.cell? ⟨a, 0, none⟩ with
  | some v => (intOf v).toNat
  | none => 0
def okOf : Value → Nat
  | .bool true => 1
  | _ => 0
theorem leftOf_at {w : World} {a n : Nat} (h : w.heap[a]? = some (.cells #[.int .i64 (n : Int)] 3 (0, 0))) : leftOf w a = n := by
  have := (row7 h).1 0
  unfold leftOf
  rw [this]
  show (intOf (.int .i64 (n : Int))).toNat = n
  simp [intOf]
theorem okOf_at (b : Bool) : okOf (.bool b) = if b then 1 else 0 := by cases b <;> rfl

/-- what Append answers, and leaves -/
def appendOf (D : DS) (R : RG) (rec : List UInt8) : Int × DS × RG :=
  if refuseOf D.dead R (pieces rec.length) ≠ 0 then (refuseOf D.dead R (pieces rec.length), D, R)
  else if (D.putAll R.first R.count (cut (R.last + 1) rec)).1 ≠ 0 then ((D.putAll R.first R.count (cut (R.last + 1) rec)).1, (D.putAll R.first R.count (cut (R.last + 1) rec)).2, R)
  else (0, (D.putAll R.first R.count (cut (R.last + 1) rec)).2, { R with last := R.last + pieces rec.length, top := R.last + pieces rec.length })
theorem refuse_ok {D : Bool} {R : RG} {n : Nat} (h : refuseOf D R n = 0) : D = false ∧ n ≤ R.count ∧ ¬ R.last < R.top ∧ n ≤ R.room' ∧ R.last + n ≤ 4611686018427387904 := by
  unfold refuseOf at h
  split at h
  · exact absurd h (by decide)
  · split at h
    · exact absurd h (by decide)
    · split at h
      · exact absurd h (by decide)
      · split at h
        · exact absurd h (by decide)
        · split at h
          · exact absurd h (by decide)
          · exact ⟨by cases D <;> simp_all, by omega, by omega, by omega, by omega⟩
end Go.Proofs.Ytlokehekkllbeaa
namespace Go.Proofs.Ytlokehekkllbeaa
open Go.RowKit

/-- what Append's loop keeps, i pieces being written -/
def AInv (w wr : World) (G S : Nat → Prop) (_r q : Nat) (R : RG) (D : DS) (rec : List UInt8) (k a b c i : Nat) (v8 v9 : Value) : Prop :=
  ∃ (G' S' : Nat → Prop) (Di : DS) (g : Nat), v8 = .pointer (some ⟨g, 0, none⟩) ∧ v9 = .bool (decide (i < pieces rec.length)) ∧
    D.putAll R.first R.count ((cut (R.last + 1) rec).take i) = (0, Di) ∧ Fit Di (k + i) ∧ PD wr G' S' q Di ∧
    (∀ x, G' x → (G x ∨ w.heap.size ≤ x) ∧ x < wr.heap.size) ∧ (∀ x, S' x → (S x ∨ (w.heap.size ≤ x ∧ x < wr.heap.size))) ∧ ¬ G' a ∧ ¬ G' b ∧ ¬ G' c ∧ ¬ G' g ∧ a < wr.heap.size ∧ b < wr.heap.size ∧ c < wr.heap.size ∧
    wr.heap[a]? = some (.cells #[.int .i64 ((pieces rec.length - (i + 1) : Nat) : Int)] 3 (0, 0)) ∧ Kept w wr (Mut G w) ∧ (∃ C, wr.heap[g]? = some (.cells C 71 (0, 0))) ∧
    (i < pieces rec.length → ∃ (n : Nat) (l : Bool) (d : List UInt8) (u : Value), (cut (R.last + 1) rec)[i]? = some ⟨n, l, d⟩ ∧ RdN wr (fun x => ¬ G x ∧ x < w.heap.size) u d ∧ wr.heap[g]? = some (.cells #[.int .i64 (n : Int), .bool l, u] 71 (0, 0)) ∧ CutSt wr (fun x => ¬ G x ∧ x < w.heap.size) a b c rec R.last (i + 1))

set_option maxHeartbeats 4000000 in
set_option maxRecDepth 100000 in
theorem pappend_any {w : World} {G S : Nat → Prop} {r q : Nat} {R : RG} {D : DS} {k : Nat} (h : RgAt w r q R) (hR : R.fine) (hD : PD w G S q D) (hF : Fit D k) (hG : ∀ b, G b → b < w.heap.size ∧ b ≠ r) (rec : List UInt8) (v : Value) (hv : RdN w (fun x => ¬ G x) v rec) (hl : rec.length < 140737488355328) (hk : k + pieces rec.length < 1000000) :
    Calls Try.prog 10 #[.pointer (some ⟨r, 0, none⟩), v] w fun e w' => e = .returned (.int .i64 (appendOf D R rec).1) ∧ Kept w w' (fun b => Mut G w b ∨ b = r) ∧ PD w' (More G w w') (More S w w') q (appendOf D R rec).2.1 ∧ RgAt w' r q (appendOf D R rec).2.2 := by
  have hv' : RdN w (fun x => ¬ G x ∧ x < w.heap.size) v rec := hv.mono fun b h1 h2 => ⟨h1, h2⟩
  have hpp := ppieces_any rec.length w (by omega)
  have hrf := prefuse_any h hR hD (pieces rec.length)
  have hcut := fun W (hW : Rd W W.heap.size v rec) => pcut_any rec R.last v W hW (by omega)
  have c4 := h.c4
  have lr := h.lt
  have H := Lib.hid h
  have HR := Lib.hid hR
  have HD := Lib.hid hD
  have HV := Lib.hid hv'
  have HF := Lib.hid hF
  have HG := Lib.hid hG
  obtain ⟨A, cp, rfl, -⟩ := hv
  obtain ⟨m, hm⟩ : ∃ m, m = pieces rec.length := ⟨_, rfl⟩
  have happ : appendOf D R rec = if refuseOf D.dead R m ≠ 0 then (refuseOf D.dead R m, D, R) else if (D.putAll R.first R.count (cut (R.last + 1) rec)).1 ≠ 0 then ((D.putAll R.first R.count (cut (R.last + 1) rec)).1, (D.putAll R.first R.count (cut (R.last + 1) rec)).2, R) else (0, (D.putAll R.first R.count (cut (R.last + 1) rec)).2, { R with last := R.last + m, top := R.last + m }) := by rw [hm]; rfl
  rw [← hm] at hpp hrf hk
  obtain ⟨X, hX⟩ : ∃ X, X = appendOf D R rec := ⟨_, rfl⟩
  rw [← hX] at happ ⊢
  have HAP := Lib.hid happ
  have HM := Lib.hid hm
  have h0 := @refuse_ok D.dead R m
  obtain ⟨x, hx⟩ : ∃ x, x = refuseOf D.dead R m := ⟨_, rfl⟩
  rw [← hx] at hrf h0 HAP
  clear h hR hD hv' hF hG happ hm hX hx
  go_enter Try.func10, Try.ntmps10
  go_wp2_with fail
  refine hpp.mono ?_
  rintro e w1 ⟨rfl, rfl⟩
  clear hpp
  go_wp2_with fail
  refine hrf.mono ?_
  rintro e w1 ⟨rfl, kk, rfl⟩
  clear hrf
  obtain ⟨wd, hwd⟩ : ∃ wd, wd = w.drewN kk := ⟨_, rfl⟩
  have hkd : Kept w wd (Mut G w) := by rw [hwd]; exact ⟨rfl, rfl, rfl, Nat.le_refl _, fun _ _ _ => rfl⟩
  have hsd : wd.heap.size = w.heap.size := by rw [hwd]; rfl
  have hbd : ∀ b : Nat, wd.heap[b]? = w.heap[b]? := by rw [hwd]; exact fun _ => rfl
  rw [← hwd]
  have HKD := Lib.hid hkd
  have HSD := Lib.hid hsd
  have HBD := Lib.hid hbd
  clear hwd hkd hsd hbd
  by_cases hx0 : x ≠ 0
  · have hne : (x != 0) = true := by simpa using hx0
    have hX := HAP.out
    rw [if_pos hx0] at hX
    go_wp2_with fail
    go_ret
    rw [hX]
    exact ⟨rfl, HKD.out.mono (fun _ _ h => .inl h), HD.out.kept (fun _ h => .inl h) (fun _ h => .inl h) (fun b _ _ => HBD.out b) (fun b _ _ _ => HBD.out b), H.out.kept (HBD.out r)⟩
  · have hx0' : x = 0 := by omega
    obtain ⟨hdead, hmc, htorn, hroom, hmax⟩ := h0 hx0'
    have hX := HAP.out
    rw [if_neg hx0] at hX
    have HX := Lib.hid hX
    subst hx0'
    have rd1 : RgAt wd r q R := H.out.kept (HBD.out r)
    have c4d := rd1.c4
    have hvd : RdN wd (fun x => ¬ G x ∧ x < w.heap.size) (.slice A rec.length cp) rec := HV.out.kept (fun _ h _ => h) (by rw [HSD.out]; exact Nat.le_refl _) (fun b _ _ => HBD.out b)
    have hcd := hcut wd hvd.rd
    have HVD := Lib.hid hvd
    have HRD := Lib.hid rd1
    clear hX hx0 h0 HAP hcut c4 rd1 hvd
    go_wp2_with fail
    refine hcd.mono ?_
    rintro e w2 ⟨a, b, c, rfl, hca, la, lb, lc, hb2⟩
    clear hcd
    rw [HSD.out] at la lb lc
    have hst0 : CutSt w2 (fun x => ¬ G x ∧ x < w.heap.size) a b c rec R.last 0 := ⟨_, hca, by rw [Nat.mul_zero, List.drop_zero]; exact HVD.out.grow hb2⟩
    have hnx := pnext_any hst0 (Nat.zero_le _) hl (by omega) (fun x hx => ⟨by have := hx.2; omega, by have := hx.2; omega, by have := hx.2; omega⟩)
    have ha2 : a < w2.heap.size := (Array.getElem?_eq_some_iff.1 hca.ca).1
    have hbb2 : b < w2.heap.size := (Array.getElem?_eq_some_iff.1 hca.cb).1
    have hcc2 : c < w2.heap.size := (Array.getElem?_eq_some_iff.1 hca.cc).1
    have HB2 := Lib.hid hb2
    clear hca hst0 hb2
    go_wp2_with fail
    go_at_call 45
    refine hnx.mono ?_
    rintro e w3 ⟨n, l, d, Au, nu, cu, rfl, hK3, hl3, hn3⟩
    have hs2 := HB2.out.size
    have hs3 := hK3.size
    have h0lt : 0 < pieces rec.length := pieces_pos _
    have hinv0 : AInv w (w3.alloc (.cells #[.int .i64 (n : Int), .bool l, .slice Au nu cu] 71)) G S r q R D rec k a b c 0 (.pointer (some ⟨w3.heap.size, 0, none⟩)) (.bool (decide (0 < pieces rec.length))) := by
      obtain ⟨g1, g2, g3⟩ := hn3 h0lt
      have hkw : Kept w w3 (Mut G w) := by
        have k1 : Kept wd w2 (Mut G wd) := Kept.ofBelow HB2.out
        have k2 : Kept w w2 (Mut G w) := HKD.out.transM k1 (fun n h _ => h)
        refine k2.trans hK3 (fun n hn => .inr ?_)
        rcases hn with rfl | rfl | rfl <;> assumption
      have hal := heap_alloc_new w3 (.cells #[.int .i64 (n : Int), .bool l, .slice Au nu cu] 71)
      have hb : Below w3.heap.size w3 (w3.alloc (.cells #[.int .i64 (n : Int), .bool l, .slice Au nu cu] 71)) := (Below.refl _ _).alloc (Nat.le_refl _) _
      have hsz : (w3.alloc (.cells #[.int .i64 (n : Int), .bool l, .slice Au nu cu] 71)).heap.size = w3.heap.size + 1 := by simp
      have hsd := HSD.out
      have nG : ∀ x, w.heap.size ≤ x → ¬ G x := fun x hx hg => absurd (HG.out x hg).1 (by omega)
      have hkD := hkw.trans (Kept.alloc w3 (.cells #[.int .i64 (n : Int), .bool l, .slice Au nu cu] 71) (Mut G w)) (fun _ h => .inl h)
      refine ⟨G, S, D, w3.heap.size, rfl, rfl, rfl, HF.out, HD.out.kept (fun _ h => h) (fun _ h => h) ?_ ?_, fun x hx => ⟨.inl hx, by have := (HG.out x hx).1; omega⟩, fun x hx => .inl hx, nG a la, nG b lb, nG c lc, nG _ (by omega), by omega, by omega, by omega, (hb.block a (by omega)).trans hl3, hkD, ⟨_, hal⟩, fun _ => ⟨n, l, d, .slice Au nu cu, g1, g2.kept (fun _ h _ => h) hb.size (fun x _ hx => hb.block x hx), hal, g3.kept hb.size (fun x hx _ => hb.block x hx)⟩⟩
      · intro x hx hm
        have hx3 : x < w3.heap.size := by omega
        rw [hb.block x hx3, hK3.block x (by omega) (by rintro (rfl | rfl | rfl) <;> omega), HB2.out.block x (by omega)]
        exact HBD.out x
      · intro x _ hi hx
        have hx3 : x < w3.heap.size := by omega
        rw [hb.block x hx3, hK3.block x (by omega) (by rintro (rfl | rfl | rfl) <;> omega), HB2.out.block x (by omega)]
        exact HBD.out x
    have HI0 := Lib.hid hinv0
    clear hinv0 hn3 hK3 hnx HB2 HVD
    go_wp2_with fail
    obtain ⟨ww, hww⟩ : ∃ ww, ww = w3.alloc (.cells #[.int .i64 (n : Int), .bool l, .slice Au nu cu] 71) := ⟨_, rfl⟩
    rw [← hww] at HI0 ⊢
    clear hww
    have hd0 : decide (0 < pieces rec.length) = true := decide_eq_true h0lt
    rw [hd0] at HI0
    go_loopw [8, 9] (fun v8 v9 wr => ∃ i : Nat, i ≤ pieces rec.length ∧ Hid (AInv w wr G S r q R D rec k a b c i v8 v9)) (fun _ v9 wr => okOf v9 + leftOf wr a)
    case atStart => exact ⟨0, Nat.zero_le _, HI0⟩
    case round =>
      obtain ⟨i, hi, hinv⟩ := hrel
      clear HI0
      obtain ⟨G', S', Di, g, rfl, rfl, hput, hfit, hpd, hG', hS', nga, ngb, ngc, ngg, la', lb', lc', hla, hkw, hgp, hnx⟩ := hinv.out
      have hsw := hkw.size
      have nGr : ¬ Mut G w r := fun hm => (HG.out r hm.1).2 rfl
      have hrr : RgAt wr r q R := H.out.kept (hkw.block r lr nGr)
      have hGr : ∀ x, G' x → x < wr.heap.size ∧ x ≠ r := fun x hx => ⟨(hG' x hx).2, fun e => by
        subst e
        rcases (hG' x hx).1 with h | h
        · exact (HG.out x h).2 rfl
        · omega⟩
      have hNG : ∀ x, (¬ G x ∧ x < w.heap.size) → ¬ G' x := fun x hx hg => by
        rcases (hG' x hg).1 with h | h
        · exact hx.1 h
        · omega
      by_cases hil : i < pieces rec.length
      · obtain ⟨n2, l2, d2, u2, hget, hu2, hgc, hst⟩ := hnx hil
        obtain ⟨Au2, cu2, hue, -⟩ := id hu2
        have hue' : ∃ A n c, u2 = .slice A n c := ⟨_, _, _, hue⟩
        clear hue
        obtain ⟨Au2, nu2, cu2, rfl⟩ := hue'
        rw [decide_eq_true hil]
        have hnum := cut_num _ _ _ _ hget
        have hmm := HM.out
        have hfine : Pc.fine ⟨n2, l2, d2⟩ := ⟨by have := hnum.1; show 1 ≤ n2; have e : n2 = R.last + 1 + i := hnum.1; omega, by have e : n2 = R.last + 1 + i := hnum.1; show n2 ≤ _; omega, hnum.2.1, hnum.2.2⟩
        have cw := pwrite_any hrr HR.out hpd (hfit.fine (by omega)) hGr ⟨n2, l2, d2⟩ (.slice Au2 nu2 cu2) hfine hu2.rd
        unfold pcv at cw
        have hsn := putAll_snoc hget hput
        obtain ⟨y, hy⟩ : ∃ y, y = Di.write ((R.first + n2 % R.count : Nat) : Int) (Pc.sec ⟨n2, l2, d2⟩) := ⟨_, rfl⟩
        have hfy : Fit y.2 (k + (i + 1)) := by rw [hy]; exact hfit.write _ _
        rw [show Di.write ((R.first + (Pc.mk n2 l2 d2).n % R.count : Nat) : Int) (Pc.sec ⟨n2, l2, d2⟩) = y from hy.symm] at hsn
        simp only [show Di.write ((R.first + n2 % R.count : Nat) : Int) (Pc.sec ⟨n2, l2, d2⟩) = y from hy.symm] at cw
        have p0 : wr.cell? ⟨g, 0, none⟩ = some (.int .i64 (n2 : Int)) := (row7 hgc).1 0
        have p1 : wr.cell? ⟨g, 1, none⟩ = some (.bool l2) := (row7 hgc).1 1
        have p2 : wr.cell? ⟨g, 2, none⟩ = some (.slice Au2 nu2 cu2) := (row7 hgc).1 2
        have HST := Lib.hid hst
        have HGC := Lib.hid hgc
        have HSN := Lib.hid hsn
        have HFY := Lib.hid hfy
        have HKW := Lib.hid hkw
        have HG2 := Lib.hid hG'
        have HS2 := Lib.hid hS'
        have HRR := Lib.hid hrr
        have HLA := Lib.hid hla
        have HNG := Lib.hid hNG
        have HU2 := Lib.hid hu2
        have hmk : R.last + pieces rec.length ≤ 4611686018427387904 := by omega
        clear hy hmm hst hgc hsn hfy hkw hG' hS' hrr hinv hnx hgp hget hnum hfine hpd hfit hput hGr hu2 hla hNG
        go_wp2_with fail
        refine cw.mono ?_
        rintro e w2 ⟨rfl, hk2, hd2⟩
        clear cw p0 p1 p2
        have hs2 := hk2.size
        have HK2 := Lib.hid hk2
        have HD2 := Lib.hid hd2
        have hkk : Kept w w2 (Mut G w) := HKW.out.transM hk2 (fun x hx hxs => by
          rcases (HG2.out x hx).1 with h | h
          · exact h
          · omega)
        have HKK := Lib.hid hkk
        by_cases hy0 : y.1 = 0
        · have hyb : (y.1 != 0) = false := by simp [hy0]
          have hgl : g < wr.heap.size := (Array.getElem?_eq_some_iff.1 HGC.out).1
          have hgc2 : w2.heap[g]? = some (.cells #[.int .i64 (n2 : Int), .bool l2, .slice Au2 nu2 cu2] 71 (0, 0)) := (hk2.block g hgl (fun hm => ngg hm.1)).trans HGC.out
          have p0 : w2.cell? ⟨g, 0, none⟩ = some (.int .i64 (n2 : Int)) := (row7 hgc2).1 0
          have p1 : w2.cell? ⟨g, 1, none⟩ = some (.bool l2) := (row7 hgc2).1 1
          have p2 : w2.cell? ⟨g, 2, none⟩ = some (.slice Au2 nu2 cu2) := (row7 hgc2).1 2
          have hst2 : CutSt w2 (fun x => ¬ G x ∧ x < w.heap.size) a b c rec R.last (i + 1) := HST.out.kept hs2 (fun x hx h => hk2.block x hx (fun hm => by
            rcases h with rfl | rfl | rfl | h
            · exact nga hm.1
            · exact ngb hm.1
            · exact ngc hm.1
            · exact HNG.out x h hm.1))
          have hb3 : Below w2.heap.size w2 (w2.alloc (.cells #[.int .i64 (n2 : Int), .bool l2, .slice Au2 nu2 cu2] 71)) := (Below.refl _ _).alloc (Nat.le_refl _) _
          have hst3 := hst2.kept (w' := w2.alloc (.cells #[.int .i64 (n2 : Int), .bool l2, .slice Au2 nu2 cu2] 71)) hb3.size (fun x hx _ => hb3.block x hx)
          have hn3 := heap_alloc_new w2 (.cells #[.int .i64 (n2 : Int), .bool l2, .slice Au2 nu2 cu2] 71)
          have hnx3 := pnext_any hst3 hil hl (by omega) (fun x hx => ⟨by have := hx.2; omega, by have := hx.2; omega, by have := hx.2; omega⟩)
          have hsz3 : (w2.alloc (.cells #[.int .i64 (n2 : Int), .bool l2, .slice Au2 nu2 cu2] 71)).heap.size = w2.heap.size + 1 := by simp
          have HB3 := Lib.hid hb3
          have HN3 := Lib.hid hn3
          have HSZ3 := Lib.hid hsz3
          clear hst2 hst3 hgc2 hk2 hd2 hkk hb3 hn3 hsz3
          go_wp2_with fail
          go_at_call 45
          refine hnx3.mono ?_
          rintro e w4 ⟨n4, l4, d4, Au4, nu4, cu4, rfl, hK4, hl4, hn4⟩
          clear hnx3 p0 p1 p2
          have hs4 := hK4.size
          have hs2w := HKW.out.size
          have hsz := HSZ3.out
          have hg4 : w4.heap[w2.heap.size]? = some (.cells #[.int .i64 (n2 : Int), .bool l2, .slice Au2 nu2 cu2] 71 (0, 0)) := (hK4.block _ (by omega) (by rintro (h | h | h) <;> omega)).trans HN3.out
          have p0 : w4.cell? ⟨w2.heap.size, 0, none⟩ = some (.int .i64 (n2 : Int)) := (row7 hg4).1 0
          have p1 : w4.cell? ⟨w2.heap.size, 1, none⟩ = some (.bool l2) := (row7 hg4).1 1
          have p2 : w4.cell? ⟨w2.heap.size, 2, none⟩ = some (.slice Au2 nu2 cu2) := (row7 hg4).1 2
          have z0 := (row7 hg4).2 0
          have z1 := (row7 hg4).2 1
          have z2 := (row7 hg4).2 2
          obtain ⟨w5, hw5⟩ : ∃ w5, w5 = ((w4.setCell ⟨w2.heap.size, 0, none⟩ (.int .i64 (n4 : Int))).setCell ⟨w2.heap.size, 1, none⟩ (.bool l4)).setCell ⟨w2.heap.size, 2, none⟩ (.slice Au4 nu4 cu4) := ⟨_, rfl⟩
          have ho5 : ∀ x, x ≠ w2.heap.size → w5.heap[x]? = w4.heap[x]? := fun x hx => by rw [hw5, set_other hx, set_other hx, set_other hx]
          have hs5 : w5.heap.size = w4.heap.size := by rw [hw5]; simp
          have hg5 : w5.heap[w2.heap.size]? = some (.cells #[.int .i64 (n4 : Int), .bool l4, .slice Au4 nu4 cu4] 71 (0, 0)) := by
            rw [hw5, Joins.block_setCell (Joins.block_setCell (Joins.block_setCell hg4 _) _) _]
            simp
          have hga : ∀ x, x < wr.heap.size → ¬ G' x → ¬ More G' wr w2 x := fun x hx hn h => h.elim hn fun h => absurd h.1 (by omega)
          have hgG : ∀ x, More G' wr w2 x → (G x ∨ w.heap.size ≤ x) ∧ x < w2.heap.size := fun x hx => by
            rcases hx with h | h
            · have := HG2.out x h
              exact ⟨this.1, by omega⟩
            · exact ⟨.inr (by omega), h.2⟩
          have hin : ∀ x, x < w2.heap.size → x ≠ a → x ≠ b → x ≠ c → w5.heap[x]? = w2.heap[x]? := fun x hx h1 h2 h3 => by
            rw [ho5 x (by omega), hK4.block x (by omega) (by rintro (h | h | h) <;> contradiction), HB3.out.block x hx]
          have nsec : ∀ x, IsSec w2 x → x ≠ a ∧ x ≠ b ∧ x ≠ c := by
            obtain ⟨v3, hc3, -⟩ := HST.out
            intro x hx
            refine ⟨?_, ?_, ?_⟩
            · rintro rfl
              exact not_sec ((HK2.out.block x la' (fun hm => nga hm.1)).trans hc3.ca) (by decide) hx
            · rintro rfl
              exact not_sec ((HK2.out.block x lb' (fun hm => ngb hm.1)).trans hc3.cb) (by decide) hx
            · rintro rfl
              exact not_sec ((HK2.out.block x lc' (fun hm => ngc hm.1)).trans hc3.cc) (by decide) hx
          have hla5 : w5.heap[a]? = some (.cells #[.int .i64 ((pieces rec.length - (i + 1 + 1) : Nat) : Int)] 3 (0, 0)) := (ho5 a (by omega)).trans hl4
          have hinv5 : AInv w w5 G S r q R D rec k a b c (i + 1) (.pointer (some ⟨w2.heap.size, 0, none⟩)) (.bool (decide (i + 1 < pieces rec.length))) := by
            refine ⟨More G' wr w2, More S' wr w2, y.2, w2.heap.size, rfl, rfl, HSN.out.trans (Prod.ext hy0 rfl), HFY.out, HD2.out.kept (fun _ h => h) (fun _ h => h) (fun x hx hm => hin x hx (fun e => hga a la' nga (e ▸ hm.1)) (fun e => hga b lb' ngb (e ▸ hm.1)) (fun e => hga c lc' ngc (e ▸ hm.1))) (fun x _ hi hx => hin x hx (nsec x hi).1 (nsec x hi).2.1 (nsec x hi).2.2), fun x hx => ⟨(hgG x hx).1, by have := (hgG x hx).2; omega⟩, ?_, hga a la' nga, hga b lb' ngb, hga c lc' ngc, fun h => absurd (hgG _ h).2 (by omega), by omega, by omega, by omega, hla5, ?_, ⟨_, hg5⟩, ?_⟩
            · intro x hx
              rcases hx with h | h
              · rcases HS2.out x h with h1 | h1
                · exact .inl h1
                · exact .inr ⟨h1.1, by omega⟩
              · exact .inr ⟨by omega, by omega⟩
            · have k3 : Kept w2 (w2.alloc (.cells #[.int .i64 (n2 : Int), .bool l2, .slice Au2 nu2 cu2] 71)) (Mut G w) := Kept.ofBelow HB3.out
              have k4 := (HKK.out.trans k3 (fun _ h => .inl h)).trans hK4 (fun x hx => .inr (by rcases hx with h | h | h <;> omega))
              have k5 : Kept w4 w5 (fun x => x = w2.heap.size) := by
                rw [hw5]
                exact ((Kept.setCell w4 ⟨w2.heap.size, 0, none⟩ _ (fun x => x = w2.heap.size) rfl).trans (Kept.setCell _ ⟨w2.heap.size, 1, none⟩ _ (fun x => x = w2.heap.size) rfl) (fun _ h => .inl h)).trans (Kept.setCell _ ⟨w2.heap.size, 2, none⟩ _ (fun x => x = w2.heap.size) rfl) (fun _ h => .inl h)
              exact k4.trans k5 (fun x hx => .inr (by rw [hx]; omega))
            · intro hlt
              obtain ⟨e1, e2, e3⟩ := hn4 hlt
              have hne : ∀ x, x < w.heap.size → w5.heap[x]? = w4.heap[x]? := fun x hx => ho5 x (by omega)
              exact ⟨n4, l4, d4, _, e1, e2.kept (fun _ h _ => h) (by omega) (fun x hx _ => hne x hx.2), hg5, e3.kept (by omega) (fun x _ h => ho5 x (by rcases h with h | h | h | h <;> omega))⟩
          have HINV5 := Lib.hid hinv5
          have hle4 : okOf (.bool (decide (i + 1 < pieces rec.length))) + leftOf w5 a < okOf (.bool true) + leftOf wr a := by
            rw [leftOf_at hla5, leftOf_at HLA.out, okOf_at, okOf_at]
            by_cases hlt : i + 1 < pieces rec.length
            · simp only [decide_eq_true hlt, if_true]; omega
            · simp only [decide_eq_false hlt, if_true, Bool.false_eq_true, if_false]; omega
          have HLE := Lib.hid hle4
          clear hinv5 hg4 hK4 hl4 hn4 hle4 hla5 nsec hin hgG hga hg5 ho5
          go_wp2_with fail
          rw [← hw5]
          exact ⟨⟨i + 1, hil, HINV5⟩, HLE.out⟩
        · have hyb : (y.1 != 0) = true := by simpa using hy0
          have hX := HX.out
          have hst1 : D.putAll R.first R.count (cut (R.last + 1) rec) = y := (putAll_stop (by rw [HSN.out]; exact hy0)).trans HSN.out
          rw [hst1, if_pos hy0] at hX
          have HX2 := Lib.hid hX
          clear hX hst1
          go_wp2_with fail
          go_ret
          have hsw := HKW.out.size
          rw [HX2.out]
          refine ⟨rfl, HKK.out.mono (fun _ _ h => .inl h), HD2.out.mono (fun x hx => ?_) (fun x hx => ?_), HRR.out.kept (HK2.out.block r (by omega) (fun hm => ?_))⟩
          · rcases hx with h | h
            · rcases (HG2.out x h).1 with h1 | h1
              · exact .inl h1
              · exact .inr ⟨h1, by have := (HG2.out x h).2; omega⟩
            · exact .inr ⟨by omega, h.2⟩
          · rcases hx with h | h
            · rcases HS2.out x h with h1 | h1
              · exact .inl h1
              · exact .inr ⟨h1.1, by omega⟩
            · exact .inr ⟨by omega, h.2⟩
          · rcases (HG2.out r hm.1).1 with h | h
            · exact (HG.out r h).2 rfl
            · omega
      · have hie : i = pieces rec.length := by omega
        rw [decide_eq_false hil]
        have hX := HX.out
        rw [hie, List.take_of_length_le (by rw [cut_length]; exact Nat.le_refl _)] at hput
        rw [hput, if_neg (by simp)] at hX
        have HX2 := Lib.hid hX
        have c4 := hrr.c4
        have c5 := hrr.c5
        have z4 := hrr.fz 4
        have z5 := hrr.fz 5
        have hmm := HM.out
        have b1 : (R.last : Int) + (m : Int) ≤ 4611686018427387904 := by omega
        have HPD := Lib.hid hpd
        have HKW := Lib.hid hkw
        have HRR := Lib.hid hrr
        clear hX hinv hnx hpd hkw hrr hput hgp hla hmm hie
        go_wp2_with fail
        go_ret
        rw [HX2.out]
        have rg : RgAt ((wr.setCell ⟨r, 4, none⟩ (.int .i64 ((R.last + m : Nat) : Int))).setCell ⟨r, 5, none⟩ (.int .i64 ((R.last + m : Nat) : Int))) r q { R with last := R.last + m, top := R.last + m } := (HRR.out.last (R.last + m)).top (R.last + m)
        have hsw := HKW.out.size
        obtain ⟨W, hW⟩ : ∃ W, W = (wr.setCell ⟨r, 4, none⟩ (.int .i64 ((R.last + m : Nat) : Int))).setCell ⟨r, 5, none⟩ (.int .i64 ((R.last + m : Nat) : Int)) := ⟨_, rfl⟩
        rw [← hW] at rg
        have hk5 : Kept wr W (fun x => x = r) := by
          rw [hW]
          exact (Kept.setCell wr ⟨r, 4, none⟩ _ (fun x => x = r) rfl).trans (Kept.setCell _ ⟨r, 5, none⟩ _ (fun x => x = r) rfl) (fun _ h => .inl h)
        have hs5 := hk5.size
        show _ ∧ Kept w ((wr.setCell ⟨r, 4, none⟩ (.int .i64 ((R.last + m : Nat) : Int))).setCell ⟨r, 5, none⟩ (.int .i64 ((R.last + m : Nat) : Int))) _ ∧ PD ((wr.setCell ⟨r, 4, none⟩ (.int .i64 ((R.last + m : Nat) : Int))).setCell ⟨r, 5, none⟩ (.int .i64 ((R.last + m : Nat) : Int))) (More G w ((wr.setCell ⟨r, 4, none⟩ (.int .i64 ((R.last + m : Nat) : Int))).setCell ⟨r, 5, none⟩ (.int .i64 ((R.last + m : Nat) : Int)))) (More S w ((wr.setCell ⟨r, 4, none⟩ (.int .i64 ((R.last + m : Nat) : Int))).setCell ⟨r, 5, none⟩ (.int .i64 ((R.last + m : Nat) : Int)))) q Di ∧ RgAt ((wr.setCell ⟨r, 4, none⟩ (.int .i64 ((R.last + m : Nat) : Int))).setCell ⟨r, 5, none⟩ (.int .i64 ((R.last + m : Nat) : Int))) r q { R with last := R.last + m, top := R.last + m }
        rw [← hW]
        refine ⟨rfl, (HKW.out.mono (fun _ _ h => .inl h)).trans hk5 (fun x hx => .inl (.inr hx)), HPD.out.kept (fun x hx => ?_) (fun x hx => ?_) (fun x hx hm => hk5.block x hx (fun e => (hGr x hm.1).2 e)) (fun x _ hi hx => hk5.block x hx (fun e => not_sec HRR.out (by decide) (e ▸ hi))), rg⟩
        · rcases (hG' x hx).1 with h1 | h1
          · exact .inl h1
          · exact .inr ⟨h1, by have := (hG' x hx).2; omega⟩
        · rcases hS' x hx with h1 | h1
          · exact .inl h1
          · exact .inr ⟨h1.1, by omega⟩
end Go.Proofs.Ytlokehekkllbeaa
