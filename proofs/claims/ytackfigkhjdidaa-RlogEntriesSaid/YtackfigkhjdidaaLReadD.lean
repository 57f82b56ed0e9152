/-
  The entry of some bytes: the document's Read, what holds while it reads. No statement is proved here. No condition.
-/
import Derived.Test.YtackfigkhjdidaaLReadW
import Derived.Test.YtackfigkhjdidaaLChkD
import Derived.Test.YtackfigkhjdidaaRefS
import Derived.Test.YtackfigkhjdidaaRef
namespace Go.Proofs.Ytackfigkhjdidaa
open Go.RowKit

set_option maxRecDepth 100000 in
theorem xnew_any (l : List UInt8) (v : Value) (w : World) (hr : Rd w w.heap.size v l) (hl : l.length ≤ 1000000) :
    Calls Try.prog 66 #[v] w fun e w' => ∃ R, e = .returned (.pointer (some ⟨R, 0, none⟩)) ∧ w.heap.size ≤ R ∧ Rdr 187 w' R (some l) ∧ Below w.heap.size w w' := by
  obtain ⟨iu, hiu, z0, z1, z2⟩ := info_parts info_u8
  have hb1 : Below w.heap.size w (w.alloc (.cells #[] 5)) := (Below.refl _ _).alloc (Nat.le_refl _) _
  have hown1 : (w.alloc (.cells #[] 5)).ownsRow w.heap.size 5 1 (.slice (some ⟨w.heap.size, 0, none⟩) 0 0) 0 (BS []) := World.ownsRow_lit w #[] 0 (Nat.le_refl _) (by unfold maxLen; omega) rfl
  have hr1 : Rd (w.alloc (.cells #[] 5)) w.heap.size v l := hr.below hb1 (Nat.le_refl _)
  obtain ⟨v', w', hrn, h2, h3⟩ := run_app (P := Try.prog) (w := w.alloc (.cells #[] 5)) w.heap.size 23 23 5 iu Try.underlying23 hiu z0 z1 z2 _ v [] l 0 hown1 w.heap.size hr1 (by simp; omega) hb1.size
  rw [Nat.zero_add, List.nil_append] at h2
  obtain ⟨A, c, rfl⟩ := own_slice h2
  have hbw : Below w.heap.size w w' := hb1.grown h3 hb1.size (fun p hp => by have h1 : w.heap.size = p := Option.some.inj hp; omega)
  have HAP := Lib.hid hrn
  have HD := Lib.hid (Rd.own h2)
  have HB := Lib.hid hbw
  clear hr hb1 hown1 hr1 hrn h2 h3 hbw
  go_enter Try.func66, Try.ntmps66
  go_wp2_with (at_builtin; go_must (refine Lib.wpList_append_run _ rfl (.tmp 3) (.tmp 4) 23 23 rfl _ _ rfl rfl _ _ HAP.out ?_))
  go_ret
  exact ⟨w'.heap.size, rfl, HB.out.size, ⟨_, heap_alloc_new w' _, HD.out.keep (Nat.le_refl _) fun p hp => World.cell?_alloc_lt w' _ p hp⟩, HB.out.alloc HB.out.size _⟩
set_option maxRecDepth 100000 in
theorem xdone_any (R : Nat) (st : Option (List UInt8)) (w : World) (h : Rdr 187 w R st) :
    Calls Try.prog 75 #[.pointer (some ⟨R, 0, none⟩)] w fun e w' => e = .returned (.bool (st == some [])) ∧ w = w' := by
  obtain ⟨v, hh, hr⟩ := h
  obtain ⟨hc, _⟩ := row_cells hh
  obtain ⟨A, c, rfl, h1, h2, h3, h4⟩ := hr
  have hc0 : w.cell? ⟨R, 0, none⟩ = some (.slice A (st.getD []).length c) := hc 0
  have hc1 : w.cell? ⟨R, 1, none⟩ = some (.bool st.isNone) := hc 1
  clear hc hh h1 h2 h3 h4
  cases st with
  | none =>
    go_enter Try.func75, Try.ntmps75
    go_wp2_with fail
    go_ret
    exact ⟨rfl, rfl⟩
  | some l =>
    cases l with
    | nil =>
      go_enter Try.func75, Try.ntmps75
      go_wp2_with fail
      go_ret
      exact ⟨rfl, rfl⟩
    | cons a l =>
      have hne : ((some (a :: l) : Option (List UInt8)) == some []) = false := by simp
      rw [hne]
      obtain ⟨m, hm⟩ : ∃ m : Nat, m = ((some (a :: l)).getD ([] : List UInt8)).length := ⟨_, rfl⟩
      rw [← hm] at hc0
      have hm0 : ¬ (m : Int) = 0 := by rw [hm]; simp; omega
      have hm1 : ((m : Int) == 0) = false := by rw [beq_eq_false_iff_ne]; exact hm0
      have hm2 : ¬ m = 0 := by omega
      clear hm hne
      go_enter Try.func75, Try.ntmps75
      go_wp2_with fail
      go_ret
      exact ⟨rfl, rfl⟩
/-- a reading under way: the reader, the entry so far, the result's block -/
structure RdSd (w0 w : World) (R ee r : Nat) (st : Option (List UInt8)) (t k : Int) (d : ByteArray) (vl : Value) (l : List Int) : Prop where
  rdr : Rdr 187 w R st
  e : w.heap[ee]? = some (.cells #[.int .i64 t, .int .u8 k, .string d, vl] 50 (0, 0))
  q : w.heap[r]? = some (.cells #[.int .i64 0, .int .u8 0, .string ⟨#[]⟩, .slice none 0 0] 50 (0, 0))
  own : inR.Own w ee 3 vl l
  below : Below w0.heap.size w0 w
  lo : w0.heap.size ≤ r ∧ r < R ∧ R < ee
theorem RdSd.call {w0 w w' : World} {R ee r : Nat} {st st' : Option (List UInt8)} {t k : Int} {d : ByteArray} {vl : Value} {l : List Int} (h : RdSd w0 w R ee r st t k d vl l) (hg : w.grownBy w' (some R)) (hr : Rdr 187 w' R st') : RdSd w0 w' R ee r st' t k d vl l := by
  have lo := h.lo
  have hb : ∀ b, b < w.heap.size → b ≠ R → w'.heap[b]? = w.heap[b]? := fun b hb hn => hg.block b hb fun e => hn (Option.some.inj e)
  refine ⟨hr, (hb ee (lt_of_heap h.e) (by omega)).trans h.e, (hb r (lt_of_heap h.q) (by omega)).trans h.q, row_same h.own fun b hbb => hb b (h.own.lt b hbb).2 fun e => ?_, h.below.grown hg h.below.size fun p hp => by have := Option.some.inj hp; omega, lo⟩
  subst e
  obtain ⟨cur, hc⟩ := row_type h.own hbb
  obtain ⟨v, hv, -⟩ := h.rdr
  exact apart_T hc hv (by decide) rfl
theorem RdSd.drew {w0 w : World} {R ee r : Nat} {st : Option (List UInt8)} {t k : Int} {d : ByteArray} {vl : Value} {l : List Int} (h : RdSd w0 w R ee r st t k d vl l) : RdSd w0 w.drew R ee r st t k d vl l :=
  ⟨h.rdr, h.e, h.q, h.own, h.below.trans (Below.refl _ _).drew, h.lo⟩
/-- the entry's block is written -/
theorem RdSd.put {w0 w w' : World} {R ee r : Nat} {st : Option (List UInt8)} {t k t' k' : Int} {d d' : ByteArray} {vl vl' : Value} {l l' : List Int} (h : RdSd w0 w R ee r st t k d vl l) (he : w'.heap[ee]? = some (.cells #[.int .i64 t', .int .u8 k', .string d', vl'] 50 (0, 0))) (hf : ∀ b, b ≠ ee → w'.heap[b]? = w.heap[b]?) (ho : inR.Own w' ee 3 vl' l') (hb : Below w0.heap.size w0 w') : RdSd w0 w' R ee r st t' k' d' vl' l' := by
  have lo := h.lo
  obtain ⟨v, h1, h2⟩ := h.rdr
  exact ⟨⟨v, (hf R (by omega)).trans h1, h2.keep (Nat.le_refl _) fun a ha => World.cell?_of_block (hf a.block (by omega))⟩, he, (hf r (by omega)).trans h.q, ho, hb, lo⟩
theorem RdSd.own_far {w0 w : World} {R ee r i : Nat} {st : Option (List UInt8)} {t k : Int} {d : ByteArray} {vl u : Value} {l : List Int} (h : RdSd w0 w R ee r st t k d vl l) : inR.Own (w.setCell ⟨ee, i, none⟩ u) ee 3 vl l :=
  row_same h.own fun b hb => Below.heap_setCell w ⟨ee, i, none⟩ u b fun e => by
    subst e
    obtain ⟨cur, hc⟩ := row_type h.own hb
    exact apart_T hc h.e (by decide) rfl
theorem RdSd.set0 {w0 w : World} {R ee r : Nat} {st : Option (List UInt8)} {t k : Int} {d : ByteArray} {vl : Value} {l : List Int} (h : RdSd w0 w R ee r st t k d vl l) (n : Int) : RdSd w0 (w.setCell ⟨ee, 0, none⟩ (.int .i64 n)) R ee r st n k d vl l :=
  h.put (by rw [Joins.block_setCell h.e _]; rfl) (fun b hb => Below.heap_setCell w ⟨ee, 0, none⟩ _ b hb) h.own_far (h.below.setCell (p := ⟨ee, 0, none⟩) (by have := h.lo; dsimp only; omega) _)
theorem RdSd.set1 {w0 w : World} {R ee r : Nat} {st : Option (List UInt8)} {t k : Int} {d : ByteArray} {vl : Value} {l : List Int} (h : RdSd w0 w R ee r st t k d vl l) (n : Int) : RdSd w0 (w.setCell ⟨ee, 1, none⟩ (.int .u8 n)) R ee r st t n d vl l :=
  h.put (by rw [Joins.block_setCell h.e _]; rfl) (fun b hb => Below.heap_setCell w ⟨ee, 1, none⟩ _ b hb) h.own_far (h.below.setCell (p := ⟨ee, 1, none⟩) (by have := h.lo; dsimp only; omega) _)
theorem RdSd.set2 {w0 w : World} {R ee r : Nat} {st : Option (List UInt8)} {t k : Int} {d : ByteArray} {vl : Value} {l : List Int} (h : RdSd w0 w R ee r st t k d vl l) (s : ByteArray) : RdSd w0 (w.setCell ⟨ee, 2, none⟩ (.string s)) R ee r st t k s vl l :=
  h.put (by rw [Joins.block_setCell h.e _]; rfl) (fun b hb => Below.heap_setCell w ⟨ee, 2, none⟩ _ b hb) h.own_far (h.below.setCell (p := ⟨ee, 2, none⟩) (by have := h.lo; dsimp only; omega) _)
theorem RdSd.cells {w0 w : World} {R ee r : Nat} {st : Option (List UInt8)} {t k : Int} {d : ByteArray} {vl : Value} {l : List Int} (h : RdSd w0 w R ee r st t k d vl l) : (w.cell? ⟨ee, 0, none⟩ = some (.int .i64 t) ∧ w.cell? ⟨ee, 1, none⟩ = some (.int .u8 k) ∧ w.cell? ⟨ee, 2, none⟩ = some (.string d) ∧ w.cell? ⟨ee, 3, none⟩ = some vl) ∧ ∀ i, w.frozen? ⟨ee, i, none⟩ = false :=
  ⟨⟨(blk_cells h.e).1 0, (blk_cells h.e).1 1, (blk_cells h.e).1 2, (blk_cells h.e).1 3⟩, (blk_cells h.e).2⟩
/-- one more number of the list -/
theorem RdSd.more {w0 w : World} {R ee r : Nat} {st : Option (List UInt8)} {t k : Int} {d : ByteArray} {A : Option Addr} {c : Nat} {l : List Int} (h : RdSd w0 w R ee r st t k d (.slice A l.length c) l) (n : Int) (hl : l.length ≤ 5) :
    ∃ A7 c7 w7, (Builtin.append_ #[32, 32] 32 #[.slice A l.length c, .slice (some ⟨w.heap.size, 0, none⟩) 1 1]).run Try.prog (w.alloc (.cells #[.int .i64 n] 3)) = .ok (.slice A7 (l.length + 1) c7) w7 ∧
      w7.cell? ⟨ee, 3, none⟩ = some (.slice A l.length c) ∧ w7.frozen? ⟨ee, 3, none⟩ = false ∧ RdSd w0 (w7.setCell ⟨ee, 3, none⟩ (.slice A7 (l.length + 1) c7)) R ee r st t k d (.slice A7 (l ++ [n]).length c7) (l ++ [n]) := by
  obtain ⟨ii, hii, z0, z1, z2⟩ := info_parts info_cint
  have hb1 : Below w.heap.size w (w.alloc (.cells #[.int .i64 n] 3)) := (Below.refl _ _).alloc (Nat.le_refl _) _
  have hx : inR.N (w.alloc (.cells #[.int .i64 n] 3)) Any (.slice (some ⟨w.heap.size, 0, none⟩) 1 1) [n] := Rec.one_row (R := inR) (N := Any) (a := n) (heap_alloc_new w _) trivial
  obtain ⟨v', w7, hr, ho, hg, hat⟩ := Rec.app (P := Try.prog) (t := 32) Try.underlying32 hii z0 z1 z2 rfl (by decide) (h.own.below hb1) hx (by unfold maxLen; simp; omega) (by simp; omega) (Nat.le_trans (Nat.le_of_lt (lt_of_heap h.e)) hb1.size)
  obtain ⟨A7, c7, rfl⟩ := ho.slice
  have hlen : (l ++ [n]).length = l.length + 1 := by simp
  have lo := h.lo
  have hf7 : ∀ b, b < w.heap.size → (Value.slice A l.length c).ownBlock ≠ some b → w7.heap[b]? = w.heap[b]? := fun b hb hn => (hg.block b (Nat.lt_of_lt_of_le hb hb1.size) fun e => hn e.symm).trans (hb1.block b hb)
  have notT : ∀ b cs T, w.heap[b]? = some (.cells cs T (0, 0)) → T ≠ 3 → (Value.slice A l.length c).ownBlock ≠ some b := fun b cs T hb hT e => by
    obtain ⟨cur, hc⟩ := row_type h.own e
    exact apart_T hc hb (fun e => hT e.symm) rfl
  have he7 := (hf7 ee (lt_of_heap h.e) (notT _ _ _ h.e (by decide))).trans h.e
  have hq7 := (hf7 r (lt_of_heap h.q) (notT _ _ _ h.q (by decide))).trans h.q
  obtain ⟨v, hv1, hv2⟩ := h.rdr
  have hR7 := (hf7 R (lt_of_heap hv1) (notT _ _ _ hv1 (by decide))).trans hv1
  have hB7 : Below w0.heap.size w0 w7 := (h.below.trans (Joins.below_le hb1 h.below.size)).grown hg (Nat.le_trans h.below.size hb1.size) fun p hp => by have := ((h.own.below hb1).lt p hp).1; omega
  have hrd7 : Rdr 187 w7 R st := ⟨v, hR7, by
    obtain ⟨Av, cv, hve, k1, k2, k3, k4⟩ := hv2
    refine ⟨Av, cv, hve, k1, k2, k3, fun hn => ?_⟩
    obtain ⟨b, o, hA, hb, hc⟩ := k4 hn
    refine ⟨b, o, hA, hb, fun i x hx => ?_⟩
    have hcell := hc i x hx
    have hbT : (Value.slice A l.length c).ownBlock ≠ some b := fun e => by
      have := (h.own.lt b e).1
      omega
    exact (World.cell?_of_block (a := ⟨b, o + i, none⟩) (hf7 b (World.block_lt_of_cell? w _ hcell) hbT)).trans hcell⟩
  have hown7 : inR.Own w7 ee 3 (.slice A7 (l ++ [n]).length c7) (l ++ [n]) := ho
  have hfarS : ∀ b, b ≠ ee → (w7.setCell ⟨ee, 3, none⟩ (.slice A7 (l ++ [n]).length c7)).heap[b]? = w7.heap[b]? := fun b hb => Below.heap_setCell w7 ⟨ee, 3, none⟩ _ b hb
  rw [← hlen]
  refine ⟨A7, c7, w7, hr, (blk_cells he7).1 3, (blk_cells he7).2 3, ⟨⟨v, (hfarS R (by omega)).trans hR7, ?_⟩, by rw [Joins.block_setCell he7 _]; rfl, (hfarS r (by omega)).trans hq7, ?_, hB7.setCell (p := ⟨ee, 3, none⟩) (by dsimp only; omega) _, lo⟩⟩
  · obtain ⟨v2, e1, e2⟩ := hrd7
    rw [hR7] at e1
    injection e1 with e1
    injection e1 with e1
    have e1 : #[v, Value.bool st.isNone] = #[v2, Value.bool st.isNone] := e1
    injection e1 with e1
    injection e1 with e1
    subst e1
    exact e2.keep (Nat.le_refl _) fun a ha => World.cell?_of_block (hfarS a.block (by omega))
  · exact row_same hown7 fun b hb => hfarS b fun e => by
      subst e
      obtain ⟨cur, hc⟩ := row_type hown7 hb
      exact apart_T hc he7 (by decide) rfl
end Go.Proofs.Ytackfigkhjdidaa
