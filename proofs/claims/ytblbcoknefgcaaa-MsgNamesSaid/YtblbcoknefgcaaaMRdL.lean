/-
  A list of numbers, read. No statement is proved here. No condition.
-/
import Derived.Test.YtblbcoknefgcaaaMRdG
namespace Go.Proofs.Ytblbcoknefgcaaa
open Go.RowKit

/-- so many things are read, as long as nothing fails -/
def rMany {α : Type} (f : RS → α × RS) : Nat → RS → List α × RS
  | 0, st => ([], st)
  | _ + 1, none => ([], none)
  | n + 1, some l => ((f (some l)).1 :: (rMany f n (f (some l)).2).1, (rMany f n (f (some l)).2).2)
/-- a list, read -/
def rList {α : Type} (f : RS → α × RS) (st : RS) : List α × RS := rMany f (rL st).1.toNat (rL st).2
theorem rMany_zero {α : Type} (f : RS → α × RS) (st : RS) : rMany f 0 st = ([], st) := by cases st <;> rfl
theorem rMany_none {α : Type} (f : RS → α × RS) (n : Nat) : rMany f n none = ([], none) := by cases n <;> rfl
/-- how far the reading of a list has come -/
def Far {α : Type} (f : RS → α × RS) (m : Nat) (st0 : RS) (i : Nat) (L : List α) (st : RS) : Prop := L.length = i ∧ rMany f m st0 = (L ++ (rMany f (m - i) st).1, (rMany f (m - i) st).2)
theorem Far.start {α : Type} (f : RS → α × RS) (m : Nat) (st0 : RS) : Far f m st0 0 [] st0 := ⟨rfl, by simp⟩
theorem Far.step {α : Type} {f : RS → α × RS} {m : Nat} {st0 st : RS} {i : Nat} {L : List α} (h : Far f m st0 i L st) (hi : i < m) (hs : st.isSome = true) : Far f m st0 (i + 1) (L ++ [(f st).1]) (f st).2 := by
  obtain ⟨h1, h2⟩ := h
  refine ⟨by rw [List.length_append, h1]; rfl, ?_⟩
  cases st with
  | none => cases hs
  | some l =>
    rw [h2, show m - i = (m - (i + 1)) + 1 by omega]
    simp only [rMany, List.append_assoc, List.cons_append, List.nil_append]
theorem Far.stop {α : Type} {f : RS → α × RS} {m : Nat} {st0 st : RS} {i : Nat} {L : List α} (h : Far f m st0 i L st) (hi : m ≤ i ∨ st.isSome = false) : rMany f m st0 = (L, st) := by
  obtain ⟨h1, h2⟩ := h
  rw [h2]
  rcases hi with hi | hi
  · rw [show m - i = 0 by omega, rMany_zero]
    simp
  · cases st with
    | none => rw [rMany_none]; simp
    | some l => cases hi
section
variable {w w1 w' : World} {b R o : Nat} {vs us : List Value}
theorem SetTo.keep (h : SetTo w w1 b R o []) {v : Value} (hv : w.cell? ⟨b, o, none⟩ = some v) : SetTo w w1 b R o [v] := by
  refine ⟨h.os, h.tape, h.output, h.size, h.block, fun cs T hc => ?_⟩
  obtain ⟨c1, a1, a2, a3, -⟩ := h.blk cs T hc
  refine ⟨c1, a1, a2, fun j _ => a3 j (by simp; omega), fun _ j u hj => ?_⟩
  match j, hj with
  | 0, hj =>
    have hj := Option.some.inj hj
    subst hj
    rw [Nat.add_zero, a3 o (by simp), ← (blk_cells hc).1 o]
    exact hv
theorem SetTo.far (h : SetTo w w1 b R o vs) (hb : Below w.heap.size w1 w') (hbw : b < w.heap.size) : SetTo w w' b R o vs :=
  ⟨hb.os.trans h.os, hb.tape.trans h.tape, hb.output.trans h.output, Nat.le_trans h.size hb.size, fun k hk h1 h2 => (hb.block k hk).trans (h.block k hk h1 h2), fun cs T hc => by
    obtain ⟨c1, a1, a⟩ := h.blk cs T hc
    exact ⟨c1, (hb.block b hbw).trans a1, a⟩⟩
theorem SetTo.again {cs : Array Value} {T : TypeId} {x : Value} (h : SetTo w w1 b R o [x]) (hk : w1.heap[b]? = some (.cells cs T (0, 0))) (v : Value) : SetTo w (w1.setCell ⟨b, o, none⟩ v) b R o [v] := by
  refine ⟨h.os, h.tape, h.output, by simp only [World.setCell, Array.size_modify]; exact h.size, fun k hkk h1 h2 => (Below.heap_setCell w1 ⟨b, o, none⟩ _ k h1).trans (h.block k hkk h1 h2), fun c0 T0 hc => ?_⟩
  obtain ⟨c1, a1, a2, a3, -⟩ := h.blk c0 T0 hc
  rw [hk] at a1
  have a1 := Option.some.inj a1
  injection a1 with e1 e2
  subst e1 e2
  refine ⟨cs.setIfInBounds o v, Joins.block_setCell hk v, by simp [a2], fun j hj => ?_, fun hs j u hj => ?_⟩
  · rw [Array.getElem?_setIfInBounds_ne (by simp at hj; omega)]
    exact a3 j hj
  · match j, hj with
    | 0, hj => simp at hj hs; subst hj; rw [Nat.add_zero, Array.getElem?_setIfInBounds_self]; simp; omega
theorem SetTo.beside {g q : Nat} (h : SetTo w w1 b R o vs) (k : SetTo w1 w' g R q us) (hg : w.heap.size ≤ g) (hbw : b < w.heap.size) (hbR : b ≠ R) : SetTo w w' b R o vs :=
  ⟨k.os.trans h.os, k.tape.trans h.tape, k.output.trans h.output, Nat.le_trans h.size k.size, fun n hn h1 h2 => (k.block n (Nat.lt_of_lt_of_le hn h.size) (by omega) h2).trans (h.block n hn h1 h2), fun cs T hc => by
    obtain ⟨c1, a1, a⟩ := h.blk cs T hc
    exact ⟨c1, (k.block b (Nat.lt_of_lt_of_le hbw h.size) (by omega) hbR).trans a1, a⟩⟩
theorem SetTo.read {v : Value} (h : SetTo w w' b R o [v]) (hc : CellOf w R b o 1) : w'.cell? ⟨b, o, none⟩ = some v ∧ w'.frozen? ⟨b, o, none⟩ = false ∧ ∃ (cs : Array Value) (T : TypeId), w'.heap[b]? = some (.cells cs T (0, 0)) ∧ o + 1 ≤ cs.size := by
  obtain ⟨cs, T, h1, h2⟩ := hc.ex
  obtain ⟨c1, a1, a2, a3, a4⟩ := h.blk cs T h1
  exact ⟨((blk_cells a1).1 o).trans (a4 h2 0 v rfl), (blk_cells a1).2 o, c1, T, a1, by rw [a2]; exact h2⟩
/-- an owned row that lies neither in the written block nor in the reader's -/
theorem SetTo.own {α : Type} {Q : Rec α} {B : Nat} {T : TypeId} {v : Value} {l : List α} (h : SetTo w w' b R o vs) (hO : Q.Own w B T v l) (hb : b < B) (hR : R < B) : Q.Own w' B T v l :=
  row_same hO fun n hn => h.block n (hO.lt n hn).2 (by have := (hO.lt n hn).1; omega) (by have := (hO.lt n hn).1; omega)
end
/-- one thing more in a row of one's own -/
theorem push_rec {α : Type} {Q : Rec α} {T t : TypeId} {w : World} {B bytes : Nat} {A : Option Addr} {c : Nat} {l : List α} {zv : Value} (ht : Try.prog.underlying t = some (.slice T)) (hi : (Try.prog.info? T).map (fun i => (i.zero, i.size, i.bytes)) = some (some zv, Q.size, bytes)) (hzs : zv.cells.size = Q.size) (hsz : 0 < Q.size) (hbt : bytes ≤ 65536)
    (h : Q.Own w B T (.slice A l.length c) l) (x : α) (hl : l.length ≤ 2147483647) (hB : B ≤ w.heap.size) :
    ∃ A7 c7 w7, (Builtin.append_ #[t, t] t #[.slice A l.length c, .slice (some ⟨w.heap.size, 0, none⟩) 1 1]).run Try.prog (w.alloc (.cells (Q.vals x).toArray T)) = .ok (.slice A7 (l.length + 1) c7) w7 ∧
      Q.Own w7 B T (.slice A7 (l.length + 1) c7) (l ++ [x]) ∧ Below B w w7 ∧ ∀ b, b < w.heap.size → (Value.slice A l.length c).ownBlock ≠ some b → w7.heap[b]? = w.heap[b]? := by
  obtain ⟨ie, hie, z0, z1, z2⟩ : ∃ i, Try.prog.info? T = some i ∧ i.zero = some zv ∧ i.size = Q.size ∧ i.bytes = bytes := by
    cases hh : Try.prog.info? T with
    | none => rw [hh] at hi; cases hi
    | some i =>
      rw [hh] at hi
      have hi := Option.some.inj hi
      injection hi with e1 e2
      injection e2 with e2 e3
      exact ⟨i, rfl, e1, e2, e3⟩
  have hb1 : Below w.heap.size w (w.alloc (.cells (Q.vals x).toArray T)) := (Below.refl _ _).alloc (Nat.le_refl _) _
  have hx1 : Q.N (w.alloc (.cells (Q.vals x).toArray T)) Any (.slice (some ⟨w.heap.size, 0, none⟩) 1 1) [x] := Rec.one_row (R := Q) (N := Any) (a := x) (heap_alloc_new w _) trivial
  have hm1 : (l ++ [x]).length * bytes ≤ 2147483648 * 65536 := Nat.mul_le_mul (by simp; omega) hbt
  obtain ⟨v7, w7, hrun, ho, hg, hat⟩ := Rec.app (P := Try.prog) (t := t) ht hie z0 z1 z2 hzs hsz (h.below hb1) hx1 (by unfold maxLen; simp; omega) (by rw [List.length_append] at hm1; omega) (Nat.le_trans hB hb1.size)
  obtain ⟨A7, c7, hv7⟩ := ho.slice
  have hlen : (l ++ [x]).length = l.length + 1 := by simp
  rw [hlen] at hv7
  subst hv7
  have hk : ∀ b, b < (w.alloc (.cells (Q.vals x).toArray T)).heap.size → (Value.slice A l.length c).ownBlock ≠ some b → w7.heap[b]? = (w.alloc (.cells (Q.vals x).toArray T)).heap[b]? := fun b hb hn => hg.block b hb fun e => hn e.symm
  exact ⟨A7, c7, w7, hrun, ho, (Joins.below_le hb1 hB).grown hg (Nat.le_trans hB hb1.size) (fun p hp => (h.lt p hp).1), fun b hb hn => (hk b (Nat.lt_of_lt_of_le hb hb1.size) hn).trans (hb1.block b hb)⟩
/-- the last thing of a row of one's own is written over -/
theorem fill_own {α : Type} {Q : Rec α} {T : TypeId} {w w' : World} {B R g : Nat} {c n : Nat} {l : List α} {z x : α} (h : Q.Own w B T (.slice (some ⟨g, 0, none⟩) n c) (l ++ [z])) (hs : SetTo w w' g R (l.length * Q.size) (Q.vals x)) : Q.Own w' B T (.slice (some ⟨g, 0, none⟩) n c) (l ++ [x]) := by
  rcases own_opened h with ⟨-, hnil⟩ | ⟨g', cap, rest, hv, hb, hg, hn, hc, hr⟩
  · simp at hnil
  injection hv with v1 v2 v3
  injection v1 with v1
  injection v1 with v1
  subst v1 v2 v3
  obtain ⟨cs', a1, a2, a3, a4⟩ := hs.blk _ _ hg
  have hrow : ∀ y : α, Q.row (l ++ [y]) = Q.row l ++ Q.vals y := fun y => by unfold Rec.row; rw [List.flatMap_append]; simp
  have hll : (Q.row l).length = l.length * Q.size := Q.row_length l
  have hsize : cs'.size = (l.length * Q.size + Q.size) + rest.length := by
    rw [a2]
    simp only [List.size_toArray, List.length_append, hrow, hll, Q.len]
  have e : cs' = (Q.row (l ++ [x]) ++ rest).toArray := by
    apply Array.ext_getElem?
    intro j
    rw [hrow]
    refine Eq.trans ?_ List.getElem?_toArray.symm
    by_cases h1 : j < l.length * Q.size
    · rw [a3 j (.inl h1), List.getElem?_toArray, hrow, List.append_assoc, List.append_assoc, List.getElem?_append_left (by rw [hll]; exact h1), List.getElem?_append_left (by rw [hll]; exact h1)]
    · by_cases h2 : j < l.length * Q.size + Q.size
      · have hj : (Q.vals x)[j - l.length * Q.size]? = some ((Q.vals x)[j - l.length * Q.size]'(by rw [Q.len]; omega)) := List.getElem?_eq_getElem _
        have := a4 (by rw [Q.len, ← a2, hsize]; omega) _ _ hj
        rw [show l.length * Q.size + (j - l.length * Q.size) = j by omega] at this
        rw [this, List.append_assoc, List.getElem?_append_right (by rw [hll]; omega), hll, List.getElem?_append_left (by rw [Q.len]; omega), hj]
      · rw [a3 j (.inr (by rw [Q.len]; omega)), List.getElem?_toArray, hrow, List.append_assoc, List.append_assoc, List.getElem?_append_right (by rw [hll]; omega), List.getElem?_append_right (by rw [Q.len, hll]; omega), List.getElem?_append_right (by rw [hll]; omega), List.getElem?_append_right (by rw [Q.len, hll]; omega), Q.len, Q.len]
  rw [e] at a1
  have := Rec.own_closed (R := Q) (B := B) (l := l ++ [x]) (rest := rest) (cap := c) hb a1 (by simpa using hn) hc (by simpa using hr)
  simpa using this
theorem own_head {α : Type} {Q : Rec α} {T : TypeId} {w : World} {B n c : Nat} {A : Option Addr} {l : List α} (h : Q.Own w B T (.slice A n c) l) (h0 : l ≠ []) : ∃ g, A = some ⟨g, 0, none⟩ ∧ B ≤ g ∧ g < w.heap.size ∧ ∃ cs : Array Value, w.heap[g]? = some (.cells cs T (0, 0)) ∧ l.length * Q.size ≤ cs.size := by
  rcases own_opened h with ⟨-, hnil⟩ | ⟨g, cap, rest, hv, hb, hg, hn, hc, hr⟩
  · exact absurd hnil h0
  · injection hv with v1 v2 v3
    exact ⟨g, v1, hb, lt_of_heap hg, _, hg, by simp [Q.row_length]⟩
theorem info_int3 : (Try.prog.info? 3).map (fun i => (i.zero, i.size, i.bytes)) = some (some (.int .i64 0), 1, 8) := by kernel_rfl
/-- a list's place while it is read -/
structure LiAt {α : Type} (Q : Rec α) (T : TypeId) (w wr : World) (R b o : Nat) (st : RS) (A : Option Addr) (c : Nat) (L : List α) : Prop where
  sto : RdTo w wr R b o st [.slice A L.length c]
  own : Q.Own wr w.heap.size T (.slice A L.length c) L
set_option maxHeartbeats 8000000 in
set_option maxRecDepth 100000 in
/-- list[int] -/
theorem r_list_int (R b o : Nat) (st : RS) (w : World) (h : Rdr 151 w R st) (hc : CellOf w R b o 1) (h0 : w.cell? ⟨b, o, none⟩ = some (.slice none 0 0)) :
    Calls Try.prog 87 #[.iface 77 (.agg #[.pointer (some ⟨R, 0, none⟩)]), .pointer (some ⟨b, o, none⟩), .func (.method "buttery/msg.num") #[.iface 77 (.agg #[.pointer (some ⟨R, 0, none⟩)])] #[]] w fun e w' => e = .returned (.tuple #[]) ∧ ∃ A c, LiAt inR 3 w w' R b o (rList rN st).2 A c (rList rN st).1 := by
  have hRb := hc.lt
  have hbw : b < w.heap.size := by obtain ⟨cs, T, h1, -⟩ := hc.ex; exact lt_of_heap h1
  have cM := r_many R b 0 st w.drew (h.grow (Below.refl _ _).drew) hRb
  have hm := metr_many
  have hv := nilr_many
  have H := Lib.hid (And.intro hc (And.intro h0 (And.intro hRb hbw)))
  have hrl := rL_range st
  obtain ⟨m, hm'⟩ : ∃ m : Nat, (rL st).1 = (m : Int) := ⟨(rL st).1.toNat, by omega⟩
  obtain ⟨s1, hs1⟩ : ∃ s, s = (rL st).2 := ⟨_, rfl⟩
  have HE : Hid (rList rN st = rMany rN m s1) := Lib.hid (by unfold rList; rw [hm', hs1]; rfl)
  have hm31 : m ≤ 2147483647 := by omega
  rw [hm', ← hs1] at cM
  clear h hc hRb hbw hrl hm' hs1
  go_enter Try.func87, Try.ntmps87
  go_wp2_with fail
  apply cut_goal
  case h =>
    intro key
    go_region_with (go_at_call 162; refine cM.mono ?_; rintro e w1 ⟨rfl, hr⟩)
    all_goals (revert hr; revert w1; exact key)
  intro w1 hr
  have hS1 : SetTo w w1 b R o [] := (SetTo.of_below (w' := w.drew) (Below.refl _ _).drew b R o).pre (hr.set.nil_any o)
  have H0 : Hid (Far rN m s1 0 [] s1 ∧ LiAt inR 3 w w1 R b o s1 none 0 []) := Lib.hid ⟨Far.start _ _ _, ⟨⟨hr.rd, hS1.keep H.out.2.1⟩, Rec.Own.none _ _ _ _⟩⟩
  clear cM hm hv hr hS1 h0
  have hm := metr_stopped
  have hm2 := metr_num
  have hv := nilr_stopped
  have hv2 := nilr_num
  go_wp2_with fail
  go_loopw [7, 8] (fun s7 _ wr => ∃ (i : Nat) (L : List Int) (A : Option Addr) (c : Nat) (s : RS), s7 = .int .i64 (i : Int) ∧ i ≤ m ∧ Hid (Far rN m s1 i L s ∧ LiAt inR 3 w wr R b o s A c L)) (fun s7 _ _ => m - (intOf s7).toNat)
  case atStart => exact ⟨0, [], none, 0, s1, rfl, Nat.zero_le _, H0⟩
  case round =>
    clear H0
    obtain ⟨i, L, A, c, s, rfl, hi, hR⟩ := hrel
    obtain ⟨wz, hwz⟩ : ∃ wz : World, wz = wr := ⟨_, rfl⟩
    subst hwz
    by_cases hil : i < m
    · have a1 : (i : Int) < (m : Int) := by omega
      have a0 : (0 : Int) ≤ (i : Int) := by omega
      have cS := r_stopped R s wz hR.out.2.sto.rd
      cases hs : s.isSome with
      | false =>
        rw [hs] at cS
        have HF : Hid (∀ W, Below wz.heap.size wz W → ∃ A c, LiAt inR 3 w W R b o (rList rN st).2 A c (rList rN st).1) := Lib.hid fun W hW => by
          rw [HE.out, hR.out.1.stop (.inr hs)]
          exact ⟨A, c, hR.out.2.sto.below hW, hR.out.2.own.below hW⟩
        clear hR hs
        go_wp2_with fail
        refine cS.mono ?_
        rintro e w2 ⟨rfl, hb2⟩
        have HG := Lib.hid (HF.out w2 hb2)
        clear cS hb2 HF
        go_wp2_with fail
        go_end0
        exact ⟨rfl, HG.out⟩
      | true =>
        rw [hs] at cS
        have HFar := Lib.hid (hR.out.1.step hil hs)
        have hLi : L.length = i := hR.out.1.1
        have HL2 := Lib.hid hR.out.2
        have HLi := Lib.hid hLi
        clear hR hs
        go_wp2_with fail
        refine cS.mono ?_
        rintro e w2 ⟨rfl, hb2⟩
        clear cS
        have hS2 := HL2.out.sto.below hb2
        have hO2 := HL2.out.own.below hb2
        have hrd2 := (hS2.set.read H.out.1).1
        rw [hLi] at hrd2
        have hws : w.heap.size ≤ w2.heap.size := hS2.set.size
        obtain ⟨A7, c7, w7, hap, ho7, hb7, -⟩ := push_rec (Q := inR) (T := 3) (t := 32) (zv := .int .i64 0) (bytes := 8) Try.underlying32 info_int3 rfl (by decide) (by decide) hO2 0 (by omega) hws
        have hS7 := hS2.set.far hb7 H.out.2.2.2
        obtain ⟨hrd7, hfz7, cs7, T7, hk7, hsz7⟩ := hS7.read H.out.1
        have hr7 : Rdr 151 w7 R s := hS2.rd.keepB (Joins.below_le hb7 (by have := H.out.2.2.1; have := H.out.2.2.2; omega))
        rw [hLi] at hap ho7
        obtain ⟨w8, hw8⟩ : ∃ w8, w8 = w7.setCell ⟨b, o, none⟩ (.slice A7 (i + 1) c7) := ⟨_, rfl⟩
        have hS8 : SetTo w w8 b R o [.slice A7 (i + 1) c7] := by rw [hw8]; exact hS7.again hk7 _
        have hrd8 := (hS8.read H.out.1).1
        have hr8 : Rdr 151 w8 R s := by rw [hw8]; exact hr7.setB H.out.2.2.1 _
        have ho8 : inR.Own w8 w.heap.size 3 (.slice A7 (i + 1) c7) (L ++ [0]) := by
          rw [hw8]
          exact row_same ho7 fun n hn => Below.heap_setCell w7 ⟨b, o, none⟩ _ n (show n ≠ b by have := (ho7.lt n hn).1; have := H.out.2.2.2; omega)
        obtain ⟨g, hA7, hgB, hgl, csg, hkg, hsg⟩ := own_head ho8 (by simp)
        subst hA7
        have hRg : R < g := by have := H.out.2.2.1; have := H.out.2.2.2; omega
        have cN := r_num R g i s w8 hr8 ⟨hRg, csg, _, hkg, by rw [List.length_append, hLi, show ([0] : List Int).length = 1 from rfl, show inR.size = 1 from rfl] at hsg; omega⟩
        have HAP := Lib.hid hap
        have HW8 := Lib.hid hw8
        have HN : Hid (∀ W, RdTo w8 W R g i (rN s).2 [.int .i64 (rN s).1] → LiAt inR 3 w W R b o (rN s).2 (some ⟨g, 0, none⟩) c7 (L ++ [(rN s).1])) := Lib.hid fun W hW => by
          have hlen : (L ++ [(rN s).1]).length = i + 1 := by rw [List.length_append, hLi]; rfl
          refine ⟨⟨hW.rd, ?_⟩, ?_⟩
          · rw [hlen]
            exact hS8.beside hW.set hgB H.out.2.2.2 (by have := H.out.2.2.1; omega)
          · rw [hlen]
            refine fill_own (R := R) ho8 ?_
            rw [hLi]
            have e : i * inR.size = i := Nat.mul_one i
            rw [e]
            exact hW.set
        have b1 : (i : Int) < ((i + 1 : Nat) : Int) := by omega
        have b2 : (i : Int) < (i : Int) + 1 := by omega
        obtain ⟨s2, hs2⟩ : ∃ s2, s2 = (rN s).2 := ⟨_, rfl⟩
        obtain ⟨n2, hn2⟩ : ∃ n2, n2 = (rN s).1 := ⟨_, rfl⟩
        rw [← hs2, ← hn2] at cN HN HFar
        clear hs2 hn2 hap hw8 hS2 hO2 hb2 hws ho7 hb7 hS7 hk7 hsz7 hr7 hS8 hr8 ho8 hgB hgl hkg hsg hRg HL2 hLi
        go_upto_region 6 with fail
        go_upto_region 7 with (at_builtin; go_must (refine Lib.wpList_append_run _ rfl (.tmp 37) (.tmp 39) 32 32 rfl _ _ rfl rfl _ _ HAP.out ?_))
        rw [← HW8.out]
        clear HAP HW8
        go_wp2_with fail
        refine cN.mono ?_
        rintro e w9 ⟨rfl, hr9⟩
        have HX := Lib.hid (HN.out w9 hr9)
        clear cN hr9 HN
        go_wp2_with fail
        exact ⟨⟨i + 1, _, _, _, _, by go_num, by omega, Lib.hid ⟨HFar.out, HX.out⟩⟩, by simp [intOf]; omega⟩
    · have a1 : ¬ (i : Int) < (m : Int) := by omega
      have HG : Hid (∃ A c, LiAt inR 3 w wz R b o (rList rN st).2 A c (rList rN st).1) := Lib.hid (by
        rw [HE.out, hR.out.1.stop (.inl (by omega))]
        exact ⟨A, c, hR.out.2⟩)
      clear hR
      go_wp2_with fail
      go_end0
      exact ⟨rfl, HG.out⟩
end Go.Proofs.Ytblbcoknefgcaaa
