/-
  Rows of packets in memory: each in a block of its own. No statement is proved here. No condition.
-/
import Derived.Test.YtfmaocinckeagaaDoorQRead
import Derived.Test.YtfmaocinckeagaaDoorEMut
import Derived.Laws.OwnMore
namespace Go.Proofs.YtfmaocinckeagaaDoor
open Go.RowKit

/-- a slice's head -/
structure Sl where
  a : Option Addr
  n : Nat
  c : Nat
def Sl.v (s : Sl) : Value := .slice s.a s.n s.c
def slR : Rec Sl where
  vals s := [.slice s.a s.n s.c]
  size := 1
  len _ := rfl
  one s u hu := by simp at hu; rw [hu]; rfl
theorem Sl.of {w : World} {B : Nat} {T : TypeId} {k : Nat} {v : Value} {n : Nat} {xs : List Value} (h : w.ownsRow B T k v n xs) : ∃ s : Sl, v = s.v := by
  rcases h.2 with ⟨hv, -⟩ | ⟨g, cap, cur, hv, -⟩
  · exact ⟨⟨none, 0, 0⟩, hv⟩
  · exact ⟨⟨some ⟨g, 0, none⟩, n, cap⟩, hv⟩
/-- a row of lists of bytes, each in a block of its own -/
structure Cuts (w : World) (B : Nat) (v : Value) (ls : List (List UInt8)) (ss : List Sl) : Prop where
  row : slR.Own w B 27 v ss
  len : ss.length = ls.length
  own : ∀ (i : Nat) (s : Sl) (l : List UInt8), ss[i]? = some s → ls[i]? = some l → w.ownsRow B 5 1 s.v l.length (BS l)
  apart : ∀ (i j : Nat) (s t : Sl) (p : Nat), ss[i]? = some s → ss[j]? = some t → s.v.ownBlock = some p → t.v.ownBlock = some p → i = j
section
variable {w w' : World} {B : Nat} {v : Value} {ls : List (List UInt8)} {ss : List Sl}
theorem types_S : (27 : TypeId) ≠ 5 := by decide
theorem Cuts.same (h : Cuts w B v ls ss) (hk : ∀ b, B ≤ b → b < w.heap.size → w'.heap[b]? = w.heap[b]?) : Cuts w' B v ls ss :=
  ⟨h.row.same hk, h.len, fun i s l hs hl => row_same (h.own i s l hs hl) fun p hp => hk p ((h.own i s l hs hl).lt p hp).1 ((h.own i s l hs hl).lt p hp).2, h.apart⟩
theorem Cuts.below (h : Cuts w B v ls ss) (hb : Below w.heap.size w w') : Cuts w' B v ls ss := h.same fun b _ hl => hb.block b hl
theorem Cuts.base {C : Nat} (h : Cuts w B v ls ss) (hC : C ≤ B) : Cuts w C v ls ss := ⟨h.row.base hC, h.len, fun i s l hs hl => own_base (h.own i s l hs hl) hC, h.apart⟩
theorem Cuts.rd (h : Cuts w B v ls ss) {i : Nat} {s : Sl} {l : List UInt8} (hs : ss[i]? = some s) (hl : ls[i]? = some l) : Rd w w.heap.size s.v l := Rd.own (h.own i s l hs hl)
theorem Cuts.slice (h : Cuts w B v ls ss) : ∃ A c, v = .slice A ls.length c := by
  obtain ⟨A, c, hv⟩ := h.row.slice
  exact ⟨A, c, by rw [hv, h.len]⟩
theorem Cuts.sl (h : Cuts w B v ls ss) {i : Nat} (hi : i < ls.length) : ∃ s, ss[i]? = some s := ⟨_, List.getElem?_eq_getElem (by rw [h.len]; exact hi)⟩
/-- the head at a place, as it lies -/
theorem Cuts.cell (h : Cuts w B v ls ss) {i : Nat} {s : Sl} (hs : ss[i]? = some s) : ∃ b o n k, v = .slice (some ⟨b, o, none⟩) n k ∧ b < w.heap.size ∧ w.cell? ⟨b, o + i, none⟩ = some (.slice s.a s.n s.c) := by
  obtain ⟨b, o, n, k, hv, -, hb, hc⟩ := h.row.n.cell hs
  have := hc 0 _ rfl
  rw [show o + i * slR.size + 0 = o + i by show o + i * 1 + 0 = o + i; omega] at this
  exact ⟨b, o, n, k, hv, hb, this⟩
theorem Cuts.nil (w : World) (B : Nat) : Cuts w B (.slice none 0 0) [] [] := ⟨Rec.Own.none _ _ _ _, rfl, (fun i s l hs => by simp at hs), (fun i j s t p hs => by simp at hs)⟩
/-- an element set to a packet in new memory -/
theorem Cuts.set {C i k : Nat} {s : Sl} {l : List UInt8} (h : Cuts w B v ls ss) (hb : Below w.heap.size w w') (hB : B ≤ w.heap.size) (ho : w'.ownsRow C 5 1 s.v k (BS l)) (hC : w.heap.size ≤ C) (hi : i < ls.length) :
    ∃ g cap, v = .slice (some ⟨g, 0, none⟩) ls.length cap ∧ B ≤ g ∧ ls.length ≤ cap ∧ (∃ x, w'.cell? ⟨g, i, none⟩ = some x) ∧ w'.frozen? ⟨g, i, none⟩ = false ∧ Cuts (w'.setCell ⟨g, i, none⟩ (.slice s.a s.n s.c)) B v (ls.set i l) (ss.set i s) ∧ Below B w (w'.setCell ⟨g, i, none⟩ (.slice s.a s.n s.c)) := by
  have h1 := h.below hb
  have hi2 : i < ss.length := by rw [h.len]; exact hi
  obtain ⟨g, cap, hv, hgB, hgl, hn, hc, hcell, hfz, hupd⟩ := own_upd h1.row hi2
  obtain ⟨hu1, hu2⟩ := hupd s
  have hset : w'.setCells g (i * slR.size) (slR.vals s) = w'.setCell ⟨g, i, none⟩ (.slice s.a s.n s.c) := by
    show w'.setCells g (i * 1) [Value.slice s.a s.n s.c] = _
    rw [Nat.mul_one]
    rfl
  rw [hset] at hu1 hu2
  have hrow : v.ownBlock = some g := by rw [hv]; rfl
  have hgl0 : g < w.heap.size := (h.row.lt g hrow).2
  refine ⟨g, cap, by rw [hv, h.len], hgB, by rw [← h.len]; exact hn, ⟨_, by have := hcell 0 _ rfl; rw [show i * slR.size + 0 = i by show i * 1 + 0 = i; omega] at this; exact this⟩, hfz _, ⟨hu1, by simp [h.len], ?_, ?_⟩, (Joins.below_le hb hB).trans hu2⟩
  · intro j t m ht hm
    by_cases hj : i = j
    · subst hj
      rw [List.getElem?_set_self hi2] at ht
      rw [List.getElem?_set_self hi] at hm
      injection ht with ht
      injection hm with hm
      subst ht hm
      have hk := ho.1
      rw [BS_length] at hk
      have hk1 : l.length = k := by omega
      rw [hk1]
      exact row_same (own_base ho (Nat.le_trans hB hC)) fun p hp => set_far (by have := (ho.lt p hp).1; omega)
    · rw [List.getElem?_set_ne hj] at ht hm
      exact row_same (h1.own j t m ht hm) fun p hp => set_far (fun e => rows_apart h1.row (h1.own j t m ht hm) types_S hrow (show t.v.ownBlock = some g by rw [hp, e]) rfl)
  · intro a b x y p hx hy hp hq
    have fresh : ∀ (c : Nat) (z : Sl), ss[c]? = some z → z.v.ownBlock = some p → p < w.heap.size := fun c z hz hzp => by
      obtain ⟨m, hm⟩ : ∃ m, ls[c]? = some m := ⟨_, List.getElem?_eq_getElem (by rw [← h.len]; exact (List.getElem?_eq_some_iff.1 hz).1)⟩
      exact ((h.own c z m hz hm).lt p hzp).2
    have hnew : s.v.ownBlock = some p → w.heap.size ≤ p := fun e => Nat.le_trans hC (ho.lt p e).1
    by_cases ha : i = a <;> by_cases hb' : i = b
    · omega
    · subst ha
      rw [List.getElem?_set_self hi2] at hx
      rw [List.getElem?_set_ne hb'] at hy
      injection hx with hx
      subst hx
      have := fresh b y hy hq
      have := hnew hp
      omega
    · subst hb'
      rw [List.getElem?_set_self hi2] at hy
      rw [List.getElem?_set_ne ha] at hx
      injection hy with hy
      subst hy
      have := fresh a x hx hp
      have := hnew hq
      omega
    · rw [List.getElem?_set_ne ha] at hx
      rw [List.getElem?_set_ne hb'] at hy
      exact h.apart a b x y p hx hy hp hq
end
theorem info_Sl : (Tryd.prog.info? 27).map (fun i => (i.zero, i.size, i.bytes)) = some (some (.slice none 0 0), 1, 24) := by kernel_rfl
/-- a packet in new memory put behind -/
theorem Cuts.app {w w' : World} {B C k : Nat} {v : Value} {ls : List (List UInt8)} {ss : List Sl} {s : Sl} {l : List UInt8} (h : Cuts w B v ls ss) (hb : Below w.heap.size w w') (hB : B ≤ w.heap.size) (ho : w'.ownsRow C 5 1 s.v k (BS l)) (hC : w.heap.size ≤ C) (hn : ls.length ≤ 100000) :
    ∃ v' w3, (Builtin.append_ #[23, 23] 23 #[v, .slice (some ⟨w'.heap.size, 0, none⟩) 1 1]).run Tryd.prog (w'.alloc (.cells #[.slice s.a s.n s.c] 27)) = .ok v' w3 ∧ Cuts w3 B v' (ls ++ [l]) (ss ++ [s]) ∧ Below B w w3 ∧ (w'.alloc (.cells #[.slice s.a s.n s.c] 27)).grownBy w3 v.ownBlock := by
  have h1 := h.below hb
  obtain ⟨w2, hw2⟩ : ∃ w2, w2 = w'.alloc (.cells #[.slice s.a s.n s.c] 27) := ⟨_, rfl⟩
  have hb2 : Below w'.heap.size w' w2 := by rw [hw2]; exact (Below.refl _ _).alloc (Nat.le_refl _) _
  have hx2 : w2.heap[w'.heap.size]? = some (.cells (slR.vals s).toArray 27 (0, 0)) := by rw [hw2]; exact heap_alloc_new w' _
  have h2 := h1.below hb2
  rw [← hw2]
  obtain ⟨i0, hi, hz0, hz1, hz2⟩ := info_parts info_Sl
  obtain ⟨v', w3, hr, hown, hg, hat⟩ := Rec.app (P := Tryd.prog) (R := slR) (t := 23) Tryd.underlying23 hi hz0 hz1 hz2 rfl (by decide) h2.row (Rec.one_row (N := Any) hx2 trivial) (by unfold maxLen; rw [h.len]; simp; omega) (by rw [h.len]; simp; omega) (Nat.le_trans hB (Nat.le_trans hb.size hb2.size))
  have hw : Below B w w2 := (Joins.below_le hb hB).trans (Joins.below_le hb2 (Nat.le_trans hB hb.size))
  refine ⟨v', w3, hr, ⟨hown, by simp [h.len], ?_, ?_⟩, hw.grown hg (Nat.le_trans hB hw.size) (fun q hq => (h2.row.lt q hq).1), hg⟩
  · intro j t m ht hm
    rcases Nat.lt_trichotomy j ls.length with hj | hj | hj
    · rw [List.getElem?_append_left (by rw [h.len]; exact hj)] at ht
      rw [List.getElem?_append_left hj] at hm
      exact row_same (h2.own j t m ht hm) fun p hp => hg.block p ((h2.own j t m ht hm).lt p hp).2 (fun e => rows_apart h2.row (h2.own j t m ht hm) types_S e.symm hp rfl)
    · subst hj
      rw [List.getElem?_append_right (by rw [h.len]; exact Nat.le_refl _), h.len, Nat.sub_self] at ht
      rw [List.getElem?_append_right (Nat.le_refl _), Nat.sub_self] at hm
      injection ht with ht
      injection hm with hm
      subst ht hm
      have hk := ho.1
      rw [BS_length] at hk
      have hk1 : l.length = k := by omega
      rw [hk1]
      have ho2 := row_same (own_base ho (Nat.le_trans hB hC)) fun p hp => hb2.block p (ho.lt p hp).2
      exact row_same ho2 fun p hp => hg.block p (ho2.lt p hp).2 (fun e => rows_apart h2.row ho2 types_S e.symm hp rfl)
    · rw [List.getElem?_append_right (by omega)] at hm
      rw [List.getElem?_eq_none (by simp; omega)] at hm
      cases hm
  · intro a b x y p hx hy hp hq
    have fresh : ∀ (c : Nat) (z : Sl), ss[c]? = some z → z.v.ownBlock = some p → p < w.heap.size := fun c z hz hzp => by
      obtain ⟨m, hm⟩ : ∃ m, ls[c]? = some m := ⟨_, List.getElem?_eq_getElem (by rw [← h.len]; exact (List.getElem?_eq_some_iff.1 hz).1)⟩
      exact ((h.own c z m hz hm).lt p hzp).2
    have hnew : s.v.ownBlock = some p → w.heap.size ≤ p := fun e => Nat.le_trans hC (ho.lt p e).1
    have split : ∀ (c : Nat) (z : Sl), (ss ++ [s])[c]? = some z → (c < ss.length ∧ ss[c]? = some z) ∨ (c = ss.length ∧ z = s) := fun c z hz => by
      rcases Nat.lt_or_ge c ss.length with hc | hc
      · rw [List.getElem?_append_left hc] at hz
        exact .inl ⟨hc, hz⟩
      · have hc2 := (List.getElem?_eq_some_iff.1 hz).1
        simp at hc2
        have hce : c = ss.length := by omega
        rw [hce, List.getElem?_append_right (Nat.le_refl _), Nat.sub_self] at hz
        injection hz with hz
        exact .inr ⟨hce, hz.symm⟩
    rcases split a x hx with ⟨ha, hx2⟩ | ⟨ha, ex⟩ <;> rcases split b y hy with ⟨hb', hy2⟩ | ⟨hb', ey⟩
    · exact h.apart a b x y p hx2 hy2 hp hq
    · rw [ey] at hq
      have := fresh a x hx2 hp
      have := hnew hq
      omega
    · rw [ex] at hp
      have := fresh b y hy2 hq
      have := hnew hp
      omega
    · omega
theorem nil_row (n : Nat) : slR.row (List.replicate n ⟨none, 0, 0⟩) = List.replicate n (Value.slice none 0 0) := by
  induction n with
  | zero => rfl
  | succ n ih => rw [List.replicate_succ, List.replicate_succ, slR.row_cons, ih]; rfl
/-- new room for packets -/
theorem Cuts.made (w : World) (n : Nat) (hn : n ≤ 100000) : ∃ w', (Instr.makeSlice 23 (.int .i64 (n : Int)) (.int .i64 (n : Int))).run Tryd.prog w = .ok (.slice (some ⟨w.heap.size, 0, none⟩) n n) w' ∧
    Cuts w' w.heap.size (.slice (some ⟨w.heap.size, 0, none⟩) n n) (List.replicate n []) (List.replicate n ⟨none, 0, 0⟩) ∧ Below w.heap.size w w' := by
  obtain ⟨i0, hi, hz0, hz1, hz2⟩ := info_parts info_Sl
  obtain ⟨w', h1, h2, h3⟩ := run_make_full (P := Tryd.prog) w w.heap.size 23 27 i0 _ 1 Tryd.underlying23 hi hz0 hz1 .i64 .i64 n (by rw [hz2]; omega) (by unfold maxLen; omega) (Nat.le_refl _)
  have hrow : (madeCells (Value.slice none 0 0).cells (n * 1)).toList = slR.row (List.replicate n ⟨none, 0, 0⟩) := by
    show (madeCells #[Value.slice none 0 0] (n * 1)).toList = _
    rw [toList_madeCells_one, Nat.mul_one]
    exact (nil_row n).symm
  rw [hrow] at h2
  refine ⟨w', h1, ⟨by unfold Rec.Own; rw [List.length_replicate]; exact h2, by simp, fun i s l hs hl => ?_, fun i j s t p hs ht hp => ?_⟩, (Below.refl _ _).grown h3 (Nat.le_refl _) (fun k h => by cases h)⟩
  · rw [List.getElem?_replicate] at hs hl
    split at hs
    · rw [if_pos (by assumption)] at hl
      injection hs with hs
      injection hl with hl
      subst hs hl
      exact World.ownsRow_nil _ _ _ _
    · cases hs
  · rw [List.getElem?_replicate] at hs
    split at hs
    · injection hs with hs
      subst hs
      cases hp
    · cases hs
end Go.Proofs.YtfmaocinckeagaaDoor
