/-
  A log in memory, and the calls that tell of it: the program's. No statement is proved here. No condition.
-/
import Derived.Test.YtackfigkhjdidaaLTwinsW
namespace Go.Proofs.Ytackfigkhjdidaa
open Go.RowKit

/-- what s[k:] lies at -/
def atFrom (A : Option Addr) (c k s : Nat) : Option Addr := if c = k then A else A.map (·.add (k * s))
theorem RowN.take {w : World} {N : Nat → Prop} {A : Option Addr} {n c size k : Nat} {xs : List Value} (h : RowN w N (.slice A n c) n size xs) (hk : k ≤ n) : RowN w N (.slice A k c) k size (xs.take (k * size)) := by
  obtain ⟨A0, c0, he, h1, h2, h3, h4, h5⟩ := h
  injection he with e1 _ e2
  subst e1 e2
  have : k * size ≤ n * size := Nat.mul_le_mul_right _ hk
  refine ⟨A, c, rfl, by rw [List.length_take]; omega, by omega, h3, h4, fun h0 => ?_⟩
  obtain ⟨b, o, hA, hb, hs, hc⟩ := h5 (by omega)
  refine ⟨b, o, hA, hb, hs, fun j u hj => hc j u ?_⟩
  rw [List.getElem?_take] at hj
  split at hj
  · exact hj
  · cases hj
theorem RowN.drop {w : World} {N : Nat → Prop} {A : Option Addr} {n c size k : Nat} {xs : List Value} (h : RowN w N (.slice A n c) n size xs) (hk : k ≤ n) : RowN w N (.slice (atFrom A c k size) (n - k) (c - k)) (n - k) size (xs.drop (k * size)) := by
  obtain ⟨A0, c0, he, h1, h2, h3, h4, h5⟩ := h
  injection he with e1 _ e2
  subst e1 e2
  refine ⟨_, _, rfl, by rw [List.length_drop, h1, Nat.mul_sub_right_distrib], by omega, by omega, fun h0 => ?_, fun h0 => ?_⟩
  · unfold atFrom at h0
    split at h0
    · omega
    · cases A with
      | none => have := h4 rfl; omega
      | some a => cases h0
  · obtain ⟨b, o, hA, hb, hs, hc⟩ := h5 (by omega)
    subst hA
    refine ⟨b, o + k * size, ?_, hb, hs, fun j u hj => ?_⟩
    · unfold atFrom
      rw [if_neg (by omega)]
      show some ((⟨b, o, none⟩ : Addr).add (k * size)) = _
      rw [plus_zero]
    · rw [List.getElem?_drop] at hj
      rw [Nat.add_assoc]
      exact hc _ _ hj
theorem drewN_below (w0 w : World) (n : Nat) (B : Nat) (h : Below B w0 w) : Below B w0 (w.drewN n) := h.trans ⟨rfl, rfl, rfl, Nat.le_refl _, fun _ _ => rfl⟩
theorem elem_E : Try.prog.underlying 31 = some (.slice (Try.prog.elem 31)) := by kernel_rfl
theorem size_E (W : World) : (sizeOf (Try.prog.elem 31)).run Try.prog W = .ok 4 W := by kernel_rfl
theorem tillE (W : World) (a : Option Addr) (len c k : Nat) (hc : k ≤ c) : (Instr.slice 31 (.slice a len c) none (some (.int .i64 (k : Int))) none).run Try.prog W = .ok (.slice a k c) W := by
  rw [run_slice_h _ _ _ _ _ elem_E .i64 (k : Int) (by omega) (by omega), size_E]
  simp only [Result.andThen, sliced, Int.toNat_natCast, Nat.sub_zero, Nat.zero_mul]
  split
  · rfl
  · cases a <;> simp [Addr.add]
theorem fromE (W : World) (A : Option Addr) (len c k : Nat) (hl : k ≤ len) : (Instr.slice 31 (.slice A len c) (some (.int .i64 (k : Int))) none none).run Try.prog W = .ok (.slice (atFrom A c k 4) (len - k) (c - k)) W := by
  rw [run_slice_l _ _ _ _ _ elem_E .i64 (k : Int) (by omega) (by omega), size_E]
  simp only [Result.andThen, sliced, Int.toNat_natCast]
  unfold atFrom
  rfl
theorem row_take {α : Type} (R : Rec α) (l : List α) (k : Nat) : R.row (l.take k) = (R.row l).take (k * R.size) := by
  induction l generalizing k with
  | nil => simp [Rec.row]
  | cons a l ih =>
    cases k with
    | zero => simp [Rec.row]
    | succ k =>
      rw [List.take_succ_cons, R.row_cons, R.row_cons, ih, Nat.succ_mul, Nat.add_comm, ← R.len a, List.take_length_add_append]
theorem row_drop {α : Type} (R : Rec α) (l : List α) (k : Nat) : R.row (l.drop k) = (R.row l).drop (k * R.size) := by
  induction l generalizing k with
  | nil => simp [Rec.row]
  | cons a l ih =>
    cases k with
    | zero => simp
    | succ k =>
      rw [List.drop_succ_cons, R.row_cons, ih, Nat.succ_mul, Nat.add_comm, ← R.len a, List.drop_length_add_append]
theorem EntN.take {w : World} {N : Nat → Prop} {A : Option Addr} {c n k : Nat} {l : List EN} (h : EntN w N (.slice A n c) l) (hk : k ≤ l.length) : EntN w N (.slice A k c) (l.take k) := by
  obtain ⟨rs, h1, h2, h3⟩ := h
  obtain ⟨A', c', hv, -, -⟩ := h1.slice
  injection hv with e1 e2 e3
  subst e1 e2 e3
  have := RowN.take (k := k) h1 (by rw [h2]; exact hk)
  refine ⟨rs.take k, ?_, by rw [List.length_take, List.length_take, h2], fun i r e hr he => ?_⟩
  · unfold Rec.N
    rw [row_take, List.length_take, Nat.min_eq_left (by rw [h2]; exact hk)]
    exact this
  · rw [List.getElem?_take] at hr he
    split at hr
    · rename_i hi
      rw [if_pos hi] at he
      exact h3 i r e hr he
    · cases hr
theorem EntN.drop {w : World} {N : Nat → Prop} {A : Option Addr} {c n k : Nat} {l : List EN} (h : EntN w N (.slice A n c) l) (hk : k ≤ l.length) : EntN w N (.slice (atFrom A c k 4) (n - k) (c - k)) (l.drop k) := by
  obtain ⟨rs, h1, h2, h3⟩ := h
  obtain ⟨A', c', hv, -, -⟩ := h1.slice
  injection hv with e1 e2 e3
  subst e1 e2 e3
  have := RowN.drop (k := k) h1 (by rw [h2]; exact hk)
  refine ⟨rs.drop k, ?_, by rw [List.length_drop, List.length_drop, h2], fun i r e hr he => ?_⟩
  · unfold Rec.N
    rw [row_drop, List.length_drop]
    exact this
  · rw [List.getElem?_drop] at hr he
    exact h3 (k + i) r e hr he
theorem EntN.nil (w : World) (N : Nat → Prop) : EntN w N (.slice none 0 0) [] := ⟨[], Rec.N.nil w N, rfl, fun i r e hr _ => by simp at hr⟩
theorem RowN.old {w : World} {v : Value} {n size : Nat} {xs : List Value} (h : RowN w Any v n size xs) : RowN w (fun b => b < w.heap.size) v n size xs := by
  obtain ⟨A, c, rfl, h1, h2, h3, h4, h5⟩ := h
  refine ⟨A, c, rfl, h1, h2, h3, h4, fun h0 => ?_⟩
  obtain ⟨b, o, hA, -, hb, hc⟩ := h5 h0
  exact ⟨b, o, hA, hb, hb, hc⟩
theorem EntN.old {w : World} {v : Value} {l : List EN} (h : EntN w Any v l) : EntN w (fun b => b < w.heap.size) v l := by
  obtain ⟨rs, h1, h2, h3⟩ := h
  exact ⟨rs, RowN.old h1, h2, fun i r e hr he => { h3 i r e hr he with list := RowN.old (h3 i r e hr he).list }⟩
/-- a log in memory -/
structure LogAt (w : World) (B p : Nat) (v : Value) (g : LG) : Prop where
  blk : w.heap[p]? = some (.cells #[.int .i64 (g.base : Int), .int .i64 g.term, v] 128 (0, 0))
  ent : ∃ rs, EntO w B v rs g.l
  pB : B ≤ p
  fit : g.base + g.l.length ≤ 2147483647
  term0 : 0 ≤ g.term ∧ g.term ≤ 2147483647
  may : follows g.term g.l = true
theorem LogAt.n {w : World} {B p : Nat} {v : Value} {g : LG} (h : LogAt w B p v g) : EntN w Any v g.l := by
  obtain ⟨rs, he⟩ := h.ent
  exact he.n
theorem LogAt.below {w w' : World} {B p : Nat} {v : Value} {g : LG} (h : LogAt w B p v g) (hb : Below w.heap.size w w') : LogAt w' B p v g := by
  obtain ⟨rs, he⟩ := h.ent
  exact ⟨(hb.block p (lt_of_heap h.blk)).trans h.blk, ⟨rs, he.below hb⟩, h.pB, h.fit, h.term0, h.may⟩
theorem LogAt.cells {w : World} {B p : Nat} {v : Value} {g : LG} (h : LogAt w B p v g) : w.cell? ⟨p, 0, none⟩ = some (.int .i64 (g.base : Int)) ∧ w.cell? ⟨p, 1, none⟩ = some (.int .i64 g.term) ∧ w.cell? ⟨p, 2, none⟩ = some v := ⟨(blk_cells h.blk).1 0, (blk_cells h.blk).1 1, (blk_cells h.blk).1 2⟩
set_option maxRecDepth 100000 in
theorem base_any (g : LG) (B p : Nat) (v : Value) (w : World) (h : LogAt w B p v g) :
    Calls Try.prog 94 #[.pointer (some ⟨p, 0, none⟩)] w fun e w' => e = .returned (.tuple #[.int .i64 (g.base : Int), .int .i64 g.term]) ∧ Below w.heap.size w w' := by
  obtain ⟨c0, c1, c2⟩ := h.cells
  clear h
  go_enter Try.func94, Try.ntmps94
  go_upto_region 3 with fail
  go_quiet (fail)
  go_wp2_with fail
  go_ret2
  exact ⟨rfl, drewN_below _ _ _ _ (Below.refl _ _)⟩
def LG.upto (g : LG) (i : Int) : Nat := if i ≤ g.base then 0 else min (i - g.base).toNat g.l.length
set_option maxRecDepth 100000 in
theorem upto_any (g : LG) (B p : Nat) (v : Value) (i : Int) (w : World) (N : Nat → Prop) (h : LogAt w B p v g) (hn : EntN w N v g.l) (hi : i ≤ 9223372036854775807) :
    Calls Try.prog 141 #[.pointer (some ⟨p, 0, none⟩), .int .i64 i] w fun e w' => ∃ A c, e = .returned (.slice A (g.upto i) c) ∧ EntN w' N (.slice A (g.upto i) c) (g.l.take (g.upto i)) ∧ Below w.heap.size w w' := by
  obtain ⟨c0, c1, c2⟩ := h.cells
  obtain ⟨A, c, hv, hlc, hcm⟩ := h.n.slice
  have hfit := h.fit
  subst hv
  by_cases hib : i ≤ (g.base : Int)
  · have hu : g.upto i = 0 := by unfold LG.upto; rw [if_pos hib]
    have HU := Lib.hid hu
    clear h hn hu
    go_enter Try.func141, Try.ntmps141
    go_wp2_with fail
    go_ret
    rw [HU.out]
    exact ⟨_, _, rfl, EntN.nil _ _, Below.refl _ _⟩
  · have hu : g.upto i = min (i - g.base).toNat g.l.length := by unfold LG.upto; rw [if_neg hib]
    obtain ⟨k, hk⟩ : ∃ k, k = g.upto i := ⟨_, rfl⟩
    have hkl : k ≤ g.l.length := by omega
    have hN := Lib.hid (hn.take hkl)
    have HK := Lib.hid hk
    have hsl := fun W => tillE W A g.l.length c k (by omega)
    clear h hn
    have b0 : (0 : Int) ≤ (g.base : Int) := by omega
    have b1 : (g.base : Int) ≤ 2147483647 := by omega
    have d0 : wrap64 (i - (g.base : Int)) = i - (g.base : Int) := by unfold wrap64; omega
    by_cases hm : (g.l.length : Int) < i - (g.base : Int)
    · have hkk : k = g.l.length := by omega
      rw [hkk] at hsl
      clear hu hk
      go_enter Try.func141, Try.ntmps141
      go_upto_region 3 with fail
      go_quiet (fail)
      go_wp2_with fail
      go_ret
      rw [← HK.out, hkk]
      rw [hkk] at hN
      exact ⟨_, _, rfl, hN.out.grow (drewN_below _ _ _ _ (Below.refl _ _)), drewN_below _ _ _ _ (Below.refl _ _)⟩
    · have hkk : (k : Int) = i - (g.base : Int) := by omega
      rw [hkk] at hsl
      clear hu hk
      go_enter Try.func141, Try.ntmps141
      go_upto_region 3 with fail
      go_quiet (fail)
      go_wp2_with fail
      go_ret
      rw [← HK.out]
      exact ⟨_, _, rfl, hN.out.grow (drewN_below _ _ _ _ (Below.refl _ _)), drewN_below _ _ _ _ (Below.refl _ _)⟩
end Go.Proofs.Ytackfigkhjdidaa
