/-
  A packet's byte written over; bytes copied. No statement is proved here. No condition.
-/
import Derived.Test.YtfmaocinckeagaaDoorQRow
namespace Go.Proofs.YtfmaocinckeagaaDoor
open Go.RowKit

/-- rows of bytes as records -/
def byR : Rec UInt8 where
  vals b := [.int .u8 (b.toNat : Int)]
  size := 1
  len _ := rfl
  one b u hu := by simp at hu; rw [hu]; rfl
theorem byR_row (l : List UInt8) : byR.row l = BS l := by
  induction l with
  | nil => rfl
  | cons b l ih => rw [byR.row_cons, ih]; rfl
theorem byR_own {w : World} {B k : Nat} {v : Value} {l : List UInt8} (h : w.ownsRow B 5 1 v k (BS l)) : byR.Own w B 5 v l := by
  have hk := h.1
  rw [BS_length] at hk
  have hk1 : l.length = k := by omega
  unfold Rec.Own
  rw [byR_row, hk1]
  exact h
theorem byR_back {w : World} {B : Nat} {v : Value} {l : List UInt8} (h : byR.Own w B 5 v l) : w.ownsRow B 5 1 v l.length (BS l) := by
  unfold Rec.Own at h
  rw [byR_row] at h
  exact h
/-- a byte of a packet set -/
theorem Cuts.poke {w : World} {B : Nat} {v : Value} {ls : List (List UInt8)} {ss : List Sl} {i k : Nat} {s : Sl} {l : List UInt8} (h : Cuts w B v ls ss) (hs : ss[i]? = some s) (hl : ls[i]? = some l) (hk : k < l.length) (b : UInt8) :
    ∃ g c, s = ⟨some ⟨g, 0, none⟩, l.length, c⟩ ∧ B ≤ g ∧ (∃ x, w.cell? ⟨g, k, none⟩ = some x) ∧ w.frozen? ⟨g, k, none⟩ = false ∧ Cuts (w.setCell ⟨g, k, none⟩ (.int .u8 (b.toNat : Int))) B v (ls.set i (l.set k b)) ss ∧ Below B w (w.setCell ⟨g, k, none⟩ (.int .u8 (b.toNat : Int))) := by
  have ho := byR_own (h.own i s l hs hl)
  obtain ⟨g, cap, hv, hgB, hgl, hn, hc, hcell, hfz, hupd⟩ := own_upd ho hk
  obtain ⟨hu1, hu2⟩ := hupd b
  have hset : w.setCells g (k * byR.size) (byR.vals b) = w.setCell ⟨g, k, none⟩ (.int .u8 (b.toNat : Int)) := by
    show w.setCells g (k * 1) [Value.int .u8 (b.toNat : Int)] = _
    rw [Nat.mul_one]
    rfl
  rw [hset] at hu1 hu2
  have hse : s = ⟨some ⟨g, 0, none⟩, l.length, cap⟩ := by
    unfold Sl.v at hv
    injection hv with e1 e2 e3
    cases s
    simp_all
  have hrow : s.v.ownBlock = some g := by rw [hv]; rfl
  have hil : i < ls.length := (List.getElem?_eq_some_iff.1 hl).1
  refine ⟨g, cap, hse, hgB, ⟨_, by have := hcell 0 _ rfl; rw [show k * byR.size + 0 = k by show k * 1 + 0 = k; omega] at this; exact this⟩, hfz _, ⟨?_, by simp [h.len], ?_, h.apart⟩, hu2⟩
  · exact row_same h.row fun p hp => set_far (fun e => rows_apart h.row (h.own i s l hs hl) types_S hp hrow e)
  · intro j t m ht hm
    by_cases hj : i = j
    · subst hj
      rw [hs] at ht
      injection ht with ht
      subst ht
      rw [List.getElem?_set_self hil] at hm
      injection hm with hm
      subst hm
      exact byR_back hu1
    · rw [List.getElem?_set_ne hj] at hm
      refine row_same (h.own j t m ht hm) fun p hp => set_far (fun e => hj ?_)
      subst e
      exact h.apart i j s t p hs ht hrow hp
/-- bytes copied into new memory: append([]byte{}, x...) -/
theorem copy_new {w : World} {v : Value} {l : List UInt8} (h : Rd w w.heap.size v l) (hl : l.length ≤ 140737488351232) :
    ∃ v' w2, (Builtin.append_ #[27, 27] 27 #[.slice (some ⟨w.heap.size, 0, none⟩) 0 0, v]).run Tryd.prog (w.alloc (.cells #[] 5)) = .ok v' w2 ∧ w2.ownsRow w.heap.size 5 1 v' l.length (BS l) ∧ Below w.heap.size w w2 := by
  obtain ⟨w1, hw1⟩ : ∃ w1, w1 = w.alloc (.cells #[] 5) := ⟨_, rfl⟩
  have hb1 : Below w.heap.size w w1 := by rw [hw1]; exact (Below.refl _ _).alloc (Nat.le_refl _) _
  have ho : w1.ownsRow w.heap.size 5 1 (.slice (some ⟨w.heap.size, 0, none⟩) 0 0) 0 (BS []) := by rw [hw1]; exact World.ownsRow_lit w #[] 0 (Nat.le_refl _) (by unfold maxLen; omega) rfl
  rw [← hw1]
  obtain ⟨i0, hi, hz0, hz1, hz2⟩ := info_parts info_u8
  obtain ⟨v', w2, hr, h2, hg⟩ := run_app (P := Tryd.prog) (w := w1) w.heap.size 27 27 5 i0 Tryd.underlying27 hi hz0 hz1 hz2 _ v [] l 0 ho w.heap.size (h.below hb1 (Nat.le_refl _)) (by simp; omega) hb1.size
  rw [Nat.zero_add, List.nil_append] at h2
  exact ⟨v', w2, hr, h2, hb1.grown hg hb1.size (fun k hk => (ho.lt k hk).1)⟩
end Go.Proofs.YtfmaocinckeagaaDoor
