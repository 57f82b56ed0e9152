/-
  THE PLAIN RING ON A DISK WITH NO FUSE: what is written, appended, flushed shows in its sectors; the document's Append on sectors. No program in sight. No condition.
-/
import Derived.Test.YtlokehekkllbeaaRH
import Derived.Test.YtlokehekkllbeaaRH
namespace Go.Proofs.Ytlokehekkllbeaa
open Go.RowKit

/-- a disk that works, with no fuse, and room for a ring -/
structure Well (D : DS) (first count : Nat) : Prop where
  live : D.dead = false
  fuse : D.fuse = none
  room : first + count ≤ D.lasts.length
theorem seen_wrote (D : DS) (first count i : Nat) (b : List UInt8) : seen ((D.wrote (first + i) b).tick) first count = (seen D first count).set i b := by
  unfold seen DS.wrote DS.tick
  show secs (setAll D.lasts (D.waits ++ [(first + i, b)])) first count = _
  rw [setAll_snoc, secs_set]
theorem Well.write {D : DS} {first count : Nat} (h : Well D first count) {i : Nat} {b : List UInt8} (hi : i < count) (hb : b.length = 512) : ∃ D', D.write ((first + i : Nat) : Int) b = (0, D') ∧ Well D' first count ∧ seen D' first count = (seen D first count).set i b ∧ D'.lasts.length = D.lasts.length := by
  obtain ⟨w1, w2, w3⟩ := write_calm h.live h.fuse (i := first + i) (b := b) (by have := h.room; omega) hb
  exact ⟨_, w1, ⟨w3, w2, h.room⟩, seen_wrote D first count i b, rfl⟩
theorem Well.flush {D : DS} {first count : Nat} (h : Well D first count) : ∃ D', D.flush = (0, D') ∧ Well D' first count ∧ seen D' first count = seen D first count ∧ D'.lasts.length = D.lasts.length ∧ D'.waits = [] := by
  refine ⟨D.tick.flushed, ?_, ⟨h.live, by show D.fuse.map _ = none; rw [h.fuse]; rfl, by show _ ≤ (setAll _ _).length; rw [setAll_length]; exact h.room⟩, rfl, setAll_length _ _, rfl⟩
  unfold DS.flush
  rw [h.live, if_neg Bool.false_ne_true, h.fuse, if_neg (by simp)]
theorem Well.putAll {first count : Nat} (hc : 0 < count) (W : List Pc) : ∀ {D : DS}, Well D first count → (∀ p ∈ W, p.data.length ≤ 501) → ∃ D', D.putAll first count W = (0, D') ∧ Well D' first count ∧ seen D' first count = W.foldl put (seen D first count) ∧ D'.lasts.length = D.lasts.length := by
  induction W with
  | nil => intro D h _; exact ⟨D, rfl, h, rfl, rfl⟩
  | cons p W ih =>
    intro D h hW
    obtain ⟨D1, e1, h1, s1, l1⟩ := h.write (i := p.n % count) (b := p.sec) (Nat.mod_lt _ hc) (p.sec_length (hW p (by simp)))
    obtain ⟨D2, e2, h2, s2, l2⟩ := ih h1 (fun q hq => hW q (by simp [hq]))
    refine ⟨D2, ?_, h2, ?_, by rw [l2, l1]⟩
    · rw [DS.putAll, e1, if_pos rfl, e2]
    · rw [s2, s1, List.foldl_cons]
      unfold put
      rw [seen_length h.room]

/-- the document's Append, on sectors -/
def xput (S : List (List UInt8)) (R : RG) (rec : List UInt8) : Int × List (List UInt8) × RG :=
  if refuseOf false R (pieces rec.length) ≠ 0 then (refuseOf false R (pieces rec.length), S, R)
  else (0, (cut (R.last + 1) rec).foldl put S, { R with last := R.last + pieces rec.length, top := R.last + pieces rec.length })
theorem Well.append {D : DS} {R : RG} (h : Well D R.first R.count) (hc : 0 < R.count) (rec : List UInt8) : ∃ D', appendOf D R rec = ((xput (seen D R.first R.count) R rec).1, D', (xput (seen D R.first R.count) R rec).2.2) ∧ Well D' R.first R.count ∧ seen D' R.first R.count = (xput (seen D R.first R.count) R rec).2.1 ∧ D'.lasts.length = D.lasts.length := by
  unfold appendOf xput
  rw [h.live]
  by_cases h0 : refuseOf false R (pieces rec.length) ≠ 0
  · rw [if_pos h0, if_pos h0]
    exact ⟨D, rfl, h, rfl, rfl⟩
  · rw [if_neg h0, if_neg h0]
    obtain ⟨D', e, w, s, l⟩ := Well.putAll hc (cut (R.last + 1) rec) h (fun p hp => by
      obtain ⟨i, hi, rfl⟩ := List.getElem_of_mem hp
      exact (cut_num _ _ _ _ (List.getElem?_eq_getElem hi)).2.1)
    rw [e, if_neg (by simp)]
    exact ⟨D', rfl, w, s, l⟩
theorem xput_fine {S : List (List UInt8)} {R : RG} {rec : List UInt8} (h : R.fine) : (xput S R rec).2.2.fine ∧ (xput S R rec).2.2.first = R.first ∧ (xput S R rec).2.2.count = R.count := by
  unfold xput
  by_cases h0 : refuseOf false R (pieces rec.length) ≠ 0
  · rw [if_pos h0]
    exact ⟨h, rfl, rfl⟩
  · rw [if_neg h0]
    obtain ⟨-, h1, h2, h3, h4⟩ := refuse_ok (by simpa using h0 : refuseOf false R (pieces rec.length) = 0)
    have a1 := h.low
    have a5 := h.high
    have a2 := h.up
    unfold RG.room' at h3
    rw [if_neg h2] at h3
    exact ⟨⟨h.pos, h.room, by show R.base ≤ R.last + _; omega, by show R.last + _ ≤ R.base + R.count; omega, Nat.le_refl _, h4⟩, rfl, rfl⟩
theorem foldl_put_length (W : List Pc) : ∀ S : List (List UInt8), (W.foldl put S).length = S.length := by
  induction W with
  | nil => intro S; rfl
  | cons p W ih => intro S; rw [List.foldl_cons, ih, put_length]
theorem take_snoc_fold (W : List Pc) (S : List (List UInt8)) {i : Nat} {p : Pc} (h : W[i]? = some p) : (W.take (i + 1)).foldl put S = put ((W.take i).foldl put S) p := by
  rw [take_snoc h, List.foldl_append]
  rfl
/-- all of them have 512 bytes -/
def All512 (S : List (List UInt8)) : Prop := ∀ b ∈ S, b.length = 512
theorem All512.at {S : List (List UInt8)} (h : All512 S) {i : Nat} {b : List UInt8} (hi : S[i]? = some b) : b.length = 512 := h b (List.mem_of_getElem? hi)
theorem seen_512 {D : DS} (hok : D.ok) (first count : Nat) : All512 (seen D first count) := fun b hb => by
  have h1 := List.mem_of_mem_drop (List.mem_of_mem_take hb)
  exact setAll_whole _ _ hok.2 (fun x hx => (hok.1 x hx).2) b h1
theorem seen_blank {first count : Nat} (h : first + count ≤ 12) : seen (DS.new 12) first count = List.replicate count (List.replicate 512 0) := by
  unfold seen DS.new secs
  show ((List.replicate 12 (List.replicate 512 (0 : UInt8))).drop first).take count = _
  rw [List.drop_replicate, List.take_replicate, Nat.min_eq_left (by omega)]
end Go.Proofs.Ytlokehekkllbeaa
