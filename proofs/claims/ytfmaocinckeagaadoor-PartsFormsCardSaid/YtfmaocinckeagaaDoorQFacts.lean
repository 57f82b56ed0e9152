/-
  Stage 11: a packet is read as the part that it was made of; a message is its parts. No statement is proved here. No condition.
-/
import Derived.Test.YtfmaocinckeagaaDoorQPlain
import Derived.Test.YtfmaocinckeagaaDoorFacts
namespace Go.Proofs.YtfmaocinckeagaaDoor
open Go.RowKit

theorem partIn_body {n p m : Nat} {d : List UInt8} (hn : n ≤ 2147483647) (hp : p ≤ 22) (hm : m ≤ 22) (hd : d.length ≤ 380) (hb : mayBe p m d.length = true) : partIn (pbody n p m d) = some ⟨n, p, m, d⟩ := by
  have e1 : gCount 2147483647 (uv n ++ (uv p ++ (uv m ++ tv d))) = some ((n : Int), uv p ++ (uv m ++ tv d)) := gCount_uv 2147483647 (n : Int) _ (by omega) (by omega) (by omega)
  have e2 : gCount 22 (uv p ++ (uv m ++ tv d)) = some ((p : Int), uv m ++ tv d) := gCount_uv 22 (p : Int) _ (by omega) (by omega) (by omega)
  have e3 : gCount 22 (uv m ++ tv d) = some ((m : Int), tv d) := gCount_uv 22 (m : Int) _ (by omega) (by omega) (by omega)
  have e4 : gStr 380 (tv d) = some (d, []) := by
    have := gStr_tv 380 d [] (by omega) (by omega)
    rw [List.append_nil] at this
    exact this
  unfold partIn pbody
  rw [List.append_assoc, List.append_assoc, e1]
  dsimp only
  rw [e2]
  dsimp only
  rw [e3]
  dsimp only
  rw [e4]
  dsimp only
  rw [if_pos ⟨rfl, by simpa using hb⟩]
  simp
theorem read_pkt {n p m : Nat} {d : List UInt8} (hn : n ≤ 2147483647) (hp : p ≤ 22) (hm : m ≤ 22) (hd : d.length ≤ 380) (hb : mayBe p m d.length = true) : readP (pkt n p m d) = (0, some ⟨n, p, m, d⟩) := by
  have h := pbody_small hn (show p ≤ 2147483647 by omega) (show m ≤ 2147483647 by omega) hd
  unfold readP pkt
  rw [opened_frame 1 _ (by omega)]
  simp only [ne_eq, not_true_eq_false, if_false]
  rw [partIn_body hn hp hm hd hb]
theorem piece_len {l : List UInt8} {i : Nat} : (piece l i).length = min 380 (l.length - 380 * i) := by unfold piece; rw [List.length_take, List.length_drop]
theorem piece_may {l : List UInt8} {i : Nat} (hl : l.length ≤ 8192) (hi : i < many l) : mayBe i (many l) (piece l i).length = true := by
  rw [piece_len]
  unfold mayBe many at *
  simp only [Bool.and_eq_true, decide_eq_true_eq]
  refine ⟨hi, ?_⟩
  split
  · rw [decide_eq_true_eq]; omega
  · simp only [Bool.or_eq_true, Bool.and_eq_true, decide_eq_true_eq, beq_iff_eq]; omega
theorem read_cut {l : List UInt8} {n i : Nat} (hn : n ≤ 2147483647) (hl : l.length ≤ 8192) (hi : i < many l) : readP (pkt n i (many l) (piece l i)) = (0, some ⟨n, i, many l, piece l i⟩) := by
  have := many_small hl
  exact read_pkt hn (by omega) (by omega) (piece_length l i) (piece_may hl hi)
/-- what a part may be -/
structure Part.ok (p : Part) : Prop where
  number : p.number ≤ 2147483647
  many : p.many ≤ 22
  may : mayBe p.place p.many p.data.length = true
  small : p.data.length ≤ 380
theorem gStr_le {most : Int} {l : List UInt8} {s t : List UInt8} (h : gStr most l = some (s, t)) : (s.length : Int) ≤ most := by
  unfold gStr at h
  split at h
  · cases h
  · rename_i q hc
    obtain ⟨k, hk, h1, h2⟩ := gCount_nat (n := q.1) (t := q.2) hc
    split at h
    · cases h
    · injection h with h
      injection h with e1 e2
      subst e1
      rw [List.length_take]
      omega
theorem partIn_ok {b : List UInt8} {p : Part} (h : partIn b = some p) : p.ok := by
  unfold partIn at h
  split at h
  · cases h
  rename_i n t1 h1
  split at h
  · cases h
  rename_i q t2 h2
  split at h
  · cases h
  rename_i m t3 h3
  split at h
  · cases h
  rename_i d t4 h4
  split at h
  case isFalse => cases h
  rename_i hb
  injection h with h
  subst h
  obtain ⟨a, rfl, a1, a2⟩ := gCount_nat h1
  obtain ⟨c, rfl, c1, c2⟩ := gCount_nat h2
  obtain ⟨e, rfl, e1, e2⟩ := gCount_nat h3
  have := gStr_le h4
  exact ⟨by dsimp only; omega, by dsimp only; omega, hb.2, by dsimp only; omega⟩
theorem readP_ok {l : List UInt8} {p : Part} {e : Int} (h : readP l = (e, some p)) : e = 0 ∧ p.ok := by
  unfold readP at h
  split at h
  · cases h
  · split at h
    · cases h
    · split at h
      · cases h
      · rename_i q hq
        injection h with h1 h2
        injection h2 with h2
        subst h2
        exact ⟨h1.symm, partIn_ok hq⟩
theorem join_pieces (l : List UInt8) : ∀ k, (List.range k).flatMap (piece l) = l.take (380 * k) := by
  intro k
  induction k with
  | zero => simp
  | succ k ih =>
    rw [List.range_succ, List.flatMap_append, ih]
    simp only [List.flatMap_cons, List.flatMap_nil, List.append_nil]
    unfold piece
    rw [show 380 * (k + 1) = 380 * k + 380 by omega, List.take_add]
theorem join_all (l : List UInt8) : ((List.range (many l)).map (piece l)).flatten = l := by
  rw [← List.flatMap_def, join_pieces]
  exact List.take_of_length_le (by unfold many; omega)
end Go.Proofs.YtfmaocinckeagaaDoor
