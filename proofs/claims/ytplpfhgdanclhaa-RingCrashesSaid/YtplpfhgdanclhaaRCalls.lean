/-
  THE PLAIN RING'S CALLS: what Open tells, what Append writes; how a walk collects records, piece by piece; a number read byte by byte. No program in sight. No condition.
-/
import Derived.Test.YtplpfhgdanclhaaRDisk
namespace Go.Proofs.Ytplpfhgdanclhaa

/-- pieces written one behind the other, till the disk says no -/
def DS.putAll (first count : Nat) : DS → List Pc → Int × DS
  | D, [] => (0, D)
  | D, p :: W => if (D.write ((first + p.n % count : Nat) : Int) p.sec).1 = 0 then DS.putAll first count (D.write ((first + p.n % count : Nat) : Int) p.sec).2 W else D.write ((first + p.n % count : Nat) : Int) p.sec
theorem Rung.putAll {first count base s : Nat} (W : List Pc) : ∀ {D : DS} {ps : List Pc}, Rung D first count base ps s → (∀ i p, W[i]? = some p → p.fine ∧ p.n = base + 1 + ps.length + i) → ps.length + W.length ≤ count →
    (∃ D', D.putAll first count W = (0, D') ∧ Rung D' first count base (ps ++ W) s) ∨ (∃ D', D.putAll first count W = (20, D') ∧ D'.dead = true ∧ Left D' first count base (ps ++ W) s) := by
  induction W with
  | nil => intro D ps h _ _; left; rw [List.append_nil]; exact ⟨D, rfl, h⟩
  | cons p W ih =>
    intro D ps h hW hl
    rw [List.length_cons] at hl
    have h0 := hW 0 p rfl
    have hW' : ∀ i q, W[i]? = some q → q.fine ∧ q.n = base + 1 + (ps ++ [p]).length + i := fun i q hq => by
      have := hW (i + 1) q hq
      rw [List.length_append, List.length_singleton]
      exact ⟨this.1, by omega⟩
    have hl' : (ps ++ [p]).length + W.length ≤ count := by rw [List.length_append, List.length_singleton]; omega
    rw [DS.putAll, show ps ++ p :: W = (ps ++ [p]) ++ W by rw [List.append_assoc]; rfl]
    rcases h.write h0.1 (by omega) (by omega) with ⟨D', hw, hr⟩ | ⟨D', hw, hd, hr⟩
    · rw [hw]
      exact ih hr hW' hl'
    · rw [hw]
      exact Or.inr ⟨D', rfl, hd, hr.more W hl'⟩

/-- the pieces of a record that fits -/
theorem cut_fit {n base len : Nat} {r : List UInt8} (hn : n = base + 1 + len) (hm : n + pieces r.length ≤ 4611686018427387905) : ∀ i p, (cut n r)[i]? = some p → p.fine ∧ p.n = base + 1 + len + i := by
  intro i p hp
  have hi : i < (cut n r).length := (List.getElem?_eq_some_iff.1 hp).1
  rw [cut_length] at hi
  have := cut_num n r i p hp
  exact ⟨⟨by omega, by omega, this.2.1, this.2.2⟩, by omega⟩
theorem ended_app {ps : List Pc} {qs : List Pc} (hn : qs ≠ []) (h : Ended qs) : Ended (ps ++ qs) := by
  intro p hp
  rw [List.getLast?_append] at hp
  rcases hg : qs.getLast? with _ | q
  · exact absurd (List.getLast?_eq_none_iff.1 hg) hn
  · rw [hg] at hp; obtain rfl := Option.some.inj hp; exact h _ hg
theorem ended_nil : Ended [] := fun p hp => absurd hp (by simp)
theorem whole_more {ps : List Pc} (h : Ended ps) (n : Nat) (r : List UInt8) : whole [] (ps ++ cut n r) = whole [] ps ++ [r] := by rw [whole_app ps [] _ (fun _ => rfl) h, whole_cut]; rfl

/-- a ring that is not torn, opened on a disk on which nothing waits -/
theorem open_rung {D : DS} {first count base : Nat} (hd : D.dead = false) (hw : D.waits = []) (hc : 0 < count) (hr : first + count ≤ D.lasts.length)
    (h : topIn (secs D.lasts first count) base ≤ lastIn base (run (secs D.lasts first count) count (base + 1))) :
    Rung D first count base (run (secs D.lasts first count) count (base + 1)) (run (secs D.lasts first count) count (base + 1)).length ∧ Ended (run (secs D.lasts first count) count (base + 1)) ∧
    lastIn base (run (secs D.lasts first count) count (base + 1)) = base + (run (secs D.lasts first count) count (base + 1)).length ∧ topIn (secs D.lasts first count) base = base + (run (secs D.lasts first count) count (base + 1)).length := by
  have hl := secs_length hr
  have := open_half (secs D.lasts first count) base (by omega)
  rw [hl] at this
  obtain ⟨h1, h2, h3, h4⟩ := this h
  have h5 := h1.len
  rw [hl] at h5
  exact ⟨⟨hd, hc, hr, Nat.le_refl _, h5, by rw [hw, List.drop_of_length_le (Nat.le_refl _)]; rfl, fun i p hp hi => by have := (List.getElem?_eq_some_iff.1 hp).1; omega, by rw [List.take_of_length_le (Nat.le_refl _)]; exact h1⟩, h2, h3, h4⟩
/-- emptied -/
theorem empty_rung {D : DS} {first count : Nat} (base : Nat) (hd : D.dead = false) (hw : D.waits = []) (hc : 0 < count) (hr : first + count ≤ D.lasts.length) : Rung D first count (topIn (secs D.lasts first count) base) [] 0 :=
  ⟨hd, hc, hr, Nat.le_refl _, Nat.zero_le _, hw, fun i p hp => absurd hp (by simp), empty_half _ _ (by rw [secs_length hr]; exact hc)⟩
/-- what is told behind, and nothing waits or is lost: all -/
theorem Rung.told {D : DS} {first count base : Nat} {ps : List Pc} {s : Nat} (h : Rung D first count base ps s) : run (secs (setAll D.lasts D.waits) first count) count (base + 1) = ps := by
  have := h.whole.run_all
  rwa [secs_length (by rw [setAll_length]; exact h.room)] at this

/-- what is read is what would last -/
theorem look_all (ws : List (Nat × List UInt8)) : ∀ (L : List (List UInt8)) (i : Nat), i < L.length → look L ws i = (setAll L ws).getD i [] := by
  have key : ∀ (ws : List (Nat × List UInt8)) (L : List (List UInt8)) (i : Nat) (s : List UInt8), i < L.length → s = L.getD i [] → ws.foldl (fun s x => if x.1 = i then x.2 else s) s = (setAll L ws).getD i [] := by
    intro ws
    induction ws with
    | nil => intro L i s _ hs; exact hs
    | cons x ws ih =>
      intro L i s hi hs
      rw [List.foldl_cons]
      refine ih (L.set x.1 x.2) i _ (by rw [List.length_set]; exact hi) ?_
      rw [List.getD_eq_getElem?_getD, List.getElem?_set]
      by_cases hx : x.1 = i
      · rw [if_pos hx, if_pos hx, if_pos (by omega)]; rfl
      · rw [if_neg hx, if_neg hx, hs, List.getD_eq_getElem?_getD]
  intro L i hi
  exact key ws L i _ hi rfl

/-- what is open of a record that has not ended -/
def rest : List UInt8 → List Pc → List UInt8
  | now, [] => now
  | now, p :: ps => if p.last then rest [] ps else rest (now ++ p.data) ps
theorem whole_snoc (ps : List Pc) (p : Pc) : ∀ now, whole now (ps ++ [p]) = if p.last then whole now ps ++ [rest now ps ++ p.data] else whole now ps := by
  induction ps with
  | nil => intro now; cases hb : p.last <;> simp [whole, rest, hb]
  | cons q ps ih =>
    intro now
    rw [List.cons_append, whole, whole, rest]
    cases hq : q.last with
    | true =>
      rw [if_pos rfl, if_pos rfl, if_pos rfl, ih]
      cases hb : p.last <;> rfl
    | false => rw [if_neg Bool.false_ne_true, if_neg Bool.false_ne_true, if_neg Bool.false_ne_true, ih]
theorem rest_snoc (ps : List Pc) (p : Pc) : ∀ now, rest now (ps ++ [p]) = if p.last then [] else rest now ps ++ p.data := by
  induction ps with
  | nil => intro now; cases hb : p.last <;> simp [rest, hb]
  | cons q ps ih =>
    intro now
    rw [List.cons_append, rest, rest]
    split <;> exact ih _
theorem lastIn_snoc (ps : List Pc) (p : Pc) : ∀ m, lastIn m (ps ++ [p]) = if p.last then p.n else lastIn m ps := by
  induction ps with
  | nil => intro m; rfl
  | cons q ps ih => intro m; rw [List.cons_append, lastIn, lastIn, ih]
theorem run_snoc (S : List (List UInt8)) (k : Nat) : ∀ (n : Nat), (run S k n).length = k → run S (k + 1) n = match pcAt S (n + k) with
    | none => run S k n
    | some p => run S k n ++ [p] := by
  induction k with
  | zero => intro n _; rw [run, run, Nat.add_zero]; cases pcAt S n <;> rfl
  | succ k ih =>
    intro n h
    cases hq : pcAt S n with
    | none => rw [run, hq] at h; exact absurd h (by simp)
    | some p =>
      have e : ∀ j, run S (j + 1) n = p :: run S j (n + 1) := fun j => by rw [run, hq]
      rw [e] at h
      have h' : (run S k (n + 1)).length = k := by simpa using h
      rw [e (k + 1), e k, ih (n + 1) h', show n + 1 + k = n + (k + 1) by omega]
      cases pcAt S (n + (k + 1)) <;> rfl
/-- a row that stops stays -/
theorem run_stop (S : List (List UInt8)) (k : Nat) : ∀ (n m : Nat), (run S k n).length = k → pcAt S (n + k) = none → run S (k + m) n = run S k n := by
  induction k with
  | zero =>
    intro n m _ h
    rw [Nat.add_zero] at h
    cases m with
    | zero => rfl
    | succ m => rw [Nat.zero_add, run, run, h]
  | succ k ih =>
    intro n m hl h
    rw [show k + 1 + m = (k + m) + 1 by omega, run, run]
    rw [run] at hl
    cases hq : pcAt S n with
    | none => rfl
    | some p =>
      rw [hq] at hl
      have h' : (run S k (n + 1)).length = k := by simpa using hl
      show p :: run S (k + m) (n + 1) = p :: run S k (n + 1)
      rw [ih (n + 1) m h' (by rw [show n + 1 + k = n + (k + 1) by omega]; exact h)]
/-- the greatest number, one sector after the other -/
def topTo (S : List (List UInt8)) (base k : Nat) : Nat := (List.range k).foldl (fun t i => match pcOf (S.getD i []) i S.length with
    | none => t
    | some p => max t p.n) base
theorem topTo_zero (S : List (List UInt8)) (base : Nat) : topTo S base 0 = base := rfl
theorem topTo_snoc (S : List (List UInt8)) (base k : Nat) : topTo S base (k + 1) = match pcOf (S.getD k []) k S.length with
    | none => topTo S base k
    | some p => max (topTo S base k) p.n := by unfold topTo; rw [List.range_succ, List.foldl_append]; rfl
theorem topTo_all (S : List (List UInt8)) (base : Nat) : topTo S base S.length = topIn S base := rfl

/-- a number read from its end, byte by byte -/
theorem val_step (l : List UInt8) (i : Nat) (h : i < l.length) : val (l.drop i) = (l.getD i 0).toNat + 256 * val (l.drop (i + 1)) := by
  rw [List.drop_eq_getElem_cons h, val, List.getD_eq_getElem?_getD, List.getElem?_eq_getElem h]
  rfl
theorem val_lt (l : List UInt8) : val l < 256 ^ l.length := by
  induction l with
  | nil => exact Nat.one_pos
  | cons x l ih => rw [val, List.length_cons, Nat.pow_succ]; have := x.toNat_lt; omega
end Go.Proofs.Ytplpfhgdanclhaa
