/-
  THE PLAIN RING ON THE PLAIN DISK: a ring's sectors of a disk; what is written, flushed, crashed; what lasts behind. No program in sight. No condition.
-/
import Derived.Test.YtplpfhgdanclhaaRPlain
namespace Go.Proofs.Ytplpfhgdanclhaa

/-- a ring's sectors of a disk's -/
def secs (L : List (List UInt8)) (first count : Nat) : List (List UInt8) := (L.drop first).take count
theorem secs_length {L : List (List UInt8)} {first count : Nat} (h : first + count ≤ L.length) : (secs L first count).length = count := by unfold secs; rw [List.length_take, List.length_drop]; omega
theorem secs_get {L : List (List UInt8)} {first count i : Nat} (h : i < count) : (secs L first count).getD i [] = L.getD (first + i) [] := by
  unfold secs
  rw [List.getD_eq_getElem?_getD, List.getD_eq_getElem?_getD, List.getElem?_take, if_pos h, List.getElem?_drop]
theorem secs_set (L : List (List UInt8)) (first count i : Nat) (b : List UInt8) : secs (L.set (first + i) b) first count = (secs L first count).set i b := by
  unfold secs
  apply List.ext_getElem?
  intro k
  rw [List.getElem?_take, List.getElem?_drop, List.getElem?_set, List.getElem?_set, List.getElem?_take, List.getElem?_drop, List.length_take, List.length_drop]
  by_cases hk : k < count
  · rw [if_pos hk]
    by_cases hi : i = k
    · subst hi
      rw [if_pos rfl, if_pos rfl]
      by_cases hl : first + i < L.length
      · rw [if_pos hl, if_pos (by omega)]
      · rw [if_neg hl, if_neg (by omega)]
    · rw [if_neg (by omega), if_neg hi, if_pos hk]
  · rw [if_neg hk]
    by_cases hi : i = k
    · subst hi
      rw [if_pos rfl, if_neg (by omega)]
    · rw [if_neg hi, if_neg hk]
/-- where a piece is written, and what -/
def spot (first count : Nat) (p : Pc) : Nat × List UInt8 := (first + p.n % count, p.sec)
theorem secs_spots {first count : Nat} (W : List Pc) : ∀ L : List (List UInt8), first + count ≤ L.length → secs (setAll L (W.map (spot first count))) first count = W.foldl put (secs L first count) := by
  induction W with
  | nil => intro L _; rfl
  | cons p W ih =>
    intro L h
    rw [List.map_cons, List.foldl_cons]
    show secs (setAll (L.set (first + p.n % count) p.sec) (W.map (spot first count))) first count = _
    rw [ih _ (by rw [List.length_set]; exact h), secs_set]
    congr 1
    unfold put
    rw [secs_length h]
theorem keptOf_map {first count : Nat} (W : List Pc) : ∀ keep : List Bool, keptOf (W.map (spot first count)) keep = (((W.zip keep).filter (·.2)).map (·.1)).map (spot first count) := by
  induction W with
  | nil => intro keep; rfl
  | cons p W ih =>
    intro keep
    cases keep with
    | nil => rfl
    | cons b keep =>
      have := ih keep
      unfold keptOf at this ⊢
      rw [List.map_cons, List.zip_cons_cons, List.zip_cons_cons]
      cases b with
      | false => exact this
      | true => exact congrArg _ this

/-- a ring at work on a disk: its pieces ps behind the base, of which the first s last, and the others wait -/
structure Rung (D : DS) (first count base : Nat) (ps : List Pc) (s : Nat) : Prop where
  live : D.dead = false
  pos : 0 < count
  room : first + count ≤ D.lasts.length
  sure : s ≤ ps.length
  len : ps.length ≤ count
  waits : D.waits = (ps.drop s).map (spot first count)
  nums : ∀ i p, ps[i]? = some p → s ≤ i → p.fine ∧ p.n = base + 1 + i
  half : Half (secs D.lasts first count) base (ps.take s) s

/-- what a ring's disk has behind a crash -/
structure Left (D : DS) (first count base : Nat) (ps : List Pc) (s : Nat) : Prop where
  room : first + count ≤ D.lasts.length
  half : Half (secs D.lasts first count) base ps s

theorem Rung.crash {D : DS} {first count base : Nat} {ps : List Pc} {s : Nat} (h : Rung D first count base ps s) (keep : List Bool) : Left (D.crash keep) first count base ps s := by
  have hl := secs_length h.room
  refine ⟨by show _ ≤ (setAll D.lasts _).length; rw [setAll_length]; exact h.room, ?_⟩
  show Half (secs (setAll D.lasts (keptOf D.waits keep)) first count) base ps s
  rw [h.waits, keptOf_map, secs_spots _ _ h.room]
  have := Half.kept (base := base) (s := s) (ps.drop s) (secs D.lasts first count) (ps.take s) keep h.half (fun i p hp => by
    rw [List.getElem?_drop] at hp
    have := h.nums _ p hp (by omega)
    have hs := h.sure
    rw [List.length_take, Nat.min_eq_left hs]
    exact ⟨this.1, by omega⟩) (by rw [List.length_take, List.length_drop, hl]; have := h.sure; have := h.len; omega)
  rwa [List.take_append_drop] at this
/-- all that waits, kept: what is read -/
theorem Rung.whole {D : DS} {first count base : Nat} {ps : List Pc} {s : Nat} (h : Rung D first count base ps s) : Half (secs (setAll D.lasts D.waits) first count) base ps ps.length := by
  have hl := secs_length h.room
  rw [h.waits, secs_spots _ _ h.room]
  have key : ∀ (W : List Pc) (S : List (List UInt8)) (qs : List Pc), Half S base qs qs.length → (∀ i p, W[i]? = some p → p.fine ∧ p.n = base + 1 + qs.length + i) → qs.length + W.length ≤ S.length →
      Half (W.foldl put S) base (qs ++ W) (qs ++ W).length := by
    intro W
    induction W with
    | nil => intro S qs h _ _; rw [List.append_nil]; exact h
    | cons p W ih =>
      intro S qs h hW hl
      rw [List.length_cons] at hl
      have h0 := hW 0 p rfl
      have h1 := h.put h0.1 (by omega) (by omega)
      have h2 : Half (put S p) base (qs ++ [p]) (qs ++ [p]).length := ⟨h1.pos, h1.len, Nat.le_refl _, fun i q hq => by
        rcases Nat.lt_or_ge i qs.length with hi | hi
        · rcases h1.there i q hq with k | ⟨k, _⟩
          · exact Or.inl k
          · omega
        · have hi' : i < (qs ++ [p]).length := (List.getElem?_eq_some_iff.1 hq).1
          rw [List.length_append, List.length_singleton] at hi'
          rw [show i = qs.length by omega, List.getElem?_concat_length] at hq
          obtain rfl := Option.some.inj hq
          left
          rw [pcAt_put h.pos h0.1, show i = qs.length by omega, show p.n = base + 1 + qs.length by omega, if_pos rfl, if_pos rfl], h1.top⟩
      rw [show qs ++ p :: W = (qs ++ [p]) ++ W by rw [List.append_assoc]; rfl]
      refine ih _ _ h2 (fun i q hq => ?_) (by rw [put_length, List.length_append, List.length_singleton]; omega)
      have := hW (i + 1) q hq
      rw [List.length_append, List.length_singleton]
      exact ⟨this.1, by omega⟩
  have hs := h.sure
  have ht : (ps.take s).length = s := by rw [List.length_take, Nat.min_eq_left hs]
  have := key (ps.drop s) (secs D.lasts first count) (ps.take s) (by rw [ht]; exact h.half) (fun i p hp => by
    rw [List.getElem?_drop] at hp
    have := h.nums _ p hp (by omega)
    rw [ht]
    exact ⟨this.1, by omega⟩) (by rw [ht, List.length_drop, hl]; have := h.len; omega)
  rwa [List.take_append_drop] at this
theorem Rung.wrote {D : DS} {first count base : Nat} {ps : List Pc} {s : Nat} (h : Rung D first count base ps s) {p : Pc} (hp : p.fine) (hn : p.n = base + 1 + ps.length) (hr : ps.length < count) :
    Rung (D.wrote (first + p.n % count) p.sec) first count base (ps ++ [p]) s where
  live := h.live
  pos := h.pos
  room := h.room
  sure := by rw [List.length_append]; have := h.sure; omega
  len := by rw [List.length_append, List.length_singleton]; omega
  waits := by
    show D.waits ++ [(first + p.n % count, p.sec)] = _
    rw [h.waits, List.drop_append_of_le_length h.sure, List.map_append]
    rfl
  nums := by
    intro i q hq hs
    rcases Nat.lt_or_ge i ps.length with h1 | h1
    · rw [List.getElem?_append_left h1] at hq
      exact h.nums i q hq hs
    · have hi : i < (ps ++ [p]).length := (List.getElem?_eq_some_iff.1 hq).1
      rw [List.length_append, List.length_singleton] at hi
      rw [show i = ps.length by omega, List.getElem?_concat_length] at hq
      obtain rfl := Option.some.inj hq
      exact ⟨hp, by omega⟩
  half := by rw [List.take_append_of_le_length h.sure]; exact h.half
theorem Rung.tick {D : DS} {first count base : Nat} {ps : List Pc} {s : Nat} (h : Rung D first count base ps s) : Rung D.tick first count base ps s := ⟨h.live, h.pos, h.room, h.sure, h.len, h.waits, h.nums, h.half⟩
theorem Rung.flushed {D : DS} {first count base : Nat} {ps : List Pc} {s : Nat} (h : Rung D first count base ps s) : Rung D.flushed first count base ps ps.length where
  live := h.live
  pos := h.pos
  room := by show _ ≤ (setAll D.lasts _).length; rw [setAll_length]; exact h.room
  sure := Nat.le_refl _
  len := h.len
  waits := by rw [List.drop_of_length_le (Nat.le_refl _)]; rfl
  nums := fun i p hp hi => by have := (List.getElem?_eq_some_iff.1 hp).1; omega
  half := by rw [List.take_of_length_le (Nat.le_refl _)]; exact h.whole

/-- a piece is written: it waits, or the disk is dead -/
theorem Rung.write {D : DS} {first count base : Nat} {ps : List Pc} {s : Nat} (h : Rung D first count base ps s) {p : Pc} (hp : p.fine) (hn : p.n = base + 1 + ps.length) (hr : ps.length < count) :
    (∃ D', D.write ((first + p.n % count : Nat) : Int) p.sec = (0, D') ∧ Rung D' first count base (ps ++ [p]) s) ∨
    (∃ D', D.write ((first + p.n % count : Nat) : Int) p.sec = (20, D') ∧ D'.dead = true ∧ Left D' first count base (ps ++ [p]) s) := by
  have hm := Nat.mod_lt p.n h.pos
  have hroom := h.room
  have hin : (inside D ((first + p.n % count : Nat) : Int) && decide (p.sec.length = 512)) = true := by
    unfold inside
    rw [decide_eq_true (by omega), decide_eq_true (by omega), decide_eq_true (p.sec_length hp.2.2.1)]
    rfl
  have hw := h.wrote hp hn hr
  unfold DS.write
  rw [h.live, if_neg Bool.false_ne_true, if_pos hin]
  by_cases hf : D.fuse = some 0
  · rw [if_pos hf]
    exact Or.inr ⟨_, rfl, rfl, hw.crash _⟩
  · rw [if_neg hf]
    exact Or.inl ⟨_, rfl, hw.tick⟩
theorem Rung.flush {D : DS} {first count base : Nat} {ps : List Pc} {s : Nat} (h : Rung D first count base ps s) :
    (∃ D', D.flush = (0, D') ∧ Rung D' first count base ps ps.length) ∨ (∃ D', D.flush = (20, D') ∧ D'.dead = true ∧ Left D' first count base ps s) := by
  unfold DS.flush
  rw [h.live, if_neg Bool.false_ne_true]
  by_cases hf : D.fuse = some 0
  · rw [if_pos hf]
    exact Or.inr ⟨_, rfl, rfl, h.crash _⟩
  · rw [if_neg hf]
    exact Or.inl ⟨_, rfl, h.tick.flushed⟩
/-- behind a crash more may be missing than was ever written -/
theorem Left.more {D : DS} {first count base : Nat} {ps : List Pc} {s : Nat} (h : Left D first count base ps s) (W : List Pc) (hl : ps.length + W.length ≤ count) : Left D first count base (ps ++ W) s := by
  refine ⟨h.room, ?_⟩
  have key : ∀ (W : List Pc) (qs : List Pc), Half (secs D.lasts first count) base qs s → qs.length + W.length ≤ count → Half (secs D.lasts first count) base (qs ++ W) s := by
    intro W
    induction W with
    | nil => intro qs h _; rw [List.append_nil]; exact h
    | cons p W ih =>
      intro qs hq hl
      rw [List.length_cons] at hl
      rw [show qs ++ p :: W = (qs ++ [p]) ++ W by rw [List.append_assoc]; rfl]
      exact ih _ (hq.skip p (by rw [secs_length h.room]; omega)) (by rw [List.length_append, List.length_singleton]; omega)
  exact key W ps h.half hl
/-- what a ring tells behind a crash: all that was sure, and of the rest a beginning -/
theorem Left.told {D : DS} {first count base : Nat} {ps : List Pc} {s : Nat} (h : Left D first count base ps s) :
    whole [] (ps.take s) <+: whole [] (run (secs D.lasts first count) count (base + 1)) ∧ whole [] (run (secs D.lasts first count) count (base + 1)) <+: whole [] ps := by
  obtain ⟨j, hj, hr⟩ := h.half.run
  rw [secs_length h.room] at hr
  rw [hr]
  exact ⟨whole_mono _ _ hj, whole_take _ _ _⟩
end Go.Proofs.Ytplpfhgdanclhaa
