/-
  THE PLAIN RING WITHOUT A CRASH: what is appended is there. No program in sight, but for what its calls answer. No condition.
-/
import Derived.Test.YtplpfhgdanclhaaROpen
namespace Go.Proofs.Ytplpfhgdanclhaa
open Go.RowKit

/-- a ring that works, on a disk with no fuse -/
structure Calm (D : DS) (R : RG) (ps : List Pc) (s : Nat) : Prop where
  rung : Rung D R.first R.count R.base ps s
  fuse : D.fuse = none
  last : R.last = R.base + ps.length
  top : R.top = R.last
  ended : Ended ps

theorem write_calm {D : DS} (hd : D.dead = false) (hf : D.fuse = none) {i : Nat} {b : List UInt8} (hi : i < D.lasts.length) (hb : b.length = 512) : D.write (i : Int) b = (0, (D.wrote i b).tick) ∧ ((D.wrote i b).tick).fuse = none ∧ ((D.wrote i b).tick).dead = false := by
  have hin : (inside D (i : Int) && decide (b.length = 512)) = true := by
    unfold inside
    rw [decide_eq_true (by omega), decide_eq_true (by omega), decide_eq_true hb]
    rfl
  unfold DS.write
  rw [hd, if_neg Bool.false_ne_true, if_pos hin, hf, if_neg (by simp)]
  exact ⟨by rw [Int.toNat_natCast], by show D.fuse.map _ = none; rw [hf]; rfl, hd⟩
theorem putAll_calm {first count base s : Nat} (W : List Pc) : ∀ {D : DS} {ps : List Pc}, Rung D first count base ps s → D.fuse = none → (∀ i p, W[i]? = some p → p.fine ∧ p.n = base + 1 + ps.length + i) → ps.length + W.length ≤ count →
    ∃ D', D.putAll first count W = (0, D') ∧ Rung D' first count base (ps ++ W) s ∧ D'.fuse = none := by
  induction W with
  | nil => intro D ps h hf _ _; rw [List.append_nil]; exact ⟨D, rfl, h, hf⟩
  | cons p W ih =>
    intro D ps h hf hW hl
    rw [List.length_cons] at hl
    have h0 := hW 0 p rfl
    have hm := Nat.mod_lt p.n h.pos
    have hroom := h.room
    obtain ⟨w1, w2, w3⟩ := write_calm h.live hf (i := first + p.n % count) (b := p.sec) (by omega) (p.sec_length h0.1.2.2.1)
    have hr := (h.wrote h0.1 (by omega) (by omega)).tick
    rw [DS.putAll, w1, show ps ++ p :: W = (ps ++ [p]) ++ W by rw [List.append_assoc]; rfl]
    refine ih hr w2 (fun i q hq => ?_) (by rw [List.length_append, List.length_singleton]; omega)
    have := hW (i + 1) q hq
    rw [List.length_append, List.length_singleton]
    exact ⟨this.1, by omega⟩
theorem Calm.room {D : DS} {R : RG} {ps : List Pc} {s : Nat} (h : Calm D R ps s) : R.room' = R.count - ps.length := by
  unfold RG.room'
  rw [h.top, if_neg (Nat.lt_irrefl _), h.last]
  omega
theorem Calm.append {D : DS} {R : RG} {ps : List Pc} {s : Nat} (h : Calm D R ps s) (rec : List UInt8) (hr : ps.length + pieces rec.length ≤ R.count) (hm : R.last + pieces rec.length ≤ 4611686018427387904) :
    ∃ D', appendOf D R rec = (0, D', { R with last := R.last + pieces rec.length, top := R.last + pieces rec.length }) ∧ Calm D' { R with last := R.last + pieces rec.length, top := R.last + pieces rec.length } (ps ++ cut (R.last + 1) rec) s := by
  have hroom := h.room
  have href : refuseOf D.dead R (pieces rec.length) = 0 := by
    unfold refuseOf
    rw [h.rung.live, if_neg Bool.false_ne_true, if_neg (by omega), h.top, if_neg (Nat.lt_irrefl _), if_neg (by omega), if_neg (by omega)]
  obtain ⟨D', hp, hr', hf'⟩ := putAll_calm (cut (R.last + 1) rec) h.rung h.fuse (fun i p hp => by
    have := cut_fit (n := R.last + 1) (base := R.base) (len := ps.length) (by have := h.last; omega) (by omega) i p hp
    exact this) (by rw [cut_length]; exact hr)
  refine ⟨D', ?_, ⟨hr', hf', ?_, rfl, ended_app (cut_ne _ _) (cut_ended _ _)⟩⟩
  · unfold appendOf
    rw [href, if_neg (by simp), hp, if_neg (by simp)]
  · show R.last + pieces rec.length = R.base + _
    rw [List.length_append, cut_length, h.last, Nat.add_assoc]
theorem Calm.refuse {D : DS} {R : RG} {ps : List Pc} {s : Nat} (_h : Calm D R ps s) (rec : List UInt8) (x : Int) (hx : refuseOf D.dead R (pieces rec.length) = x) (hx0 : x ≠ 0) : appendOf D R rec = (x, D, R) := by
  unfold appendOf
  rw [hx, if_pos hx0]

/-- what is told: all -/
theorem Calm.told {D : DS} {R : RG} {ps : List Pc} {s : Nat} (h : Calm D R ps s) : inRing D R.first R.count R.base = whole [] ps := by
  unfold inRing seen
  rw [h.rung.told]
theorem lastIn_all (ps : List Pc) : ∀ (m base : Nat), (∀ i p, ps[i]? = some p → p.n = base + 1 + i) → Ended ps → lastIn m ps = if ps = [] then m else base + ps.length := by
  induction ps with
  | nil => intro m base _ _; rfl
  | cons p ps ih =>
    intro m base hn he
    have h0 := hn 0 p rfl
    rw [lastIn, if_neg (List.cons_ne_nil _ _)]
    cases ps with
    | nil =>
      have := he p rfl
      rw [this, if_pos rfl]
      show p.n = _
      exact h0
    | cons q ps =>
      rw [ih _ (base + 1) (fun i x hx => by have := hn (i + 1) x hx; omega) (fun x hx => he x (by rw [List.getLast?_cons_cons]; exact hx)), if_neg (List.cons_ne_nil _ _), List.length_cons, List.length_cons]
      simp only [List.length_cons]
      omega
theorem Calm.opens {D : DS} {R : RG} {ps : List Pc} {s : Nat} (h : Calm D R ps s) : opened D R.first R.count R.base = R := by
  have hs := seen_length h.rung.room
  have hh := h.rung.whole
  have hrun : run (seen D R.first R.count) R.count (R.base + 1) = ps := h.rung.told
  have hnum : ∀ i p, ps[i]? = some p → p.n = R.base + 1 + i := fun i p hp => by
    rw [← hrun] at hp
    exact pcAt_num (run_get _ _ _ _ _ hp)
  have hl : lastIn R.base ps = R.last := by
    rw [lastIn_all ps _ _ hnum h.ended, h.last]
    split
    · rename_i h0; rw [h0]; rfl
    · rfl
  have ht : topTo (seen D R.first R.count) R.base R.count = R.last := by
    have e := topTo_all (seen D R.first R.count) R.base
    rw [hs] at e
    rw [e]
    obtain ⟨t1, t2⟩ := topIn_ge (seen D R.first R.count) R.base
    apply Nat.le_antisymm
    · rw [h.last]
      have key : ∀ (l : List Nat) (t : Nat), (∀ i ∈ l, i < (seen D R.first R.count).length) → t ≤ R.base + ps.length → l.foldl (fun t i => match pcOf ((seen D R.first R.count).getD i []) i (seen D R.first R.count).length with
          | none => t
          | some p => max t p.n) t ≤ R.base + ps.length := by
        intro l
        induction l with
        | nil => intro t _ ht; exact ht
        | cons a l ih =>
          intro t hl' ht
          rw [List.foldl_cons]
          refine ih _ (fun i hi => hl' i (by simp [hi])) ?_
          split
          · exact ht
          · rename_i p hp
            have := hh.top a p (hl' a (by simp)) hp
            exact Nat.max_le.2 ⟨ht, this⟩
      exact key _ _ (fun i hi => List.mem_range.1 hi) (by omega)
    · rw [h.last]
      rcases Nat.eq_zero_or_pos ps.length with h0 | h0
      · rw [h0]; exact t1
      · obtain ⟨x, hp⟩ : ∃ x, ps[ps.length - 1]? = some x := ⟨_, List.getElem?_eq_getElem (show ps.length - 1 < ps.length by omega)⟩
        have hp' : (run (seen D R.first R.count) R.count (R.base + 1))[ps.length - 1]? = some x := by rw [hrun]; exact hp
        have hg := run_get _ _ _ _ _ hp'
        have hat := pcAt_of hg
        rw [hs] at hat t2
        have h4 := t2 _ x (Nat.mod_lt _ h.rung.pos) hat
        have h5 := hnum _ _ hp
        omega
  unfold opened
  rw [hrun, hl, ht]
  have := h.top
  obtain ⟨f, c, b, l, t⟩ := R
  simp only at this ⊢
  rw [this]

/-- sectors that have no piece -/
theorem blank_top {S : List (List UInt8)} (h : ∀ i, i < S.length → pcOf (S.getD i []) i S.length = none) (base : Nat) : ∀ k, k ≤ S.length → topTo S base k = base := by
  intro k
  induction k with
  | zero => intro _; rfl
  | succ k ih => intro hk; rw [topTo_snoc, h k (by omega)]; exact ih (by omega)
theorem blank_run {S : List (List UInt8)} (hc : 0 < S.length) (h : ∀ i, i < S.length → pcOf (S.getD i []) i S.length = none) (k n : Nat) : run S k n = [] := by
  cases k with
  | zero => rfl
  | succ k =>
    have : pcAt S n = none := by
      unfold pcAt
      rw [h _ (Nat.mod_lt _ hc)]
      rfl
    rw [run, this]
theorem zeros_none (i c : Nat) : pcOf (List.replicate 512 0) i c = none := by
  have : val ((List.replicate 512 (0 : UInt8)).take 8) = 0 := by rw [List.take_replicate]; rfl
  unfold pcOf
  rw [this, if_pos (.inl (by omega))]
/-- a ring of sectors that nobody wrote -/
theorem blank_calm {D : DS} {first count base : Nat} (hd : D.dead = false) (hf : D.fuse = none) (hc : 1 ≤ count) (hl : first + count ≤ D.lasts.length) (hw : D.waits = []) (hz : ∀ i, i < count → D.lasts.getD (first + i) [] = List.replicate 512 0) : opened D first count base = ⟨first, count, base, base, base⟩ ∧ inRing D first count base = [] ∧ Calm D ⟨first, count, base, base, base⟩ [] 0 := by
  have hs := seen_length hl
  have hb : ∀ i, i < (seen D first count).length → pcOf ((seen D first count).getD i []) i (seen D first count).length = none := fun i hi => by
    rw [hs] at hi
    rw [seen_get hl hi, hw]
    show pcOf (D.lasts.getD (first + i) []) i _ = none
    rw [hz i hi]
    exact zeros_none _ _
  have hr := blank_run (by omega) hb count (base + 1)
  have ht := blank_top hb base count (by omega)
  refine ⟨?_, ?_, ⟨⟨hd, hc, hl, Nat.le_refl _, Nat.zero_le _, hw, fun i p hp => absurd hp (by simp), ?_⟩, hf, rfl, rfl, ended_nil⟩⟩
  · unfold opened
    rw [hr, ht]
    rfl
  · unfold inRing
    rw [hr]
    rfl
  · have := empty_half (secs D.lasts first count) base (by rw [secs_length hl]; omega)
    have e := topTo_all (seen D first count) base
    rw [hs, ht] at e
    have e2 : seen D first count = secs D.lasts first count := by unfold seen; rw [hw]; rfl
    rw [e2] at e
    rw [← e] at this
    exact this
/-- of a ring's last number on: nothing -/
theorem Calm.beyond {D : DS} {R : RG} {ps : List Pc} {s : Nat} (h : Calm D R ps s) : opened D R.first R.count R.last = ⟨R.first, R.count, R.last, R.last, R.last⟩ ∧ inRing D R.first R.count R.last = [] := by
  have hs := seen_length h.rung.room
  have hh := h.rung.whole
  have hpa : pcAt (seen D R.first R.count) (R.last + 1) = none := pcAt_none hh.pos hh.top (by have := h.last; omega)
  have hr : ∀ k, run (seen D R.first R.count) k (R.last + 1) = [] := fun k => by
    cases k with
    | zero => rfl
    | succ k => rw [run, hpa]
  have ht : ∀ k, k ≤ R.count → topTo (seen D R.first R.count) R.last k = R.last := by
    intro k
    induction k with
    | zero => intro _; rfl
    | succ k ih =>
      intro hk
      rw [topTo_snoc]
      split
      · exact ih (by omega)
      · rename_i p hp
        rw [ih (by omega)]
        have := hh.top k p (by have : (secs (setAll D.lasts D.waits) R.first R.count).length = R.count := hs; omega) hp
        exact Nat.max_eq_left (by have := h.last; omega)
  refine ⟨?_, ?_⟩
  · unfold opened
    rw [hr, ht _ (Nat.le_refl _)]
    rfl
  · unfold inRing
    rw [hr]
    rfl
end Go.Proofs.Ytplpfhgdanclhaa
