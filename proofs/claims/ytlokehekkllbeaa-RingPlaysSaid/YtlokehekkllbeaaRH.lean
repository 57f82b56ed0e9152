/-
  RCalm: THE PLAIN RING WITHOUT A CRASH: what is appended is there. No program in sight, but for what its calls answer. No condition.
  RAwake: The example that every law of package ring asks first. No statement is proved here. No condition.
  RAwakeW: The example that every law of package ring asks first, walked. No statement is proved here. No condition.
  RSame: The document's ring (butteryref04): Same; and the law's 'begins'. No statement is proved here. No condition.
-/
import Derived.Test.YtlokehekkllbeaaRG
import Derived.Lib.SmallJoins
import Derived.Test.YtlokehekkllbeaaRF
namespace Go.Proofs.Ytlokehekkllbeaa
open Go.RowKit

/-- a ring that works, on a disk with no fuse -/
structure Calm (D : DS) (R : RG) (ps : List Pc) (s : Nat) : Prop where
  rung : Rung D R.first R.count R.base ps s
  fuse : D.fuse = none
  last : R.last = R.base + ps.length
  top : R.top = R.last
  ended : Ended ps

theorem write_calm {D : DS} (hd : D.dead = false) (hf : D.fuse = none) {i : Nat} {b : List UInt8} (hi : i < D.lasts.length) (hb : b.length = 512) : D.write (i : Int) b = (0, (D.wrote i b).tick) ∧ ((D.wrote i b).tick).fuse = none ∧ ((D.wrote i b).tick).dead = false := by
  have hin : (inside D (i : Int) && decide (b.length = 512)) = true := by
    unfold inside
    rw [decide_eq_true (by omega), decide_eq_true (by omega), decide_eq_true hb]
    rfl
  unfold DS.write
  rw [hd, if_neg Bool.false_ne_true, if_pos hin, hf, if_neg (by simp)]
  exact ⟨by rw [Int.toNat_natCast], by show D.fuse.map _ = none; rw [hf]; rfl, hd⟩
theorem putAll_calm {first count base s : Nat} (W : List Pc) : ∀ {D : DS} {ps : List Pc}, Rung D first count base ps s → D.fuse = none → (∀ i p, W[i]? = some p → p.fine ∧ p.n = base + 1 + ps.length + i) → ps.length + W.length ≤ count →
    ∃ D', D.putAll first count W = (0, D') ∧ Rung D' first count base (ps ++ W) s ∧ D'.fuse = none := by
  induction W with
  | nil => intro D ps h hf _ _; rw [List.append_nil]; exact ⟨D, rfl, h, hf⟩
  | cons p W ih =>
    intro D ps h hf hW hl
    rw [List.length_cons] at hl
    have h0 := hW 0 p rfl
    have hm := Nat.mod_lt p.n h.pos
    have hroom := h.room
    obtain ⟨w1, w2, w3⟩ := write_calm h.live hf (i := first + p.n % count) (b := p.sec) (by omega) (p.sec_length h0.1.2.2.1)
    have hr := (h.wrote h0.1 (by omega) (by omega)).tick
    rw [DS.putAll, w1, show ps ++ p :: W = (ps ++ [p]) ++ W by rw [List.append_assoc]; rfl]
    refine ih hr w2 (fun i q hq => ?_) (by rw [List.length_append, List.length_singleton]; omega)
    have := hW (i + 1) q hq
    rw [List.length_append, List.length_singleton]
    exact ⟨this.1, by omega⟩
theorem Calm.room {D : DS} {R : RG} {ps : List Pc} {s : Nat} (h : Calm D R ps s) : R.room' = R.count - ps.length := by
  unfold RG.room'
  rw [h.top, if_neg (Nat.lt_irrefl _), h.last]
  omega
theorem Calm.append {D : DS} {R : RG} {ps : List Pc} {s : Nat} (h : Calm D R ps s) (rec : List UInt8) (hr : ps.length + pieces rec.length ≤ R.count) (hm : R.last + pieces rec.length ≤ 4611686018427387904) :
    ∃ D', appendOf D R rec = (0, D', { R with last := R.last + pieces rec.length, top := R.last + pieces rec.length }) ∧ Calm D' { R with last := R.last + pieces rec.length, top := R.last + pieces rec.length } (ps ++ cut (R.last + 1) rec) s := by
  have hroom := h.room
  have href : refuseOf D.dead R (pieces rec.length) = 0 := by
    unfold refuseOf
    rw [h.rung.live, if_neg Bool.false_ne_true, if_neg (by omega), h.top, if_neg (Nat.lt_irrefl _), if_neg (by omega), if_neg (by omega)]
  obtain ⟨D', hp, hr', hf'⟩ := putAll_calm (cut (R.last + 1) rec) h.rung h.fuse (fun i p hp => by
    have := cut_fit (n := R.last + 1) (base := R.base) (len := ps.length) (by have := h.last; omega) (by omega) i p hp
    exact this) (by rw [cut_length]; exact hr)
  refine ⟨D', ?_, ⟨hr', hf', ?_, rfl, ended_app (cut_ne _ _) (cut_ended _ _)⟩⟩
  · unfold appendOf
    rw [href, if_neg (by simp), hp, if_neg (by simp)]
  · show R.last + pieces rec.length = R.base + _
    rw [List.length_append, cut_length, h.last, Nat.add_assoc]
theorem Calm.refuse {D : DS} {R : RG} {ps : List Pc} {s : Nat} (_h : Calm D R ps s) (rec : List UInt8) (x : Int) (hx : refuseOf D.dead R (pieces rec.length) = x) (hx0 : x ≠ 0) : appendOf D R rec = (x, D, R) := by
  unfold appendOf
  rw [hx, if_pos hx0]

/-- what is told: all -/
theorem Calm.told {D : DS} {R : RG} {ps : List Pc} {s : Nat} (h : Calm D R ps s) : inRing D R.first R.count R.base = whole [] ps := by
  unfold inRing seen
  rw [h.rung.told]
theorem lastIn_all (ps : List Pc) : ∀ (m base : Nat), (∀ i p, ps[i]? = some p → p.n = base + 1 + i) → Ended ps → lastIn m ps = if ps = [] then m else base + ps.length := by
  induction ps with
  | nil => intro m base _ _; rfl
  | cons p ps ih =>
    intro m base hn he
    have h0 := hn 0 p rfl
    rw [lastIn, if_neg (List.cons_ne_nil _ _)]
    cases ps with
    | nil =>
      have := he p rfl
      rw [this, if_pos rfl]
      show p.n = _
      exact h0
    | cons q ps =>
      rw [ih _ (base + 1) (fun i x hx => by have := hn (i + 1) x hx; omega) (fun x hx => he x (by rw [List.getLast?_cons_cons]; exact hx)), if_neg (List.cons_ne_nil _ _), List.length_cons, List.length_cons]
      simp only [List.length_cons]
      omega
theorem Calm.opens {D : DS} {R : RG} {ps : List Pc} {s : Nat} (h : Calm D R ps s) : opened D R.first R.count R.base = R := by
  have hs := seen_length h.rung.room
  have hh := h.rung.whole
  have hrun : run (seen D R.first R.count) R.count (R.base + 1) = ps := h.rung.told
  have hnum : ∀ i p, ps[i]? = some p → p.n = R.base + 1 + i := fun i p hp => by
    rw [← hrun] at hp
    exact pcAt_num (run_get _ _ _ _ _ hp)
  have hl : lastIn R.base ps = R.last := by
    rw [lastIn_all ps _ _ hnum h.ended, h.last]
    split
    · rename_i h0; rw [h0]; rfl
    · rfl
  have ht : topTo (seen D R.first R.count) R.base R.count = R.last := by
    have e := topTo_all (seen D R.first R.count) R.base
    rw [hs] at e
    rw [e]
    obtain ⟨t1, t2⟩ := topIn_ge (seen D R.first R.count) R.base
    apply Nat.le_antisymm
    · rw [h.last]
      have key : ∀ (l : List Nat) (t : Nat), (∀ i ∈ l, i < (seen D R.first R.count).length) → t ≤ R.base + ps.length → l.foldl (fun t i => match pcOf ((seen D R.first R.count).getD i []) i (seen D R.first R.count).length with
          | none => t
          | some p => max t p.n) t ≤ R.base + ps.length := by
        intro l
        induction l with
        | nil => intro t _ ht; exact ht
        | cons a l ih =>
          intro t hl' ht
          rw [List.foldl_cons]
          refine ih _ (fun i hi => hl' i (by simp [hi])) ?_
          split
          · exact ht
          · rename_i p hp
            have := hh.top a p (hl' a (by simp)) hp
            exact Nat.max_le.2 ⟨ht, this⟩
      exact key _ _ (fun i hi => List.mem_range.1 hi) (by omega)
    · rw [h.last]
      rcases Nat.eq_zero_or_pos ps.length with h0 | h0
      · rw [h0]; exact t1
      · obtain ⟨x, hp⟩ : ∃ x, ps[ps.length - 1]? = some x := ⟨_, List.getElem?_eq_getElem (show ps.length - 1 < ps.length by omega)⟩
        have hp' : (run (seen D R.first R.count) R.count (R.base + 1))[ps.length - 1]? = some x := by rw [hrun]; exact hp
        have hg := run_get _ _ _ _ _ hp'
        have hat := pcAt_of hg
        rw [hs] at hat t2
        have h4 := t2 _ x (Nat.mod_lt _ h.rung.pos) hat
        have h5 := hnum _ _ hp
        omega
  unfold opened
  rw [hrun, hl, ht]
  have := h.top
  obtain ⟨f, c, b, l, t⟩ := R
  simp only at this ⊢
  rw [this]

/-- sectors that have no piece -/
theorem blank_top {S : List (List UInt8)} (h : ∀ i, i < S.length → pcOf (S.getD i []) i S.length = none) (base : Nat) : ∀ k, k ≤ S.length → topTo S base k = base := by
  intro k
  induction k with
  | zero => intro _; rfl
  | succ k ih => intro hk; rw [topTo_snoc, h k (by omega)]; exact ih (by omega)
theorem blank_run {S : List (List UInt8)} (hc : 0 < S.length) (h : ∀ i, i < S.length → pcOf (S.getD i []) i S.length = none) (k n : Nat) : run S k n = [] := by
  cases k with
  | zero => rfl
  | succ k =>
    have : pcAt S n = none := by
      unfold pcAt
      rw [h _ (Nat.mod_lt _ hc)]
      rfl
    rw [run, this]
theorem zeros_none (i c : Nat) : pcOf (List.replicate 512 0) i c = none := by
  have : val ((List.replicate 512 (0 : UInt8)).take 8) = 0 := by rw [List.take_replicate]; rfl
  unfold pcOf
  rw [this, if_pos (.inl (by omega))]
/-- a ring of sectors that nobody wrote -/
theorem blank_calm {D : DS} {first count base : Nat} (hd : D.dead = false) (hf : D.fuse = none) (hc : 1 ≤ count) (hl : first + count ≤ D.lasts.length) (hw : D.waits = []) (hz : ∀ i, i < count → D.lasts.getD (first + i) [] = List.replicate 512 0) : opened D first count base = ⟨first, count, base, base, base⟩ ∧ inRing D first count base = [] ∧ Calm D ⟨first, count, base, base, base⟩ [] 0 := by
  have hs := seen_length hl
  have hb : ∀ i, i < (seen D first count).length → pcOf ((seen D first count).getD i []) i (seen D first count).length = none := fun i hi => by
    rw [hs] at hi
    rw [seen_get hl hi, hw]
    show pcOf (D.lasts.getD (first + i) []) i _ = none
    rw [hz i hi]
    exact zeros_none _ _
  have hr := blank_run (by omega) hb count (base + 1)
  have ht := blank_top hb base count (by omega)
  refine ⟨?_, ?_, ⟨⟨hd, hc, hl, Nat.le_refl _, Nat.zero_le _, hw, fun i p hp => absurd hp (by simp), ?_⟩, hf, rfl, rfl, ended_nil⟩⟩
  · unfold opened
    rw [hr, ht]
    rfl
  · unfold inRing
    rw [hr]
    rfl
  · have := empty_half (secs D.lasts first count) base (by rw [secs_length hl]; omega)
    have e := topTo_all (seen D first count) base
    rw [hs, ht] at e
    have e2 : seen D first count = secs D.lasts first count := by unfold seen; rw [hw]; rfl
    rw [e2] at e
    rw [← e] at this
    exact this
/-- of a ring's last number on: nothing -/
theorem Calm.beyond {D : DS} {R : RG} {ps : List Pc} {s : Nat} (h : Calm D R ps s) : opened D R.first R.count R.last = ⟨R.first, R.count, R.last, R.last, R.last⟩ ∧ inRing D R.first R.count R.last = [] := by
  have hs := seen_length h.rung.room
  have hh := h.rung.whole
  have hpa : pcAt (seen D R.first R.count) (R.last + 1) = none := pcAt_none hh.pos hh.top (by have := h.last; omega)
  have hr : ∀ k, run (seen D R.first R.count) k (R.last + 1) = [] := fun k => by
    cases k with
    | zero => rfl
    | succ k => rw [run, hpa]
  have ht : ∀ k, k ≤ R.count → topTo (seen D R.first R.count) R.last k = R.last := by
    intro k
    induction k with
    | zero => intro _; rfl
    | succ k ih =>
      intro hk
      rw [topTo_snoc]
      split
      · exact ih (by omega)
      · rename_i p hp
        rw [ih (by omega)]
        have := hh.top k p (by have : (secs (setAll D.lasts D.waits) R.first R.count).length = R.count := hs; omega) hp
        exact Nat.max_eq_left (by have := h.last; omega)
  refine ⟨?_, ?_⟩
  · unfold opened
    rw [hr, ht _ (Nat.le_refl _)]
    rfl
  · unfold inRing
    rw [hr]
    rfl
end Go.Proofs.Ytlokehekkllbeaa
namespace Go.Proofs.Ytlokehekkllbeaa
open Go.RowKit

/-- a literal text as bytes -/
theorem lit_bytes (w : World) (C : Array Value) (l : List UInt8) (n : Nat) (h : C.toList = BS l) (hn : n = l.length) (hl : l.length ≤ maxLen) : ∃ w', (convert 39 39 (.slice (some ⟨w.heap.size, 0, none⟩) n n)).run Try.prog (w.alloc (.cells C 5)) = .ok (.slice (some ⟨w.heap.size, 0, none⟩) n n) w' ∧
    RdN w' (fun x => w.heap.size ≤ x) (.slice (some ⟨w.heap.size, 0, none⟩) n n) l ∧ Below w.heap.size w w' := by
  refine ⟨_, Go.Joins.run_convert_bytes_const_at (P := Try.prog) w 39 5 C n n w.heap.size rfl Try.underlying39 Try.underlying5, ?_, (Below.refl _ _).alloc (Nat.le_refl _) _⟩
  subst hn
  refine ⟨_, _, rfl, Nat.le_refl _, hl, (fun h => by cases h), fun _ => ⟨w.heap.size, 0, rfl, Nat.le_refl _, by simp, fun i x hx => ?_⟩⟩
  have h2 : C[i]? = some (.int .u8 (x.toNat : Int)) := by
    rw [← Array.getElem?_toList, h]
    unfold BS
    rw [List.getElem?_map, hx]
    rfl
  rw [Nat.zero_add]
  exact (cell_of_row _ w.heap.size i C _ _ (heap_alloc_new w _)).trans h2
/-- new bytes: noughts -/
theorem made_noughts (n : Nat) (hn : n ≤ 140737488355328) (w : World) : ∃ w', (Instr.makeSlice 39 (.int .i64 (n : Int)) (.int .i64 (n : Int))).run Try.prog w = .ok (.slice (some ⟨w.heap.size, 0, none⟩) n n) w' ∧ w'.ownsRow w.heap.size 5 1 (.slice (some ⟨w.heap.size, 0, none⟩) n n) n (BS (List.replicate n 0)) ∧ Below w.heap.size w w' := made_marks n hn w

theorem fit_putAll {first count : Nat} (W : List Pc) : ∀ {D : DS} {k : Nat}, Fit D k → Fit (D.putAll first count W).2 (k + W.length) := by
  induction W with
  | nil => intro D k h; exact h
  | cons p W ih =>
    intro D k h
    have h1 := h.write ((first + p.n % count : Nat) : Int) p.sec
    rw [DS.putAll, List.length_cons]
    split
    · have := ih h1
      rwa [show k + 1 + W.length = k + (W.length + 1) by omega] at this
    · exact h1.mono (by omega)
theorem fit_append {D : DS} {R : RG} {k : Nat} (h : Fit D k) (rec : List UInt8) : Fit (appendOf D R rec).2.1 (k + pieces rec.length) := by
  have := fit_putAll (first := R.first) (count := R.count) (cut (R.last + 1) rec) h
  rw [cut_length] at this
  unfold appendOf
  split
  · exact h.mono (by omega)
  · split
    · exact this
    · exact this

theorem write_len (D : DS) (i : Int) (b : List UInt8) : (D.write i b).2.lasts.length = D.lasts.length := by
  unfold DS.write
  split
  · rfl
  · split
    · split
      · show (setAll D.lasts _).length = _
        rw [setAll_length]
      · rfl
    · rfl
theorem putAll_len {first count : Nat} (W : List Pc) : ∀ D : DS, (D.putAll first count W).2.lasts.length = D.lasts.length := by
  induction W with
  | nil => intro D; rfl
  | cons p W ih =>
    intro D
    rw [DS.putAll]
    split
    · rw [ih, write_len]
    · rw [write_len]
theorem append_len (D : DS) (R : RG) (rec : List UInt8) : (appendOf D R rec).2.1.lasts.length = D.lasts.length := by
  unfold appendOf
  split
  · rfl
  · split
    · exact putAll_len _ _
    · exact putAll_len _ _

theorem cut_short (n : Nat) {r : List UInt8} (h : r.length ≤ 501) : cut n r = [⟨n, true, r⟩] := by unfold cut; rw [dif_pos h]

def AB : List UInt8 := [97, 98]
def Z502 : List UInt8 := List.replicate 502 0
theorem z502_length : Z502.length = 502 := List.length_replicate
def aR0 : RG := ⟨2, 4, 0, 0, 0⟩
def aR1 : RG := ⟨2, 4, 0, 1, 1⟩
def aR2 : RG := ⟨2, 4, 0, 3, 3⟩
theorem new_blank (n first count base : Nat) (_hn : n ≤ 65536) (hc : 1 ≤ count) (hl : first + count ≤ n) : opened (DS.new n) first count base = ⟨first, count, base, base, base⟩ ∧ inRing (DS.new n) first count base = [] ∧ Calm (DS.new n) ⟨first, count, base, base, base⟩ [] 0 := by
  have hll : (DS.new n).lasts.length = n := by unfold DS.new; rw [List.length_replicate]
  refine blank_calm rfl rfl hc (by rw [hll]; exact hl) rfl fun i hi => ?_
  unfold DS.new
  show (List.replicate n (List.replicate 512 (0 : UInt8))).getD (first + i) [] = _
  rw [List.getD_eq_getElem?_getD, List.getElem?_replicate, if_pos (by omega)]
  rfl
/-- the example's disks -/
theorem awake_disks : ∃ D1 D2, appendOf (DS.new 20) aR0 AB = (0, D1, aR1) ∧ appendOf D1 aR1 Z502 = (0, D2, aR2) ∧ D1.dead = false ∧ D2.dead = false ∧ Fit D1 1 ∧ Fit D2 3 ∧ D2.lasts.length = 20 ∧ opened D2 2 4 0 = aR2 ∧ inRing D2 2 4 0 = [AB, Z502] ∧ D2.read 3 = (0, Pc.sec ⟨1, true, AB⟩) := by
  have k0 := (new_blank 20 2 4 0 (by omega) (by omega) (by omega)).2.2
  have f0 : Fit (DS.new 20) 0 := Fit.new (by omega)
  obtain ⟨D1, e1, k1⟩ := k0.append AB (by decide) (by decide)
  have f1 := fit_append (R := aR0) f0 AB
  have e1' : appendOf (DS.new 20) aR0 AB = (0, D1, aR1) := e1
  rw [e1'] at f1
  obtain ⟨D2, e2, k2⟩ := k1.append Z502 (by show (([] : List Pc) ++ cut 1 AB).length + pieces Z502.length ≤ 4; rw [List.nil_append, cut_length, z502_length]; decide) (by rw [z502_length]; decide)
  have f2 := fit_append (R := aR1) f1 Z502
  have e2' : appendOf D1 aR1 Z502 = (0, D2, aR2) := by
    rw [z502_length] at e2
    exact e2
  rw [e2', z502_length] at f2
  have hl1 : D1.lasts.length = 20 := by
    have := append_len (DS.new 20) aR0 AB
    rw [e1'] at this
    exact this.trans List.length_replicate
  have hl2 : D2.lasts.length = 20 := by
    have := append_len D1 aR1 Z502
    rw [e2'] at this
    exact this.trans hl1
  have ht := k2.told
  have ho := k2.opens
  have hh := k2.rung.whole
  rw [z502_length] at ho
  refine ⟨D1, D2, e1', e2', k1.rung.live, k2.rung.live, f1, f2, hl2, ho, ?_, ?_⟩
  · have ht' : inRing D2 2 4 0 = whole [] (([] ++ cut 1 AB) ++ cut 2 Z502) := ht
    rw [ht', whole_more k1.ended, whole_more ended_nil]
    rfl
  · have hs : (seen D2 2 4).length = 4 := seen_length (by rw [hl2]; decide)
    have hh' : Half (seen D2 2 4) 0 (([] ++ cut 1 AB) ++ cut 2 Z502) (([] ++ cut 1 AB) ++ cut 2 Z502).length := hh
    have hp : (([] ++ cut 1 AB) ++ cut 2 Z502)[0]? = some (Pc.mk 1 true AB) := by rw [List.nil_append, cut_short 1 (by decide)]; rfl
    have hat : pcAt (seen D2 2 4) 1 = some (Pc.mk 1 true AB) := by
      rcases hh'.there 0 _ hp with h | ⟨h, _⟩
      · exact h
      · have := (List.getElem?_eq_some_iff.1 hp).1
        omega
    have hof := pcAt_of hat
    rw [hs] at hof
    have hlook : (seen D2 2 4).getD 1 [] = look D2.lasts D2.waits 3 := seen_get (by rw [hl2]; decide) (by decide)
    have hof' : pcOf (look D2.lasts D2.waits 3) 1 4 = some (Pc.mk 1 true AB) := by rw [← hlook]; exact hof
    have hlen : (look D2.lasts D2.waits 3).length = 512 := look_length f2.ok (by rw [hl2]; decide)
    rw [pcOf_pcIn hlen] at hof'
    have hin := (pcIn_some hlen (Option.filter_eq_some_iff.1 hof').1).2.1
    unfold DS.read inside
    rw [k2.rung.live, hl2, hin]
    rfl
end Go.Proofs.Ytlokehekkllbeaa
namespace Go.Proofs.Ytlokehekkllbeaa
open Go.RowKit

theorem sec_ab : (Pc.sec ⟨1, true, AB⟩).length = 512 ∧ (Pc.sec ⟨1, true, AB⟩)[0]? = some 1 ∧ (Pc.sec ⟨1, true, AB⟩)[8]? = some 1 ∧ (Pc.sec ⟨1, true, AB⟩)[9]? = some 2 ∧ (Pc.sec ⟨1, true, AB⟩)[11]? = some 97 := ⟨Pc.sec_length _ (by decide), rfl, rfl, rfl, rfl⟩

set_option maxHeartbeats 4000000 in
set_option maxRecDepth 100000 in
theorem awake_any (w : World) : Calls Try.prog 6 #[] w fun e w' => e = .returned (.bool true) ∧ Below w.heap.size w w' := by
  obtain ⟨D1, D2, e1, e2, d1, d2, f1, f2, hl2, ho2, hin2, hrd2⟩ := awake_disks
  obtain ⟨o0, i0, -⟩ := new_blank 20 2 4 0 (by omega) (by omega) (by omega)
  have f0 : Fit (DS.new 20) 0 := Fit.new (by omega)
  have hll : (DS.new 20).lasts.length = 20 := List.length_replicate
  have hdd : (DS.new 20).dead = false := rfl
  obtain ⟨D0, hD0⟩ : ∃ D0, D0 = DS.new 20 := ⟨_, rfl⟩
  rw [← hD0] at e1 o0 i0 f0 hll hdd
  have cN := pNew_yes 20 w (by omega) (by omega)
  rw [← hD0] at cN
  have E1 := Lib.hid e1
  have E2 := Lib.hid e2
  have O2 := Lib.hid ho2
  have I2 := Lib.hid hin2
  have R2 := Lib.hid hrd2
  have O0 := Lib.hid o0
  have I0 := Lib.hid i0
  have F0 := Lib.hid f0
  have F1 := Lib.hid f1
  have F2 := Lib.hid f2
  clear hD0 e1 e2 ho2 hin2 hrd2 o0 i0 f0 f1 f2
  go_enter Try.func6, Try.ntmps6
  go_wp2_with fail
  refine cN.mono ?_
  rintro e w1 ⟨hb1, q, rfl, hd1⟩
  clear cN
  have hs1 := hb1.size
  have cO := popen_any hd1 (F0.out.fine (by omega)) (fun b hb => hb.2) hdd 2 4 0 (by omega) (by rw [hll]; omega) (by rw [hll]; omega) (by omega)
  rw [O0.out, I0.out] at cO
  go_wp2_with fail
  refine cO.mono ?_
  rintro e w2 ⟨r, v, rfl, hb2, hr2, hrg2, hll2⟩
  clear cO
  have hs2 := hb2.size
  have hrl := hrg2.lt
  have hd2 : PD w2 (Made w w1) Nil q D0 := hd1.kept (fun _ h => h) (fun _ h => h) (fun b hb _ => hb2.block b hb) (fun b _ _ hb => hb2.block b hb)
  obtain ⟨w3, hcv, hr3, hb3⟩ := lit_bytes w2 #[.int .u8 97, .int .u8 98] AB 2 rfl rfl (by unfold maxLen; decide)
  have hs3 := hb3.size
  have hd3 : PD w3 (Made w w1) Nil q D0 := hd2.kept (fun _ h => h) (fun _ h => h) (fun b hb _ => hb3.block b hb) (fun b _ _ hb => hb3.block b hb)
  have hrg3 : RgAt w3 r q aR0 := hrg2.kept (hb3.block r hrg2.lt)
  have cA := pappend_any hrg3 ⟨by decide, by decide, by decide, by decide, by decide, by decide⟩ hd3 F0.out (fun b hb => ⟨by have := hb.2; omega, by have := hb.2; omega⟩) AB _ (hr3.mono (fun x hx _ hm => by have := hm.2; omega)) (by decide) (by decide)
  rw [E1.out] at cA
  clear hll2 hrg2 hd1 hd2 hrg3 hd3 hr3
  go_wp2_with fail
  refine cA.mono ?_
  rintro e w4 ⟨rfl, hk4, hd4, hrg4⟩
  have hk4' := hk4
  clear cA hcv
  have hs4 := hk4.size
  obtain ⟨w5, hmk, hz5, hb5⟩ := made_noughts 502 (by omega) w4
  have hmk : (Instr.makeSlice 39 (.int .i64 502) (.int .i64 502)).run Try.prog w4 = .ok (.slice (some ⟨w4.heap.size, 0, none⟩) 502 502) w5 := hmk
  have hs5 := hb5.size
  have hd5 : PD w5 (More (Made w w1) w3 w4) (More Nil w3 w4) q D1 := hd4.kept (fun _ h => h) (fun _ h => h) (fun b hb _ => hb5.block b hb) (fun b _ _ hb => hb5.block b hb)
  have hrg5 : RgAt w5 r q aR1 := hrg4.kept (hb5.block r hrg4.lt)
  have hG4 : ∀ b, More (Made w w1) w3 w4 b → b < w4.heap.size ∧ b ≠ r := fun b hb => by
    rcases hb with h | h
    · have := h.2; exact ⟨by omega, by omega⟩
    · exact ⟨h.2, by omega⟩
  have cB := pappend_any hrg5 ⟨by decide, by decide, by decide, by decide, by decide, by decide⟩ hd5 F1.out (fun b hb => ⟨by have := (hG4 b hb).1; omega, (hG4 b hb).2⟩) Z502 _ (RdN.own hz5 (fun b hb hm => by have h1 : w4.heap.size = b := Option.some.inj hb; have := (hG4 b hm).1; omega)) (by rw [z502_length]; omega) (by rw [z502_length]; decide)
  rw [E2.out] at cB
  clear hk4 hd4 hrg4 hd5 hrg5
  go_wp2_with fail
  refine cB.mono ?_
  rintro e w6 ⟨rfl, hk6, hd6, hrg6⟩
  have hk6' := hk6
  clear cB hmk hz5
  have hs6 := hk6.size
  obtain ⟨G6, hG6⟩ : ∃ G6, G6 = More (More (Made w w1) w3 w4) w5 w6 := ⟨_, rfl⟩
  have hG6b : ∀ b, G6 b → b < w6.heap.size ∧ b ≠ r := fun b hb => by
    rw [hG6] at hb
    rcases hb with h | h
    · have := hG4 b h; exact ⟨by omega, this.2⟩
    · exact ⟨h.2, by omega⟩
  have hG6w : ∀ b, G6 b → w.heap.size ≤ b := fun b hb => by
    rw [hG6] at hb
    rcases hb with (h | h) | h
    · exact h.1
    · have := h.1; omega
    · have := h.1; omega
  obtain ⟨S6, hS6⟩ : ∃ S6, S6 = More (More Nil w3 w4) w5 w6 := ⟨_, rfl⟩
  rw [← hG6, ← hS6] at hd6
  have cl := plast_any hrg6
  rw [show aR2.last = 3 from rfl, show ((3 : Nat) : Int) = 3 from rfl] at cl
  have cr := proom_any hrg6 ⟨by decide, by decide, by decide, by decide, by decide, by decide⟩
  rw [show aR2.room' = 1 by decide, show ((1 : Nat) : Int) = 1 from rfl] at cr
  have B1 : Below w.heap.size w w3 := (hb1.trans (Joins.below_le hb2 (by omega))).trans (Joins.below_le hb3 (by omega))
  have B4 : Below w.heap.size w w4 := B1.trans (hk4'.below (by omega) (fun b hb => by
    rcases hb with h | h
    · exact h.1.1
    · omega))
  have B5 : Below w.heap.size w w5 := B4.trans (Joins.below_le hb5 (by omega))
  have B6 : Below w.heap.size w w6 := B5.trans (hk6'.below (by omega) (fun b hb => by
    rcases hb with h | h
    · have := h.1
      rcases this with h' | h'
      · exact h'.1
      · have := h'.1; omega
    · omega))
  have HB6 := Lib.hid B6
  have HD6 := Lib.hid hd6
  have HR6 := Lib.hid hrg6
  have hr6l := hrg6.lt
  clear B1 B4 B5 B6 hk4' hk6' hk6 hd6 hrg6 hb1 hb2 hb3 hb5 hG6 hS6
  go_wp2_with fail
  refine cl.mono ?_
  rintro e w7 ⟨rfl, rfl⟩
  clear cl
  go_wp2_with fail
  refine cr.mono ?_
  rintro e w7 ⟨rfl, kk, rfl⟩
  clear cr
  obtain ⟨w7, hw7⟩ : ∃ w7, w7 = w6.drewN kk := ⟨_, rfl⟩
  have hb7 : Below w6.heap.size w6 w7 := by rw [hw7]; exact ⟨rfl, rfl, rfl, Nat.le_refl _, fun _ _ => rfl⟩
  rw [← hw7]
  have hs7 := hb7.size
  have hd7 : PD w7 G6 S6 q D2 := HD6.out.kept (fun _ h => h) (fun _ h => h) (fun b hb _ => hb7.block b hb) (fun b _ _ hb => hb7.block b hb)
  have cR := pRead_any G6 S6 q D2 3 w7 hd7 F2.out.ok (by omega)
  rw [R2.out] at cR
  clear hw7
  go_wp2_with fail
  refine cR.mono ?_
  rintro e w8 ⟨v8, n8, rfl, hn8, ho8, hb8⟩
  clear cR
  rw [sec_ab.1] at hn8
  subst hn8
  obtain ⟨g8, cap8, rfl, hg8, hg8'⟩ := ho8.form (by omega)
  have kx : ∀ (i : Nat) (x : UInt8), (Pc.sec ⟨1, true, AB⟩)[i]? = some x → w8.cell? ⟨g8, i, none⟩ = some (.int .u8 (x.toNat : Int)) := fun i x hx => by
    have hi : i < 512 := by rw [← sec_ab.1]; exact (List.getElem?_eq_some_iff.1 hx).1
    rw [ho8.cellAt i (by omega)]
    unfold BS
    rw [List.getElem?_map, hx]
    rfl
  have k0 := kx 0 1 sec_ab.2.1
  have k8 := kx 8 1 sec_ab.2.2.1
  have k9 := kx 9 2 sec_ab.2.2.2.1
  have k11 := kx 11 97 sec_ab.2.2.2.2
  have hs8 := hb8.size
  have hd8 : PD w8 G6 S6 q D2 := hd7.kept (fun _ h => h) (fun _ h => h) (fun b hb _ => hb8.block b hb) (fun b _ _ hb => hb8.block b hb)
  have cO := popen_any hd8 (F2.out.fine (by omega)) (fun b hb => by have := (hG6b b hb).1; omega) d2 2 4 0 (by omega) (by rw [hl2]; omega) (by rw [hl2]; omega) (by omega)
  rw [O2.out, I2.out] at cO
  clear hd7 hd8 ho8 kx
  go_wp2_with fail
  refine cO.mono ?_
  rintro e w9 ⟨r9, v9, rfl, hb9, hr9, hrg9, hll9⟩
  clear cO
  have hs9 := hb9.size
  have m0 : w9.cell? ⟨g8, 0, none⟩ = some (.int .u8 1) := (hb9.cell (p := ⟨g8, 0, none⟩) hg8').trans k0
  have m8 : w9.cell? ⟨g8, 8, none⟩ = some (.int .u8 1) := (hb9.cell (p := ⟨g8, 8, none⟩) hg8').trans k8
  have m9 : w9.cell? ⟨g8, 9, none⟩ = some (.int .u8 2) := (hb9.cell (p := ⟨g8, 9, none⟩) hg8').trans k9
  have m11 : w9.cell? ⟨g8, 11, none⟩ = some (.int .u8 97) := (hb9.cell (p := ⟨g8, 11, none⟩) hg8').trans k11
  obtain ⟨xs, hel, A9, c9, rfl, -, -, -, hbl⟩ := hll9
  obtain ⟨b9, o9, rfl, -, -, hc9⟩ := hbl (by simp)
  obtain ⟨Aa, na, ca, ha1, ha2⟩ := hel.2 0 AB rfl
  obtain ⟨Az, nz, cz, hz1, hz2⟩ := hel.2 1 Z502 rfl
  have l0 : w9.cell? ⟨b9, o9, none⟩ = some (.slice Aa na ca) := hc9 0 _ ha1
  have l1 : w9.cell? ⟨b9, o9 + 1, none⟩ = some (.slice Az nz cz) := hc9 1 _ hz1
  have hstr : (convert 39 9 (.slice Aa na ca)).run Try.prog w9 = .ok (.string ⟨AB.toArray⟩) w9 := run_str (P := Try.prog) 39 5 9 Try.underlying39 Try.underlying5 Try.underlying9 ha2.rd
  have hnz : nz = 502 := by
    obtain ⟨A', c', he, -⟩ := hz2
    cases he
    exact z502_length
  subst hnz
  have cl9 := plast_any hrg9
  rw [show aR2.last = 3 from rfl, show ((3 : Nat) : Int) = 3 from rfl] at cl9
  have HB8 := Lib.hid hb8
  have HB9 := Lib.hid hb9
  have HB7 := Lib.hid hb7
  clear k0 k8 k9 k11 hc9 ha1 hz1 ha2 hz2 hel hbl hrg9 hb8 hb9 hb7
  go_wp2_with fail
  refine cl9.mono ?_
  rintro e w10 ⟨rfl, rfl⟩
  go_wp2_with fail
  go_ret
  have l7 := HB6.out.trans (Joins.below_le HB7.out HB6.out.size)
  have l8 := l7.trans (Joins.below_le HB8.out l7.size)
  exact ⟨rfl, l8.trans (Joins.below_le HB9.out l8.size)⟩
end Go.Proofs.Ytlokehekkllbeaa
namespace Go.Proofs.Ytlokehekkllbeaa
open Go.RowKit

/-- a slice that reads as lists of bytes, wherever they lie -/
def LL (w : World) (v : Value) (Ls : List (List UInt8)) : Prop := LLN w (fun _ => True) (fun _ => True) v Ls
theorem LLN.ll {w : World} {M N : Nat → Prop} {v : Value} {Ls : List (List UInt8)} (h : LLN w M N v Ls) : LL w v Ls := h.kept (fun _ _ _ => trivial) (fun _ _ _ => trivial) (Nat.le_refl _) (fun _ _ _ => rfl)
theorem LL.at {w : World} {A : Option Addr} {n c : Nat} {Ls : List (List UInt8)} (h : LL w (.slice A n c) Ls) {i : Nat} {l : List UInt8} (hi : Ls[i]? = some l) : ∃ b o A' n' c', A = some ⟨b, o, none⟩ ∧ w.cell? ⟨b, o + i, none⟩ = some (.slice A' n' c') ∧ Rd w w.heap.size (.slice A' n' c') l := by
  obtain ⟨xs, he, A0, c0, hv, -, -, -, h5⟩ := h
  injection hv with e1 _ _
  subst e1
  obtain ⟨b, o, hA, -, -, hc⟩ := h5 (fun e => by rw [e] at hi; simp at hi)
  obtain ⟨A', n', c', h1, h2⟩ := he.2 i l hi
  exact ⟨b, o, A', n', c', hA, hc i _ h1, h2.rd⟩
theorem LL.len {w : World} {A : Option Addr} {n c : Nat} {Ls : List (List UInt8)} (h : LL w (.slice A n c) Ls) : n = Ls.length ∧ n ≤ c := by
  obtain ⟨xs, he, A0, c0, hv, h2, -⟩ := h
  injection hv with _ e1 e2
  exact ⟨e1, by omega⟩
theorem LL.slice {w : World} {v : Value} {Ls : List (List UInt8)} (h : LL w v Ls) : ∃ A c, v = .slice A Ls.length c := by
  obtain ⟨xs, he, A0, c0, hv, -⟩ := h
  exact ⟨A0, c0, hv⟩
theorem LL.drew {w : World} {v : Value} {Ls : List (List UInt8)} (h : LL w v Ls) (n : Nat) : LL (w.drewN n) v Ls := h.kept (fun _ _ _ => trivial) (fun _ _ _ => trivial) (Nat.le_refl _) (fun _ _ _ => rfl)

set_option maxHeartbeats 1000000 in
theorem same_any (La Lb : List (List UInt8)) (v x : Value) (w : World) (hv : LL w v La) (hx : LL w x Lb) (ha : La.length ≤ 9223372036854775807) (hb : Lb.length ≤ 9223372036854775807) :
    Calls Try.prog 16 #[v, x] w fun e w' => e = .returned (.bool (decide (La = Lb))) ∧ ∃ n, w' = w.drewN n := by
  obtain ⟨A, c, rfl⟩ := hv.slice
  obtain ⟨A2, c2, rfl⟩ := hx.slice
  have HV := Lib.hid hv
  have HX := Lib.hid hx
  clear hv hx
  by_cases hlen : La.length = Lb.length
  · have hne : ((La.length : Int) != (Lb.length : Int)) = false := by rw [hlen]; simp
    go_enter Try.func16, Try.ntmps16
    go_wp2_with fail
    go_loopw [5] (fun i wr => ∃ k : Nat, i = .int .i64 k ∧ k ≤ La.length ∧ Hid (La.take k = Lb.take k) ∧ ∃ n, wr = w.drewN n) (fun i _ => La.length - (intOf i).toNat)
    case atStart => exact ⟨0, rfl, by omega, Lib.hid rfl, 0, rfl⟩
    case round =>
      obtain ⟨k, rfl, hk, he, n, hw⟩ := hrel
      have hvr : LL wr (.slice A La.length c) La := by rw [hw]; exact HV.out.drew n
      have hxr : LL wr (.slice A2 Lb.length c2) Lb := by rw [hw]; exact HX.out.drew n
      have HW := Lib.hid hw
      clear hw
      by_cases hlt : k < La.length
      · have hll : k < Lb.length := by omega
        obtain ⟨b1, o1, A1', n1, c1', rfl, hc1, hr1⟩ := hvr.at (List.getElem?_eq_getElem hlt)
        obtain ⟨b2, o2, A2', n2, c2', rfl, hc2, hr2⟩ := hxr.at (List.getElem?_eq_getElem hll)
        have j1 : (k : Int) < (La.length : Int) := by omega
        have j2 : (k : Int) < (Lb.length : Int) := by omega
        have j0 : (0 : Int) ≤ (k : Int) := by omega
        have s1 : (convert 39 9 (.slice A1' n1 c1')).run Try.prog wr.drew = .ok (.string ⟨La[k].toArray⟩) wr.drew := run_str (P := Try.prog) 39 5 9 Try.underlying39 Try.underlying5 Try.underlying9 (hr1.keep (Nat.le_refl _) (fun _ _ => rfl))
        have s2 : (convert 39 9 (.slice A2' n2 c2')).run Try.prog wr.drew = .ok (.string ⟨Lb[k].toArray⟩) wr.drew := run_str (P := Try.prog) 39 5 9 Try.underlying39 Try.underlying5 Try.underlying9 (hr2.keep (Nat.le_refl _) (fun _ _ => rfl))
        have d1 : wr.drew.cell? ⟨b1, o1 + k, none⟩ = some (.slice A1' n1 c1') := hc1
        have d2 : wr.drew.cell? ⟨b2, o2 + k, none⟩ = some (.slice A2' n2 c2') := hc2
        obtain ⟨x1, hx1⟩ : ∃ x1, x1 = La[k] := ⟨_, rfl⟩
        obtain ⟨x2, hx2⟩ : ∃ x2, x2 = Lb[k] := ⟨_, rfl⟩
        rw [← hx1] at s1
        rw [← hx2] at s2
        have HX1 := Lib.hid hx1
        have HX2 := Lib.hid hx2
        clear hx1 hx2 hvr hxr hr1 hr2
        go_wp2_with fail
        go_region
        by_cases hxy : x1 = x2
        · have hb : (!(x1 == x2)) = false := by rw [hxy]; simp
          have hnx : Hid (La.take (k + 1) = Lb.take (k + 1)) := by
            have h0 := he.out
            unfold Hid
            rw [← List.take_append_getElem (h := hlt), ← List.take_append_getElem (h := hll), h0, ← HX1.out, ← HX2.out, hxy]
          have hnw : ∃ n, wr.drew = w.drewN n := ⟨n + 1, by rw [HW.out]; rfl⟩
          rw [hb]
          clear hc1 hc2 d1 d2 s1 s2 hxy hb he
          go_wp2_with fail
          exact ⟨⟨k + 1, by go_num, hlt, hnx, hnw⟩, by simp [intOf]; omega⟩
        · have hb : (!(x1 == x2)) = true := by simpa using hxy
          have hno : La ≠ Lb := by
            intro e
            apply hxy
            rw [HX1.out, HX2.out]
            subst e
            rfl
          have hnw : ∃ n, wr.drew = w.drewN n := ⟨n + 1, by rw [HW.out]; rfl⟩
          have HNO := Lib.hid hno
          rw [hb]
          clear hc1 hc2 d1 d2 s1 s2 hxy hb he hno
          go_wp2_with fail
          go_ret
          rw [decide_eq_false HNO.out]
          exact ⟨rfl, hnw⟩
      · have hkl : k = La.length := by omega
        have hyes : La = Lb := by
          have h0 := he.out
          rw [hkl, List.take_length] at h0
          rw [h0, hlen, List.take_length]
        have j1 : ¬ (k : Int) < (La.length : Int) := by omega
        have HYES := Lib.hid hyes
        have hnw : ∃ n, wr = w.drewN n := ⟨n, HW.out⟩
        clear he hyes hvr hxr hkl
        go_wp2_with fail
        go_ret
        rw [decide_eq_true HYES.out]
        exact ⟨rfl, hnw⟩
  · have hne : ((La.length : Int) != (Lb.length : Int)) = true := by simp; omega
    have hno : La ≠ Lb := fun e => hlen (by rw [e])
    go_enter Try.func16, Try.ntmps16
    go_wp2_with fail
    go_ret
    rw [decide_eq_false hno]
    exact ⟨rfl, 0, rfl⟩
end Go.Proofs.Ytlokehekkllbeaa
