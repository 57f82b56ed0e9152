/-
  RPlain: THE PLAIN RING OF LAYER 4: pieces as bytes, what a row of sectors tells, what is appended to it; what a crash may take. No program in sight. No condition.
  RDisk: THE PLAIN RING ON THE PLAIN DISK: a ring's sectors of a disk; what is written, flushed, crashed; what lasts behind. No program in sight. No condition.
  RCalls: THE PLAIN RING'S CALLS: what Open tells, what Append writes; how a walk collects records, piece by piece; a number read byte by byte. No program in sight. No condition.
-/
import Derived.Test.YtlokehekkllbeaaDA
namespace Go.Proofs.Ytlokehekkllbeaa

/-- a piece -/
structure Pc where
  n : Nat
  last : Bool
  data : List UInt8

/-- a number, the lowest byte first -/
def low : Nat → Nat → List UInt8
  | 0, _ => []
  | k + 1, n => UInt8.ofNat n :: low k (n / 256)
theorem low_length (k : Nat) : ∀ n, (low k n).length = k := by
  induction k with
  | zero => intro n; rfl
  | succ k ih => intro n; rw [low, List.length_cons, ih]
/-- the number of bytes, the lowest first -/
def val : List UInt8 → Nat
  | [] => 0
  | x :: l => x.toNat + 256 * val l
theorem val_low (k : Nat) : ∀ n, n < 256 ^ k → val (low k n) = n := by
  induction k with
  | zero => intro n h; rw [Nat.pow_zero] at h; rw [low, val]; omega
  | succ k ih =>
    intro n h
    rw [Nat.pow_succ] at h
    rw [low, val, ih _ (by omega), UInt8.toNat_ofNat']
    omega

def Pc.fine (p : Pc) : Prop := 1 ≤ p.n ∧ p.n ≤ 4611686018427387904 ∧ p.data.length ≤ 501 ∧ (p.last = false → p.data.length = 501)
/-- a piece's sector -/
def Pc.sec (p : Pc) : List UInt8 := low 8 p.n ++ ((if p.last then 1 else 0) :: UInt8.ofNat p.data.length :: UInt8.ofNat (p.data.length / 256) :: (p.data ++ List.replicate (501 - p.data.length) 0))
/-- how many bytes a sector says that it has -/
def lenOf (b : List UInt8) : Nat := (b.getD 9 0).toNat + 256 * (b.getD 10 0).toNat
/-- the piece of a sector -/
def pcOf (b : List UInt8) (place count : Nat) : Option Pc :=
  if val (b.take 8) < 1 ∨ 4611686018427387904 < val (b.take 8) ∨ val (b.take 8) % count ≠ place ∨ 1 < b.getD 8 0 ∨ 501 < lenOf b ∨ (b.getD 8 0 = 0 ∧ lenOf b ≠ 501) then none
  else if (b.drop (11 + lenOf b)).all (· == 0) then some ⟨val (b.take 8), b.getD 8 0 == 1, (b.drop 11).take (lenOf b)⟩
  else none

theorem Pc.sec_length (p : Pc) (h : p.data.length ≤ 501) : p.sec.length = 512 := by
  unfold Pc.sec
  rw [List.length_append, low_length, List.length_cons, List.length_cons, List.length_cons, List.length_append, List.length_replicate]
  omega

theorem pcOf_sec {p : Pc} (h : p.fine) (count : Nat) : pcOf p.sec (p.n % count) count = some p := by
  obtain ⟨h1, h2, h3, h4⟩ := h
  have hl : (low 8 p.n).length = 8 := low_length 8 _
  have e0 : p.sec.take 8 = low 8 p.n := by unfold Pc.sec; rw [List.take_append_of_le_length (by omega), List.take_of_length_le (by omega)]
  have ev : val (p.sec.take 8) = p.n := by rw [e0, val_low _ _ (by omega)]
  have g8 : p.sec.getD 8 0 = if p.last then 1 else 0 := by unfold Pc.sec; rw [List.getD_eq_getElem?_getD, List.getElem?_append_right (by omega), hl]; rfl
  have g9 : p.sec.getD 9 0 = UInt8.ofNat p.data.length := by unfold Pc.sec; rw [List.getD_eq_getElem?_getD, List.getElem?_append_right (by omega), hl]; rfl
  have g10 : p.sec.getD 10 0 = UInt8.ofNat (p.data.length / 256) := by unfold Pc.sec; rw [List.getD_eq_getElem?_getD, List.getElem?_append_right (by omega), hl]; rfl
  have el : lenOf p.sec = p.data.length := by unfold lenOf; rw [g9, g10, UInt8.toNat_ofNat', UInt8.toNat_ofNat']; omega
  have d11 : p.sec.drop 11 = p.data ++ List.replicate (501 - p.data.length) 0 := by
    unfold Pc.sec
    rw [List.drop_append, hl, List.drop_eq_nil_of_le (by omega)]
    rfl
  have dl : p.sec.drop (11 + p.data.length) = List.replicate (501 - p.data.length) 0 := by rw [← List.drop_drop, d11, List.drop_left]
  unfold pcOf
  rw [ev, el, g8, d11, dl, List.take_left]
  rw [if_neg, if_pos]
  · obtain ⟨n, b, d⟩ := p
    cases b <;> rfl
  · rw [List.all_eq_true]
    intro x hx
    rw [(List.mem_replicate.1 hx).2]
    rfl
  · rintro (h | h | h | h | h | ⟨h, k⟩)
    · omega
    · omega
    · exact h rfl
    · cases hb : p.last <;> rw [hb] at h <;> exact absurd h (by decide)
    · omega
    · cases hb : p.last
      · exact k (h4 hb)
      · rw [hb] at h; exact absurd h (by decide)
theorem pcOf_fine {b : List UInt8} {place count : Nat} {p : Pc} (h : pcOf b place count = some p) : 1 ≤ p.n ∧ p.n ≤ 4611686018427387904 ∧ p.n % count = place ∧ p.data.length ≤ 501 := by
  unfold pcOf at h
  split at h
  · exact absurd h (by simp)
  · rename_i hc
    split at h
    · obtain rfl := Option.some.inj h
      refine ⟨by show 1 ≤ val _; omega, by show val _ ≤ _; omega, ?_, ?_⟩
      · exact Decidable.byContradiction fun hh => hc (Or.inr (Or.inr (Or.inl hh)))
      · show ((b.drop 11).take (lenOf b)).length ≤ 501
        rw [List.length_take]
        omega
    · exact absurd h (by simp)

/-- the piece of that number, if it is there -/
def pcAt (S : List (List UInt8)) (n : Nat) : Option Pc := (pcOf (S.getD (n % S.length) []) (n % S.length) S.length).filter fun p => p.n == n
/-- the pieces from that number on, so many at most -/
def run (S : List (List UInt8)) : Nat → Nat → List Pc
  | 0, _ => []
  | k + 1, n => match pcAt S n with
    | none => []
    | some p => p :: run S k (n + 1)
/-- the records that are whole -/
def whole : List UInt8 → List Pc → List (List UInt8)
  | _, [] => []
  | now, p :: ps => if p.last then (now ++ p.data) :: whole [] ps else whole (now ++ p.data) ps
/-- up to the last piece that is the last of its record -/
def lastIn : Nat → List Pc → Nat
  | m, [] => m
  | m, p :: ps => lastIn (if p.last then p.n else m) ps
/-- the greatest number -/
def topIn (S : List (List UInt8)) (base : Nat) : Nat := (List.range S.length).foldl (fun t i => match pcOf (S.getD i []) i S.length with
    | none => t
    | some p => max t p.n) base

theorem whole_take (ps : List Pc) : ∀ (now : List UInt8) (j : Nat), whole now (ps.take j) <+: whole now ps := by
  induction ps with
  | nil => intro now j; rw [List.take_nil]; exact List.prefix_refl _
  | cons p ps ih =>
    intro now j
    cases j with
    | zero => rw [List.take_zero]; exact List.nil_prefix
    | succ j =>
      rw [List.take_succ_cons, whole, whole]
      split
      · exact List.cons_prefix_cons.2 ⟨rfl, ih _ _⟩
      · exact ih _ _
theorem whole_mono (ps : List Pc) (now : List UInt8) {i j : Nat} (h : i ≤ j) : whole now (ps.take i) <+: whole now (ps.take j) := by
  have := whole_take (ps.take j) now i
  rwa [List.take_take, Nat.min_eq_left h] at this
/-- the row ends with a record's end -/
def Ended (ps : List Pc) : Prop := ∀ p, ps.getLast? = some p → p.last = true
theorem whole_app (ps : List Pc) : ∀ (now : List UInt8) (qs : List Pc), (ps = [] → now = []) → Ended ps → whole now (ps ++ qs) = whole now ps ++ whole [] qs := by
  induction ps with
  | nil => intro now qs h _; rw [h rfl]; rfl
  | cons p ps ih =>
    intro now qs _ he
    rw [List.cons_append, whole, whole]
    have he' : ps ≠ [] → Ended ps := fun hn q hq => he q (by rw [List.getLast?_cons]; rw [hq]; rfl)
    cases hp : p.last with
    | true =>
      rw [if_pos rfl, if_pos rfl, List.cons_append]
      by_cases hn : ps = []
      · subst hn; rfl
      · rw [ih [] qs (fun _ => rfl) (he' hn)]
    | false =>
      rw [if_neg Bool.false_ne_true, if_neg Bool.false_ne_true]
      by_cases hn : ps = []
      · subst hn; have := he p rfl; rw [hp] at this; exact absurd this Bool.false_ne_true
      · exact ih _ qs (fun h => absurd h hn) (he' hn)

/-- a record's pieces, the first with the number n -/
def cut (n : Nat) (r : List UInt8) : List Pc :=
  if h : r.length ≤ 501 then [⟨n, true, r⟩] else ⟨n, false, r.take 501⟩ :: cut (n + 1) (r.drop 501)
termination_by r.length
decreasing_by rw [List.length_drop]; omega
/-- how many -/
def pieces (n : Nat) : Nat := if 0 < n ∧ n % 501 = 0 then n / 501 else n / 501 + 1
theorem cut_length (n : Nat) (r : List UInt8) : (cut n r).length = pieces r.length := by
  fun_induction cut n r with
  | case1 n r h => unfold pieces; rw [List.length_singleton]; split <;> omega
  | case2 n r h ih => rw [List.length_cons, ih, List.length_drop]; unfold pieces; split <;> split <;> omega
theorem cut_num (n : Nat) (r : List UInt8) : ∀ i p, (cut n r)[i]? = some p → p.n = n + i ∧ p.data.length ≤ 501 ∧ (p.last = false → p.data.length = 501) := by
  fun_induction cut n r with
  | case1 n r h =>
    intro i p hp
    cases i with
    | zero => obtain rfl := Option.some.inj hp; exact ⟨rfl, h, fun hh => nomatch hh⟩
    | succ i => exact absurd hp (by simp)
  | case2 n r h ih =>
    intro i p hp
    cases i with
    | zero => obtain rfl := Option.some.inj hp; exact ⟨rfl, by show (r.take 501).length ≤ 501; rw [List.length_take]; omega, fun _ => by show (r.take 501).length = 501; rw [List.length_take]; omega⟩
    | succ i => have := ih i p hp; exact ⟨by omega, this.2⟩
theorem cut_ne (n : Nat) (r : List UInt8) : cut n r ≠ [] := by unfold cut; split <;> exact List.cons_ne_nil _ _
theorem cut_ended (n : Nat) (r : List UInt8) : Ended (cut n r) := by
  fun_induction cut n r with
  | case1 n r h => intro p hp; obtain rfl := Option.some.inj hp; rfl
  | case2 n r h ih =>
    intro p hp
    rw [List.getLast?_cons] at hp
    refine ih p ?_
    rcases hg : (cut (n + 1) (r.drop 501)).getLast? with _ | q
    · exact absurd (List.getLast?_eq_none_iff.1 hg) (cut_ne _ _)
    · rw [hg] at hp; exact hp
theorem whole_cut (n : Nat) (r : List UInt8) : ∀ now, whole now (cut n r) = [now ++ r] := by
  fun_induction cut n r with
  | case1 n r h => intro now; rfl
  | case2 n r h ih =>
    intro now
    rw [whole, if_neg Bool.false_ne_true, ih, List.append_assoc, List.take_append_drop]

theorem run_length (S : List (List UInt8)) (k : Nat) : ∀ n, (run S k n).length ≤ k := by
  induction k with
  | zero => intro n; exact Nat.le_refl _
  | succ k ih =>
    intro n
    rw [run]
    split
    · exact Nat.zero_le _
    · rw [List.length_cons]; have := ih (n + 1); omega
theorem run_get (S : List (List UInt8)) (k : Nat) : ∀ n i p, (run S k n)[i]? = some p → pcAt S (n + i) = some p := by
  induction k with
  | zero => intro n i p h; exact absurd h (by simp [run])
  | succ k ih =>
    intro n i p h
    rw [run] at h
    split at h
    · exact absurd h (by simp)
    · rename_i q hq
      cases i with
      | zero => exact hq.trans h
      | succ i => rw [show n + (i + 1) = n + 1 + i by omega]; exact ih _ _ _ h
/-- what is read of a row of which each piece is there or is missing, is a beginning of it; and all that is surely there -/
theorem run_of (S : List (List UInt8)) (k : Nat) : ∀ (n : Nat) (ps : List Pc) (s : Nat), ps.length ≤ k → (∀ i p, ps[i]? = some p → pcAt S (n + i) = some p ∨ (s ≤ i ∧ pcAt S (n + i) = none)) →
    (ps.length < k → pcAt S (n + ps.length) = none) → ∃ j, min s ps.length ≤ j ∧ run S k n = ps.take j := by
  induction k with
  | zero => intro n ps s hl _ _; refine ⟨s, Nat.min_le_left _ _, ?_⟩; rw [List.length_eq_zero_iff.1 (Nat.le_zero.1 hl), List.take_nil]; rfl
  | succ k ih =>
    intro n ps s hl hp he
    rw [run]
    cases ps with
    | nil => have := he (Nat.zero_lt_succ _); rw [List.length_nil, Nat.add_zero] at this; rw [this]; exact ⟨s, Nat.min_le_left _ _, by rw [List.take_nil]⟩
    | cons p ps =>
      rw [List.length_cons] at hl he
      rcases hp 0 p rfl with h | ⟨hs, h⟩
      · rw [Nat.add_zero] at h
        rw [h]
        obtain ⟨j, hj, hr⟩ := ih (n + 1) ps (s - 1) (by omega) (fun i q hq => by
          rcases hp (i + 1) q hq with h | ⟨hs, h⟩
          · left; rw [show n + 1 + i = n + (i + 1) by omega]; exact h
          · right; exact ⟨by omega, by rw [show n + 1 + i = n + (i + 1) by omega]; exact h⟩) (fun hh => by rw [show n + 1 + ps.length = n + (ps.length + 1) by omega]; exact he (by omega))
        refine ⟨j + 1, by rw [List.length_cons]; omega, ?_⟩
        rw [List.take_succ_cons, ← hr]
      · rw [Nat.add_zero] at h
        rw [h]
        exact ⟨0, by omega, rfl⟩

theorem pcAt_num {S : List (List UInt8)} {n : Nat} {p : Pc} (h : pcAt S n = some p) : p.n = n := by
  unfold pcAt at h
  have := Option.filter_eq_some_iff.1 h
  exact eq_of_beq this.2
theorem pcAt_of {S : List (List UInt8)} {n : Nat} {p : Pc} (h : pcAt S n = some p) : pcOf (S.getD (n % S.length) []) (n % S.length) S.length = some p := by
  unfold pcAt at h
  exact (Option.filter_eq_some_iff.1 h).1
theorem pcAt_none {S : List (List UInt8)} {n t : Nat} (hc : 0 < S.length) (h : ∀ i p, i < S.length → pcOf (S.getD i []) i S.length = some p → p.n ≤ t) (ht : t < n) : pcAt S n = none := by
  rcases hq : pcAt S n with _ | p
  · rfl
  · have h1 := pcAt_num hq
    have := h _ _ (Nat.mod_lt _ hc) (pcAt_of hq)
    omega
/-- places of a window are apart -/
theorem mod_apart {c n m : Nat} (h : n < m) (hm : m < n + c) : n % c ≠ m % c := by
  intro he
  have h0 : (m - n) % c = 0 := Nat.sub_mod_eq_zero_of_mod_eq he.symm
  rw [Nat.mod_eq_of_lt (by omega)] at h0
  omega

/-- a piece is put -/
def put (S : List (List UInt8)) (p : Pc) : List (List UInt8) := S.set (p.n % S.length) p.sec
theorem put_length (S : List (List UInt8)) (p : Pc) : (put S p).length = S.length := List.length_set
theorem put_getD (S : List (List UInt8)) (p : Pc) (hc : 0 < S.length) (i : Nat) : (put S p).getD i [] = if i = p.n % S.length then p.sec else S.getD i [] := by
  unfold put
  rw [List.getD_eq_getElem?_getD, List.getElem?_set]
  have := Nat.mod_lt p.n hc
  by_cases h : p.n % S.length = i
  · subst h; rw [if_pos rfl, if_pos this, if_pos rfl]; rfl
  · rw [if_neg h, if_neg (Ne.symm h), List.getD_eq_getElem?_getD]
theorem pcAt_put {S : List (List UInt8)} {p : Pc} (hc : 0 < S.length) (hp : p.fine) (n : Nat) : pcAt (put S p) n = if n % S.length = p.n % S.length then (if p.n = n then some p else none) else pcAt S n := by
  unfold pcAt
  rw [put_length, put_getD _ _ hc]
  by_cases h : n % S.length = p.n % S.length
  · rw [if_pos h, if_pos h, h, pcOf_sec hp]
    by_cases hn : p.n = n
    · rw [if_pos hn]; exact Option.filter_eq_some_iff.2 ⟨rfl, beq_iff_eq.2 hn⟩
    · rw [if_neg hn]; exact Option.filter_eq_none_iff.2 fun q hq => by obtain rfl := Option.some.inj hq; exact fun hh => hn (eq_of_beq hh)
  · rw [if_neg h, if_neg h]

/-- of the row ps of pieces behind the base each stands in its sector, but those behind the first s may be missing; nothing is greater -/
structure Half (S : List (List UInt8)) (base : Nat) (ps : List Pc) (s : Nat) : Prop where
  pos : 0 < S.length
  len : ps.length ≤ S.length
  sure : s ≤ ps.length
  there : ∀ i p, ps[i]? = some p → pcAt S (base + 1 + i) = some p ∨ (s ≤ i ∧ pcAt S (base + 1 + i) = none)
  top : ∀ i p, i < S.length → pcOf (S.getD i []) i S.length = some p → p.n ≤ base + ps.length

theorem Half.run {S : List (List UInt8)} {base : Nat} {ps : List Pc} {s : Nat} (h : Half S base ps s) : ∃ j, s ≤ j ∧ run S S.length (base + 1) = ps.take j := by
  obtain ⟨j, hj, hr⟩ := run_of S S.length (base + 1) ps s h.len h.there fun _ => pcAt_none h.pos h.top (by omega)
  exact ⟨j, by have := h.sure; omega, hr⟩
theorem Half.run_all {S : List (List UInt8)} {base : Nat} {ps : List Pc} (h : Half S base ps ps.length) : Go.Proofs.Ytlokehekkllbeaa.run S S.length (base + 1) = ps := by
  obtain ⟨j, hj, hr⟩ := h.run
  rw [hr, List.take_of_length_le hj]
theorem Half.put {S : List (List UInt8)} {base : Nat} {ps : List Pc} {s : Nat} (h : Half S base ps s) {p : Pc} (hp : p.fine) (hn : p.n = base + 1 + ps.length) (hr : ps.length < S.length) : Half (put S p) base (ps ++ [p]) s where
  pos := by rw [put_length]; exact h.pos
  len := by rw [put_length, List.length_append, List.length_singleton]; omega
  sure := by rw [List.length_append]; have := h.sure; omega
  there := by
    intro i q hq
    have hi : i < (ps ++ [p]).length := (List.getElem?_eq_some_iff.1 hq).1
    rw [List.length_append, List.length_singleton] at hi
    rw [pcAt_put h.pos hp]
    rcases Nat.lt_or_ge i ps.length with h1 | h1
    · rw [List.getElem?_append_left h1] at hq
      rw [if_neg (by rw [hn]; exact mod_apart (by omega) (by omega))]
      exact h.there i q hq
    · rw [show i = ps.length by omega, List.getElem?_concat_length] at hq
      obtain rfl := Option.some.inj hq
      rw [show i = ps.length by omega, hn, if_pos rfl, if_pos rfl]
      exact Or.inl rfl
  top := by
    intro i q hi hq
    rw [put_length] at hi hq
    rw [put_getD _ _ h.pos] at hq
    rw [List.length_append, List.length_singleton]
    split at hq
    · rename_i he
      subst he
      rw [pcOf_sec hp] at hq
      obtain rfl := Option.some.inj hq
      omega
    · have := h.top i q hi hq
      omega
theorem Half.skip {S : List (List UInt8)} {base : Nat} {ps : List Pc} {s : Nat} (h : Half S base ps s) (p : Pc) (hr : ps.length < S.length) : Half S base (ps ++ [p]) s where
  pos := h.pos
  len := by rw [List.length_append, List.length_singleton]; omega
  sure := by rw [List.length_append]; have := h.sure; omega
  there := by
    intro i q hq
    rcases Nat.lt_or_ge i ps.length with h1 | h1
    · rw [List.getElem?_append_left h1] at hq
      exact h.there i q hq
    · have := h.sure
      exact Or.inr ⟨by omega, pcAt_none h.pos h.top (by omega)⟩
  top := fun i q hi hq => by rw [List.length_append]; have := h.top i q hi hq; omega
/-- a flush: what is there is sure -/
theorem Half.less {S : List (List UInt8)} {base : Nat} {ps : List Pc} {s : Nat} (h : Half S base ps ps.length) (hs : s ≤ ps.length) : Half S base ps s where
  pos := h.pos
  len := h.len
  sure := hs
  there := fun i p hp => by
    rcases h.there i p hp with k | ⟨k, _⟩
    · exact Or.inl k
    · have := (List.getElem?_eq_some_iff.1 hp).1; omega
  top := h.top

/-- a part of what is written is kept -/
theorem Half.kept {base s : Nat} (W : List Pc) : ∀ (S : List (List UInt8)) (ps : List Pc) (keep : List Bool), Half S base ps s → (∀ i p, W[i]? = some p → p.fine ∧ p.n = base + 1 + ps.length + i) → ps.length + W.length ≤ S.length →
    Half ((((W.zip keep).filter (·.2)).map (·.1)).foldl Go.Proofs.Ytlokehekkllbeaa.put S) base (ps ++ W) s := by
  induction W with
  | nil => intro S ps keep h _ _; rw [List.append_nil, List.zip_nil_left]; exact h
  | cons p W ih =>
    intro S ps keep h hW hl
    rw [List.length_cons] at hl
    have h0 := hW 0 p rfl
    have hW' : ∀ i q, W[i]? = some q → q.fine ∧ q.n = base + 1 + (ps ++ [p]).length + i := fun i q hq => by
      have := hW (i + 1) q hq
      rw [List.length_append, List.length_singleton]
      exact ⟨this.1, by omega⟩
    have hl' : ∀ T : List (List UInt8), T.length = S.length → (ps ++ [p]).length + W.length ≤ T.length := fun T hT => by rw [List.length_append, List.length_singleton, hT]; omega
    rw [show ps ++ p :: W = (ps ++ [p]) ++ W by rw [List.append_assoc]; rfl]
    cases keep with
    | nil =>
      have := ih S (ps ++ [p]) [] (h.skip p (by omega)) hW' (hl' S rfl)
      rw [List.zip_nil_right] at this ⊢
      exact this
    | cons b keep =>
      rw [List.zip_cons_cons]
      cases b with
      | false => exact ih S (ps ++ [p]) keep (h.skip p (by omega)) hW' (hl' S rfl)
      | true => exact ih (Go.Proofs.Ytlokehekkllbeaa.put S p) (ps ++ [p]) keep (h.put h0.1 (by omega) (by omega)) hW' (hl' _ (put_length _ _))

/-- the greatest number is not below any -/
theorem topIn_ge (S : List (List UInt8)) (base : Nat) : base ≤ topIn S base ∧ ∀ i p, i < S.length → pcOf (S.getD i []) i S.length = some p → p.n ≤ topIn S base := by
  have key : ∀ (l : List Nat) (t : Nat), t ≤ l.foldl (fun t i => match pcOf (S.getD i []) i S.length with | none => t | some p => max t p.n) t ∧
      ∀ i p, i ∈ l → pcOf (S.getD i []) i S.length = some p → p.n ≤ l.foldl (fun t i => match pcOf (S.getD i []) i S.length with | none => t | some p => max t p.n) t := by
    intro l
    induction l with
    | nil => intro t; exact ⟨Nat.le_refl _, fun i p h => absurd h List.not_mem_nil⟩
    | cons a l ih =>
      intro t
      rw [List.foldl_cons]
      refine ⟨Nat.le_trans ?_ (ih _).1, fun i p hi hp => ?_⟩
      · split
        · exact Nat.le_refl _
        · exact Nat.le_max_left _ _
      · rcases List.mem_cons.1 hi with rfl | hi
        · refine Nat.le_trans ?_ (ih _).1
          rw [hp]
          exact Nat.le_max_right _ _
        · exact (ih _).2 i p hi hp
  exact ⟨(key _ _).1, fun i p hi hp => (key _ _).2 i p (List.mem_range.2 hi) hp⟩
/-- behind Open: nothing is in a ring behind its greatest number -/
theorem empty_half (S : List (List UInt8)) (base : Nat) (hc : 0 < S.length) : Half S (topIn S base) [] 0 where
  pos := hc
  len := Nat.zero_le _
  sure := Nat.le_refl _
  there := fun i p h => absurd h (by simp)
  top := fun i p hi hp => (topIn_ge S base).2 i p hi hp
theorem lastIn_row (ps : List Pc) : ∀ (m base : Nat), (∀ i p, ps[i]? = some p → p.n = base + 1 + i) → m ≤ base → lastIn m ps ≤ base + ps.length ∧ (m ≤ lastIn m ps) ∧ (base + ps.length ≤ lastIn m ps → Ended ps) := by
  induction ps with
  | nil => intro m base _ hm; exact ⟨hm, Nat.le_refl _, fun _ p hp => absurd hp (by simp)⟩
  | cons p ps ih =>
    intro m base h hm
    have h0 := h 0 p rfl
    have h' : ∀ i q, ps[i]? = some q → q.n = base + 1 + 1 + i := fun i q hq => by have := h (i + 1) q hq; omega
    rw [lastIn, List.length_cons]
    cases hb : p.last with
    | true =>
      rw [if_pos rfl]
      have := ih p.n (base + 1) h' (by omega)
      refine ⟨by omega, by omega, fun hh q hq => ?_⟩
      rw [List.getLast?_cons] at hq
      rcases hg : ps.getLast? with _ | r
      · rw [hg] at hq; obtain rfl := Option.some.inj hq; exact hb
      · rw [hg] at hq; obtain rfl := Option.some.inj hq; exact this.2.2 (by omega) _ hg
    | false =>
      rw [if_neg Bool.false_ne_true]
      have := ih m (base + 1) h' (by omega)
      refine ⟨by omega, by omega, fun hh q hq => ?_⟩
      rw [List.getLast?_cons] at hq
      rcases hg : ps.getLast? with _ | r
      · have he := List.getLast?_eq_none_iff.1 hg
        subst he
        rw [lastIn] at hh
        rw [List.length_nil] at hh
        omega
      · rw [hg] at hq; obtain rfl := Option.some.inj hq; exact this.2.2 (by omega) _ hg
/-- behind Open: a ring that is not torn -/
theorem open_half (S : List (List UInt8)) (base : Nat) (hc : 0 < S.length) (h : topIn S base ≤ lastIn base (run S S.length (base + 1))) :
    Half S base (run S S.length (base + 1)) (run S S.length (base + 1)).length ∧ Ended (run S S.length (base + 1)) ∧ lastIn base (run S S.length (base + 1)) = base + (run S S.length (base + 1)).length ∧ topIn S base = base + (run S S.length (base + 1)).length := by
  have hg := run_get S S.length (base + 1)
  have hn : ∀ i p, (run S S.length (base + 1))[i]? = some p → p.n = base + 1 + i := fun i p hp => pcAt_num (hg i p hp)
  obtain ⟨h1, h2, h3⟩ := lastIn_row _ base base hn (Nat.le_refl _)
  have ht : base + (run S S.length (base + 1)).length ≤ topIn S base := by
    rcases Nat.eq_zero_or_pos (run S S.length (base + 1)).length with h0 | h0
    · rw [h0]; exact (topIn_ge S base).1
    · have hl : (run S S.length (base + 1)).length - 1 < (run S S.length (base + 1)).length := by omega
      have := hg _ _ (List.getElem?_eq_getElem hl)
      have h4 := (topIn_ge S base).2 _ _ (Nat.mod_lt _ hc) (pcAt_of this)
      have h5 := pcAt_num this
      omega
  refine ⟨⟨hc, run_length _ _ _, Nat.le_refl _, fun i p hp => Or.inl (hg i p hp), fun i p hi hp => ?_⟩, h3 (by omega), by omega, by omega⟩
  have := (topIn_ge S base).2 i p hi hp
  omega
end Go.Proofs.Ytlokehekkllbeaa
namespace Go.Proofs.Ytlokehekkllbeaa

/-- a ring's sectors of a disk's -/
def secs (L : List (List UInt8)) (first count : Nat) : List (List UInt8) := (L.drop first).take count
theorem secs_length {L : List (List UInt8)} {first count : Nat} (h : first + count ≤ L.length) : (secs L first count).length = count := by unfold secs; rw [List.length_take, List.length_drop]; omega
theorem secs_get {L : List (List UInt8)} {first count i : Nat} (h : i < count) : (secs L first count).getD i [] = L.getD (first + i) [] := by
  unfold secs
  rw [List.getD_eq_getElem?_getD, List.getD_eq_getElem?_getD, List.getElem?_take, if_pos h, List.getElem?_drop]
theorem secs_set (L : List (List UInt8)) (first count i : Nat) (b : List UInt8) : secs (L.set (first + i) b) first count = (secs L first count).set i b := by
  unfold secs
  apply List.ext_getElem?
  intro k
  rw [List.getElem?_take, List.getElem?_drop, List.getElem?_set, List.getElem?_set, List.getElem?_take, List.getElem?_drop, List.length_take, List.length_drop]
  by_cases hk : k < count
  · rw [if_pos hk]
    by_cases hi : i = k
    · subst hi
      rw [if_pos rfl, if_pos rfl]
      by_cases hl : first + i < L.length
      · rw [if_pos hl, if_pos (by omega)]
      · rw [if_neg hl, if_neg (by omega)]
    · rw [if_neg (by omega), if_neg hi, if_pos hk]
  · rw [if_neg hk]
    by_cases hi : i = k
    · subst hi
      rw [if_pos rfl, if_neg (by omega)]
    · rw [if_neg hi, if_neg hk]
/-- where a piece is written, and what -/
def spot (first count : Nat) (p : Pc) : Nat × List UInt8 := (first + p.n % count, p.sec)
theorem secs_spots {first count : Nat} (W : List Pc) : ∀ L : List (List UInt8), first + count ≤ L.length → secs (setAll L (W.map (spot first count))) first count = W.foldl put (secs L first count) := by
  induction W with
  | nil => intro L _; rfl
  | cons p W ih =>
    intro L h
    rw [List.map_cons, List.foldl_cons]
    show secs (setAll (L.set (first + p.n % count) p.sec) (W.map (spot first count))) first count = _
    rw [ih _ (by rw [List.length_set]; exact h), secs_set]
    congr 1
    unfold put
    rw [secs_length h]
theorem keptOf_map {first count : Nat} (W : List Pc) : ∀ keep : List Bool, keptOf (W.map (spot first count)) keep = (((W.zip keep).filter (·.2)).map (·.1)).map (spot first count) := by
  induction W with
  | nil => intro keep; rfl
  | cons p W ih =>
    intro keep
    cases keep with
    | nil => rfl
    | cons b keep =>
      have := ih keep
      unfold keptOf at this ⊢
      rw [List.map_cons, List.zip_cons_cons, List.zip_cons_cons]
      cases b with
      | false => exact this
      | true => exact congrArg _ this

/-- a ring at work on a disk: its pieces ps behind the base, of which the first s last, and the others wait -/
structure Rung (D : DS) (first count base : Nat) (ps : List Pc) (s : Nat) : Prop where
  live : D.dead = false
  pos : 0 < count
  room : first + count ≤ D.lasts.length
  sure : s ≤ ps.length
  len : ps.length ≤ count
  waits : D.waits = (ps.drop s).map (spot first count)
  nums : ∀ i p, ps[i]? = some p → s ≤ i → p.fine ∧ p.n = base + 1 + i
  half : Half (secs D.lasts first count) base (ps.take s) s

/-- what a ring's disk has behind a crash -/
structure Left (D : DS) (first count base : Nat) (ps : List Pc) (s : Nat) : Prop where
  room : first + count ≤ D.lasts.length
  half : Half (secs D.lasts first count) base ps s

theorem Rung.crash {D : DS} {first count base : Nat} {ps : List Pc} {s : Nat} (h : Rung D first count base ps s) (keep : List Bool) : Left (D.crash keep) first count base ps s := by
  have hl := secs_length h.room
  refine ⟨by show _ ≤ (setAll D.lasts _).length; rw [setAll_length]; exact h.room, ?_⟩
  show Half (secs (setAll D.lasts (keptOf D.waits keep)) first count) base ps s
  rw [h.waits, keptOf_map, secs_spots _ _ h.room]
  have := Half.kept (base := base) (s := s) (ps.drop s) (secs D.lasts first count) (ps.take s) keep h.half (fun i p hp => by
    rw [List.getElem?_drop] at hp
    have := h.nums _ p hp (by omega)
    have hs := h.sure
    rw [List.length_take, Nat.min_eq_left hs]
    exact ⟨this.1, by omega⟩) (by rw [List.length_take, List.length_drop, hl]; have := h.sure; have := h.len; omega)
  rwa [List.take_append_drop] at this
/-- all that waits, kept: what is read -/
theorem Rung.whole {D : DS} {first count base : Nat} {ps : List Pc} {s : Nat} (h : Rung D first count base ps s) : Half (secs (setAll D.lasts D.waits) first count) base ps ps.length := by
  have hl := secs_length h.room
  rw [h.waits, secs_spots _ _ h.room]
  have key : ∀ (W : List Pc) (S : List (List UInt8)) (qs : List Pc), Half S base qs qs.length → (∀ i p, W[i]? = some p → p.fine ∧ p.n = base + 1 + qs.length + i) → qs.length + W.length ≤ S.length →
      Half (W.foldl put S) base (qs ++ W) (qs ++ W).length := by
    intro W
    induction W with
    | nil => intro S qs h _ _; rw [List.append_nil]; exact h
    | cons p W ih =>
      intro S qs h hW hl
      rw [List.length_cons] at hl
      have h0 := hW 0 p rfl
      have h1 := h.put h0.1 (by omega) (by omega)
      have h2 : Half (put S p) base (qs ++ [p]) (qs ++ [p]).length := ⟨h1.pos, h1.len, Nat.le_refl _, fun i q hq => by
        rcases Nat.lt_or_ge i qs.length with hi | hi
        · rcases h1.there i q hq with k | ⟨k, _⟩
          · exact Or.inl k
          · omega
        · have hi' : i < (qs ++ [p]).length := (List.getElem?_eq_some_iff.1 hq).1
          rw [List.length_append, List.length_singleton] at hi'
          rw [show i = qs.length by omega, List.getElem?_concat_length] at hq
          obtain rfl := Option.some.inj hq
          left
          rw [pcAt_put h.pos h0.1, show i = qs.length by omega, show p.n = base + 1 + qs.length by omega, if_pos rfl, if_pos rfl], h1.top⟩
      rw [show qs ++ p :: W = (qs ++ [p]) ++ W by rw [List.append_assoc]; rfl]
      refine ih _ _ h2 (fun i q hq => ?_) (by rw [put_length, List.length_append, List.length_singleton]; omega)
      have := hW (i + 1) q hq
      rw [List.length_append, List.length_singleton]
      exact ⟨this.1, by omega⟩
  have hs := h.sure
  have ht : (ps.take s).length = s := by rw [List.length_take, Nat.min_eq_left hs]
  have := key (ps.drop s) (secs D.lasts first count) (ps.take s) (by rw [ht]; exact h.half) (fun i p hp => by
    rw [List.getElem?_drop] at hp
    have := h.nums _ p hp (by omega)
    rw [ht]
    exact ⟨this.1, by omega⟩) (by rw [ht, List.length_drop, hl]; have := h.len; omega)
  rwa [List.take_append_drop] at this
theorem Rung.wrote {D : DS} {first count base : Nat} {ps : List Pc} {s : Nat} (h : Rung D first count base ps s) {p : Pc} (hp : p.fine) (hn : p.n = base + 1 + ps.length) (hr : ps.length < count) :
    Rung (D.wrote (first + p.n % count) p.sec) first count base (ps ++ [p]) s where
  live := h.live
  pos := h.pos
  room := h.room
  sure := by rw [List.length_append]; have := h.sure; omega
  len := by rw [List.length_append, List.length_singleton]; omega
  waits := by
    show D.waits ++ [(first + p.n % count, p.sec)] = _
    rw [h.waits, List.drop_append_of_le_length h.sure, List.map_append]
    rfl
  nums := by
    intro i q hq hs
    rcases Nat.lt_or_ge i ps.length with h1 | h1
    · rw [List.getElem?_append_left h1] at hq
      exact h.nums i q hq hs
    · have hi : i < (ps ++ [p]).length := (List.getElem?_eq_some_iff.1 hq).1
      rw [List.length_append, List.length_singleton] at hi
      rw [show i = ps.length by omega, List.getElem?_concat_length] at hq
      obtain rfl := Option.some.inj hq
      exact ⟨hp, by omega⟩
  half := by rw [List.take_append_of_le_length h.sure]; exact h.half
theorem Rung.tick {D : DS} {first count base : Nat} {ps : List Pc} {s : Nat} (h : Rung D first count base ps s) : Rung D.tick first count base ps s := ⟨h.live, h.pos, h.room, h.sure, h.len, h.waits, h.nums, h.half⟩
theorem Rung.flushed {D : DS} {first count base : Nat} {ps : List Pc} {s : Nat} (h : Rung D first count base ps s) : Rung D.flushed first count base ps ps.length where
  live := h.live
  pos := h.pos
  room := by show _ ≤ (setAll D.lasts _).length; rw [setAll_length]; exact h.room
  sure := Nat.le_refl _
  len := h.len
  waits := by rw [List.drop_of_length_le (Nat.le_refl _)]; rfl
  nums := fun i p hp hi => by have := (List.getElem?_eq_some_iff.1 hp).1; omega
  half := by rw [List.take_of_length_le (Nat.le_refl _)]; exact h.whole

/-- a piece is written: it waits, or the disk is dead -/
theorem Rung.write {D : DS} {first count base : Nat} {ps : List Pc} {s : Nat} (h : Rung D first count base ps s) {p : Pc} (hp : p.fine) (hn : p.n = base + 1 + ps.length) (hr : ps.length < count) :
    (∃ D', D.write ((first + p.n % count : Nat) : Int) p.sec = (0, D') ∧ Rung D' first count base (ps ++ [p]) s) ∨
    (∃ D', D.write ((first + p.n % count : Nat) : Int) p.sec = (20, D') ∧ D'.dead = true ∧ Left D' first count base (ps ++ [p]) s) := by
  have hm := Nat.mod_lt p.n h.pos
  have hroom := h.room
  have hin : (inside D ((first + p.n % count : Nat) : Int) && decide (p.sec.length = 512)) = true := by
    unfold inside
    rw [decide_eq_true (by omega), decide_eq_true (by omega), decide_eq_true (p.sec_length hp.2.2.1)]
    rfl
  have hw := h.wrote hp hn hr
  unfold DS.write
  rw [h.live, if_neg Bool.false_ne_true, if_pos hin]
  by_cases hf : D.fuse = some 0
  · rw [if_pos hf]
    exact Or.inr ⟨_, rfl, rfl, hw.crash _⟩
  · rw [if_neg hf]
    exact Or.inl ⟨_, rfl, hw.tick⟩
theorem Rung.flush {D : DS} {first count base : Nat} {ps : List Pc} {s : Nat} (h : Rung D first count base ps s) :
    (∃ D', D.flush = (0, D') ∧ Rung D' first count base ps ps.length) ∨ (∃ D', D.flush = (20, D') ∧ D'.dead = true ∧ Left D' first count base ps s) := by
  unfold DS.flush
  rw [h.live, if_neg Bool.false_ne_true]
  by_cases hf : D.fuse = some 0
  · rw [if_pos hf]
    exact Or.inr ⟨_, rfl, rfl, h.crash _⟩
  · rw [if_neg hf]
    exact Or.inl ⟨_, rfl, h.tick.flushed⟩
/-- behind a crash more may be missing than was ever written -/
theorem Left.more {D : DS} {first count base : Nat} {ps : List Pc} {s : Nat} (h : Left D first count base ps s) (W : List Pc) (hl : ps.length + W.length ≤ count) : Left D first count base (ps ++ W) s := by
  refine ⟨h.room, ?_⟩
  have key : ∀ (W : List Pc) (qs : List Pc), Half (secs D.lasts first count) base qs s → qs.length + W.length ≤ count → Half (secs D.lasts first count) base (qs ++ W) s := by
    intro W
    induction W with
    | nil => intro qs h _; rw [List.append_nil]; exact h
    | cons p W ih =>
      intro qs hq hl
      rw [List.length_cons] at hl
      rw [show qs ++ p :: W = (qs ++ [p]) ++ W by rw [List.append_assoc]; rfl]
      exact ih _ (hq.skip p (by rw [secs_length h.room]; omega)) (by rw [List.length_append, List.length_singleton]; omega)
  exact key W ps h.half hl
/-- what a ring tells behind a crash: all that was sure, and of the rest a beginning -/
theorem Left.told {D : DS} {first count base : Nat} {ps : List Pc} {s : Nat} (h : Left D first count base ps s) :
    whole [] (ps.take s) <+: whole [] (run (secs D.lasts first count) count (base + 1)) ∧ whole [] (run (secs D.lasts first count) count (base + 1)) <+: whole [] ps := by
  obtain ⟨j, hj, hr⟩ := h.half.run
  rw [secs_length h.room] at hr
  rw [hr]
  exact ⟨whole_mono _ _ hj, whole_take _ _ _⟩
end Go.Proofs.Ytlokehekkllbeaa
namespace Go.Proofs.Ytlokehekkllbeaa

/-- pieces written one behind the other, till the disk says no -/
def DS.putAll (first count : Nat) : DS → List Pc → Int × DS
  | D, [] => (0, D)
  | D, p :: W => if (D.write ((first + p.n % count : Nat) : Int) p.sec).1 = 0 then DS.putAll first count (D.write ((first + p.n % count : Nat) : Int) p.sec).2 W else D.write ((first + p.n % count : Nat) : Int) p.sec
theorem Rung.putAll {first count base s : Nat} (W : List Pc) : ∀ {D : DS} {ps : List Pc}, Rung D first count base ps s → (∀ i p, W[i]? = some p → p.fine ∧ p.n = base + 1 + ps.length + i) → ps.length + W.length ≤ count →
    (∃ D', D.putAll first count W = (0, D') ∧ Rung D' first count base (ps ++ W) s) ∨ (∃ D', D.putAll first count W = (20, D') ∧ D'.dead = true ∧ Left D' first count base (ps ++ W) s) := by
  induction W with
  | nil => intro D ps h _ _; left; rw [List.append_nil]; exact ⟨D, rfl, h⟩
  | cons p W ih =>
    intro D ps h hW hl
    rw [List.length_cons] at hl
    have h0 := hW 0 p rfl
    have hW' : ∀ i q, W[i]? = some q → q.fine ∧ q.n = base + 1 + (ps ++ [p]).length + i := fun i q hq => by
      have := hW (i + 1) q hq
      rw [List.length_append, List.length_singleton]
      exact ⟨this.1, by omega⟩
    have hl' : (ps ++ [p]).length + W.length ≤ count := by rw [List.length_append, List.length_singleton]; omega
    rw [DS.putAll, show ps ++ p :: W = (ps ++ [p]) ++ W by rw [List.append_assoc]; rfl]
    rcases h.write h0.1 (by omega) (by omega) with ⟨D', hw, hr⟩ | ⟨D', hw, hd, hr⟩
    · rw [hw]
      exact ih hr hW' hl'
    · rw [hw]
      exact Or.inr ⟨D', rfl, hd, hr.more W hl'⟩

/-- the pieces of a record that fits -/
theorem cut_fit {n base len : Nat} {r : List UInt8} (hn : n = base + 1 + len) (hm : n + pieces r.length ≤ 4611686018427387905) : ∀ i p, (cut n r)[i]? = some p → p.fine ∧ p.n = base + 1 + len + i := by
  intro i p hp
  have hi : i < (cut n r).length := (List.getElem?_eq_some_iff.1 hp).1
  rw [cut_length] at hi
  have := cut_num n r i p hp
  exact ⟨⟨by omega, by omega, this.2.1, this.2.2⟩, by omega⟩
theorem ended_app {ps : List Pc} {qs : List Pc} (hn : qs ≠ []) (h : Ended qs) : Ended (ps ++ qs) := by
  intro p hp
  rw [List.getLast?_append] at hp
  rcases hg : qs.getLast? with _ | q
  · exact absurd (List.getLast?_eq_none_iff.1 hg) hn
  · rw [hg] at hp; obtain rfl := Option.some.inj hp; exact h _ hg
theorem ended_nil : Ended [] := fun p hp => absurd hp (by simp)
theorem whole_more {ps : List Pc} (h : Ended ps) (n : Nat) (r : List UInt8) : whole [] (ps ++ cut n r) = whole [] ps ++ [r] := by rw [whole_app ps [] _ (fun _ => rfl) h, whole_cut]; rfl

/-- a ring that is not torn, opened on a disk on which nothing waits -/
theorem open_rung {D : DS} {first count base : Nat} (hd : D.dead = false) (hw : D.waits = []) (hc : 0 < count) (hr : first + count ≤ D.lasts.length)
    (h : topIn (secs D.lasts first count) base ≤ lastIn base (run (secs D.lasts first count) count (base + 1))) :
    Rung D first count base (run (secs D.lasts first count) count (base + 1)) (run (secs D.lasts first count) count (base + 1)).length ∧ Ended (run (secs D.lasts first count) count (base + 1)) ∧
    lastIn base (run (secs D.lasts first count) count (base + 1)) = base + (run (secs D.lasts first count) count (base + 1)).length ∧ topIn (secs D.lasts first count) base = base + (run (secs D.lasts first count) count (base + 1)).length := by
  have hl := secs_length hr
  have := open_half (secs D.lasts first count) base (by omega)
  rw [hl] at this
  obtain ⟨h1, h2, h3, h4⟩ := this h
  have h5 := h1.len
  rw [hl] at h5
  exact ⟨⟨hd, hc, hr, Nat.le_refl _, h5, by rw [hw, List.drop_of_length_le (Nat.le_refl _)]; rfl, fun i p hp hi => by have := (List.getElem?_eq_some_iff.1 hp).1; omega, by rw [List.take_of_length_le (Nat.le_refl _)]; exact h1⟩, h2, h3, h4⟩
/-- emptied -/
theorem empty_rung {D : DS} {first count : Nat} (base : Nat) (hd : D.dead = false) (hw : D.waits = []) (hc : 0 < count) (hr : first + count ≤ D.lasts.length) : Rung D first count (topIn (secs D.lasts first count) base) [] 0 :=
  ⟨hd, hc, hr, Nat.le_refl _, Nat.zero_le _, hw, fun i p hp => absurd hp (by simp), empty_half _ _ (by rw [secs_length hr]; exact hc)⟩
/-- what is told behind, and nothing waits or is lost: all -/
theorem Rung.told {D : DS} {first count base : Nat} {ps : List Pc} {s : Nat} (h : Rung D first count base ps s) : run (secs (setAll D.lasts D.waits) first count) count (base + 1) = ps := by
  have := h.whole.run_all
  rwa [secs_length (by rw [setAll_length]; exact h.room)] at this

/-- what is read is what would last -/
theorem look_all (ws : List (Nat × List UInt8)) : ∀ (L : List (List UInt8)) (i : Nat), i < L.length → look L ws i = (setAll L ws).getD i [] := by
  have key : ∀ (ws : List (Nat × List UInt8)) (L : List (List UInt8)) (i : Nat) (s : List UInt8), i < L.length → s = L.getD i [] → ws.foldl (fun s x => if x.1 = i then x.2 else s) s = (setAll L ws).getD i [] := by
    intro ws
    induction ws with
    | nil => intro L i s _ hs; exact hs
    | cons x ws ih =>
      intro L i s hi hs
      rw [List.foldl_cons]
      refine ih (L.set x.1 x.2) i _ (by rw [List.length_set]; exact hi) ?_
      rw [List.getD_eq_getElem?_getD, List.getElem?_set]
      by_cases hx : x.1 = i
      · rw [if_pos hx, if_pos hx, if_pos (by omega)]; rfl
      · rw [if_neg hx, if_neg hx, hs, List.getD_eq_getElem?_getD]
  intro L i hi
  exact key ws L i _ hi rfl

/-- what is open of a record that has not ended -/
def rest : List UInt8 → List Pc → List UInt8
  | now, [] => now
  | now, p :: ps => if p.last then rest [] ps else rest (now ++ p.data) ps
theorem whole_snoc (ps : List Pc) (p : Pc) : ∀ now, whole now (ps ++ [p]) = if p.last then whole now ps ++ [rest now ps ++ p.data] else whole now ps := by
  induction ps with
  | nil => intro now; cases hb : p.last <;> simp [whole, rest, hb]
  | cons q ps ih =>
    intro now
    rw [List.cons_append, whole, whole, rest]
    cases hq : q.last with
    | true =>
      rw [if_pos rfl, if_pos rfl, if_pos rfl, ih]
      cases hb : p.last <;> rfl
    | false => rw [if_neg Bool.false_ne_true, if_neg Bool.false_ne_true, if_neg Bool.false_ne_true, ih]
theorem rest_snoc (ps : List Pc) (p : Pc) : ∀ now, rest now (ps ++ [p]) = if p.last then [] else rest now ps ++ p.data := by
  induction ps with
  | nil => intro now; cases hb : p.last <;> simp [rest, hb]
  | cons q ps ih =>
    intro now
    rw [List.cons_append, rest, rest]
    split <;> exact ih _
theorem lastIn_snoc (ps : List Pc) (p : Pc) : ∀ m, lastIn m (ps ++ [p]) = if p.last then p.n else lastIn m ps := by
  induction ps with
  | nil => intro m; rfl
  | cons q ps ih => intro m; rw [List.cons_append, lastIn, lastIn, ih]
theorem run_snoc (S : List (List UInt8)) (k : Nat) : ∀ (n : Nat), (run S k n).length = k → run S (k + 1) n = match pcAt S (n + k) with
    | none => run S k n
    | some p => run S k n ++ [p] := by
  induction k with
  | zero => intro n _; rw [run, run, Nat.add_zero]; cases pcAt S n <;> rfl
  | succ k ih =>
    intro n h
    cases hq : pcAt S n with
    | none => rw [run, hq] at h; exact absurd h (by simp)
    | some p =>
      have e : ∀ j, run S (j + 1) n = p :: run S j (n + 1) := fun j => by rw [run, hq]
      rw [e] at h
      have h' : (run S k (n + 1)).length = k := by simpa using h
      rw [e (k + 1), e k, ih (n + 1) h', show n + 1 + k = n + (k + 1) by omega]
      cases pcAt S (n + (k + 1)) <;> rfl
/-- a row that stops stays -/
theorem run_stop (S : List (List UInt8)) (k : Nat) : ∀ (n m : Nat), (run S k n).length = k → pcAt S (n + k) = none → run S (k + m) n = run S k n := by
  induction k with
  | zero =>
    intro n m _ h
    rw [Nat.add_zero] at h
    cases m with
    | zero => rfl
    | succ m => rw [Nat.zero_add, run, run, h]
  | succ k ih =>
    intro n m hl h
    rw [show k + 1 + m = (k + m) + 1 by omega, run, run]
    rw [run] at hl
    cases hq : pcAt S n with
    | none => rfl
    | some p =>
      rw [hq] at hl
      have h' : (run S k (n + 1)).length = k := by simpa using hl
      show p :: run S (k + m) (n + 1) = p :: run S k (n + 1)
      rw [ih (n + 1) m h' (by rw [show n + 1 + k = n + (k + 1) by omega]; exact h)]
/-- the greatest number, one sector after the other -/
def topTo (S : List (List UInt8)) (base k : Nat) : Nat := (List.range k).foldl (fun t i => match pcOf (S.getD i []) i S.length with
    | none => t
    | some p => max t p.n) base
theorem topTo_zero (S : List (List UInt8)) (base : Nat) : topTo S base 0 = base := rfl
theorem topTo_snoc (S : List (List UInt8)) (base k : Nat) : topTo S base (k + 1) = match pcOf (S.getD k []) k S.length with
    | none => topTo S base k
    | some p => max (topTo S base k) p.n := by unfold topTo; rw [List.range_succ, List.foldl_append]; rfl
theorem topTo_all (S : List (List UInt8)) (base : Nat) : topTo S base S.length = topIn S base := rfl

/-- a number read from its end, byte by byte -/
theorem val_step (l : List UInt8) (i : Nat) (h : i < l.length) : val (l.drop i) = (l.getD i 0).toNat + 256 * val (l.drop (i + 1)) := by
  rw [List.drop_eq_getElem_cons h, val, List.getD_eq_getElem?_getD, List.getElem?_eq_getElem h]
  rfl
theorem val_lt (l : List UInt8) : val l < 256 ^ l.length := by
  induction l with
  | nil => exact Nat.one_pos
  | cons x l ih => rw [val, List.length_cons, Nat.pow_succ]; have := x.toNat_lt; omega
end Go.Proofs.Ytlokehekkllbeaa
