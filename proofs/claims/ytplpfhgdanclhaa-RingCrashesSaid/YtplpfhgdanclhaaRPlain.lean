/-
  THE PLAIN RING OF LAYER 4: pieces as bytes, what a row of sectors tells, what is appended to it; what a crash may take. No program in sight. No condition.
-/
import Derived.Test.YtplpfhgdanclhaaDPlain
namespace Go.Proofs.Ytplpfhgdanclhaa

/-- a piece -/
structure Pc where
  n : Nat
  last : Bool
  data : List UInt8

/-- a number, the lowest byte first -/
def low : Nat → Nat → List UInt8
  | 0, _ => []
  | k + 1, n => UInt8.ofNat n :: low k (n / 256)
theorem low_length (k : Nat) : ∀ n, (low k n).length = k := by
  induction k with
  | zero => intro n; rfl
  | succ k ih => intro n; rw [low, List.length_cons, ih]
/-- the number of bytes, the lowest first -/
def val : List UInt8 → Nat
  | [] => 0
  | x :: l => x.toNat + 256 * val l
theorem val_low (k : Nat) : ∀ n, n < 256 ^ k → val (low k n) = n := by
  induction k with
  | zero => intro n h; rw [Nat.pow_zero] at h; rw [low, val]; omega
  | succ k ih =>
    intro n h
    rw [Nat.pow_succ] at h
    rw [low, val, ih _ (by omega), UInt8.toNat_ofNat']
    omega

def Pc.fine (p : Pc) : Prop := 1 ≤ p.n ∧ p.n ≤ 4611686018427387904 ∧ p.data.length ≤ 501 ∧ (p.last = false → p.data.length = 501)
/-- a piece's sector -/
def Pc.sec (p : Pc) : List UInt8 := low 8 p.n ++ ((if p.last then 1 else 0) :: UInt8.ofNat p.data.length :: UInt8.ofNat (p.data.length / 256) :: (p.data ++ List.replicate (501 - p.data.length) 0))
/-- how many bytes a sector says that it has -/
def lenOf (b : List UInt8) : Nat := (b.getD 9 0).toNat + 256 * (b.getD 10 0).toNat
/-- the piece of a sector -/
def pcOf (b : List UInt8) (place count : Nat) : Option Pc :=
  if val (b.take 8) < 1 ∨ 4611686018427387904 < val (b.take 8) ∨ val (b.take 8) % count ≠ place ∨ 1 < b.getD 8 0 ∨ 501 < lenOf b ∨ (b.getD 8 0 = 0 ∧ lenOf b ≠ 501) then none
  else if (b.drop (11 + lenOf b)).all (· == 0) then some ⟨val (b.take 8), b.getD 8 0 == 1, (b.drop 11).take (lenOf b)⟩
  else none

theorem Pc.sec_length (p : Pc) (h : p.data.length ≤ 501) : p.sec.length = 512 := by
  unfold Pc.sec
  rw [List.length_append, low_length, List.length_cons, List.length_cons, List.length_cons, List.length_append, List.length_replicate]
  omega

theorem pcOf_sec {p : Pc} (h : p.fine) (count : Nat) : pcOf p.sec (p.n % count) count = some p := by
  obtain ⟨h1, h2, h3, h4⟩ := h
  have hl : (low 8 p.n).length = 8 := low_length 8 _
  have e0 : p.sec.take 8 = low 8 p.n := by unfold Pc.sec; rw [List.take_append_of_le_length (by omega), List.take_of_length_le (by omega)]
  have ev : val (p.sec.take 8) = p.n := by rw [e0, val_low _ _ (by omega)]
  have g8 : p.sec.getD 8 0 = if p.last then 1 else 0 := by unfold Pc.sec; rw [List.getD_eq_getElem?_getD, List.getElem?_append_right (by omega), hl]; rfl
  have g9 : p.sec.getD 9 0 = UInt8.ofNat p.data.length := by unfold Pc.sec; rw [List.getD_eq_getElem?_getD, List.getElem?_append_right (by omega), hl]; rfl
  have g10 : p.sec.getD 10 0 = UInt8.ofNat (p.data.length / 256) := by unfold Pc.sec; rw [List.getD_eq_getElem?_getD, List.getElem?_append_right (by omega), hl]; rfl
  have el : lenOf p.sec = p.data.length := by unfold lenOf; rw [g9, g10, UInt8.toNat_ofNat', UInt8.toNat_ofNat']; omega
  have d11 : p.sec.drop 11 = p.data ++ List.replicate (501 - p.data.length) 0 := by
    unfold Pc.sec
    rw [List.drop_append, hl, List.drop_eq_nil_of_le (by omega)]
    rfl
  have dl : p.sec.drop (11 + p.data.length) = List.replicate (501 - p.data.length) 0 := by rw [← List.drop_drop, d11, List.drop_left]
  unfold pcOf
  rw [ev, el, g8, d11, dl, List.take_left]
  rw [if_neg, if_pos]
  · obtain ⟨n, b, d⟩ := p
    cases b <;> rfl
  · rw [List.all_eq_true]
    intro x hx
    rw [(List.mem_replicate.1 hx).2]
    rfl
  · rintro (h | h | h | h | h | ⟨h, k⟩)
    · omega
    · omega
    · exact h rfl
    · cases hb : p.last <;> rw [hb] at h <;> exact absurd h (by decide)
    · omega
    · cases hb : p.last
      · exact k (h4 hb)
      · rw [hb] at h; exact absurd h (by decide)
theorem pcOf_fine {b : List UInt8} {place count : Nat} {p : Pc} (h : pcOf b place count = some p) : 1 ≤ p.n ∧ p.n ≤ 4611686018427387904 ∧ p.n % count = place ∧ p.data.length ≤ 501 := by
  unfold pcOf at h
  split at h
  · exact absurd h (by simp)
  · rename_i hc
    split at h
    · obtain rfl := Option.some.inj h
      refine ⟨by show 1 ≤ val _; omega, by show val _ ≤ _; omega, ?_, ?_⟩
      · exact Decidable.byContradiction fun hh => hc (Or.inr (Or.inr (Or.inl hh)))
      · show ((b.drop 11).take (lenOf b)).length ≤ 501
        rw [List.length_take]
        omega
    · exact absurd h (by simp)

/-- the piece of that number, if it is there -/
def pcAt (S : List (List UInt8)) (n : Nat) : Option Pc := (pcOf (S.getD (n % S.length) []) (n % S.length) S.length).filter fun p => p.n == n
/-- the pieces from that number on, so many at most -/
def run (S : List (List UInt8)) : Nat → Nat → List Pc
  | 0, _ => []
  | k + 1, n => match pcAt S n with
    | none => []
    | some p => p :: run S k (n + 1)
/-- the records that are whole -/
def whole : List UInt8 → List Pc → List (List UInt8)
  | _, [] => []
  | now, p :: ps => if p.last then (now ++ p.data) :: whole [] ps else whole (now ++ p.data) ps
/-- up to the last piece that is the last of its record -/
def lastIn : Nat → List Pc → Nat
  | m, [] => m
  | m, p :: ps => lastIn (if p.last then p.n else m) ps
/-- the greatest number -/
def topIn (S : List (List UInt8)) (base : Nat) : Nat := (List.range S.length).foldl (fun t i => match pcOf (S.getD i []) i S.length with
    | none => t
    | some p => max t p.n) base

theorem whole_take (ps : List Pc) : ∀ (now : List UInt8) (j : Nat), whole now (ps.take j) <+: whole now ps := by
  induction ps with
  | nil => intro now j; rw [List.take_nil]; exact List.prefix_refl _
  | cons p ps ih =>
    intro now j
    cases j with
    | zero => rw [List.take_zero]; exact List.nil_prefix
    | succ j =>
      rw [List.take_succ_cons, whole, whole]
      split
      · exact List.cons_prefix_cons.2 ⟨rfl, ih _ _⟩
      · exact ih _ _
theorem whole_mono (ps : List Pc) (now : List UInt8) {i j : Nat} (h : i ≤ j) : whole now (ps.take i) <+: whole now (ps.take j) := by
  have := whole_take (ps.take j) now i
  rwa [List.take_take, Nat.min_eq_left h] at this
/-- the row ends with a record's end -/
def Ended (ps : List Pc) : Prop := ∀ p, ps.getLast? = some p → p.last = true
theorem whole_app (ps : List Pc) : ∀ (now : List UInt8) (qs : List Pc), (ps = [] → now = []) → Ended ps → whole now (ps ++ qs) = whole now ps ++ whole [] qs := by
  induction ps with
  | nil => intro now qs h _; rw [h rfl]; rfl
  | cons p ps ih =>
    intro now qs _ he
    rw [List.cons_append, whole, whole]
    have he' : ps ≠ [] → Ended ps := fun hn q hq => he q (by rw [List.getLast?_cons]; rw [hq]; rfl)
    cases hp : p.last with
    | true =>
      rw [if_pos rfl, if_pos rfl, List.cons_append]
      by_cases hn : ps = []
      · subst hn; rfl
      · rw [ih [] qs (fun _ => rfl) (he' hn)]
    | false =>
      rw [if_neg Bool.false_ne_true, if_neg Bool.false_ne_true]
      by_cases hn : ps = []
      · subst hn; have := he p rfl; rw [hp] at this; exact absurd this Bool.false_ne_true
      · exact ih _ qs (fun h => absurd h hn) (he' hn)

/-- a record's pieces, the first with the number n -/
def cut (n : Nat) (r : List UInt8) : List Pc :=
  if h : r.length ≤ 501 then [⟨n, true, r⟩] else ⟨n, false, r.take 501⟩ :: cut (n + 1) (r.drop 501)
termination_by r.length
decreasing_by rw [List.length_drop]; omega
/-- how many -/
def pieces (n : Nat) : Nat := if 0 < n ∧ n % 501 = 0 then n / 501 else n / 501 + 1
theorem cut_length (n : Nat) (r : List UInt8) : (cut n r).length = pieces r.length := by
  fun_induction cut n r with
  | case1 n r h => unfold pieces; rw [List.length_singleton]; split <;> omega
  | case2 n r h ih => rw [List.length_cons, ih, List.length_drop]; unfold pieces; split <;> split <;> omega
theorem cut_num (n : Nat) (r : List UInt8) : ∀ i p, (cut n r)[i]? = some p → p.n = n + i ∧ p.data.length ≤ 501 ∧ (p.last = false → p.data.length = 501) := by
  fun_induction cut n r with
  | case1 n r h =>
    intro i p hp
    cases i with
    | zero => obtain rfl := Option.some.inj hp; exact ⟨rfl, h, fun hh => nomatch hh⟩
    | succ i => exact absurd hp (by simp)
  | case2 n r h ih =>
    intro i p hp
    cases i with
    | zero => obtain rfl := Option.some.inj hp; exact ⟨rfl, by show (r.take 501).length ≤ 501; rw [List.length_take]; omega, fun _ => by show (r.take 501).length = 501; rw [List.length_take]; omega⟩
    | succ i => have := ih i p hp; exact ⟨by omega, this.2⟩
theorem cut_ne (n : Nat) (r : List UInt8) : cut n r ≠ [] := by unfold cut; split <;> exact List.cons_ne_nil _ _
theorem cut_ended (n : Nat) (r : List UInt8) : Ended (cut n r) := by
  fun_induction cut n r with
  | case1 n r h => intro p hp; obtain rfl := Option.some.inj hp; rfl
  | case2 n r h ih =>
    intro p hp
    rw [List.getLast?_cons] at hp
    refine ih p ?_
    rcases hg : (cut (n + 1) (r.drop 501)).getLast? with _ | q
    · exact absurd (List.getLast?_eq_none_iff.1 hg) (cut_ne _ _)
    · rw [hg] at hp; exact hp
theorem whole_cut (n : Nat) (r : List UInt8) : ∀ now, whole now (cut n r) = [now ++ r] := by
  fun_induction cut n r with
  | case1 n r h => intro now; rfl
  | case2 n r h ih =>
    intro now
    rw [whole, if_neg Bool.false_ne_true, ih, List.append_assoc, List.take_append_drop]

theorem run_length (S : List (List UInt8)) (k : Nat) : ∀ n, (run S k n).length ≤ k := by
  induction k with
  | zero => intro n; exact Nat.le_refl _
  | succ k ih =>
    intro n
    rw [run]
    split
    · exact Nat.zero_le _
    · rw [List.length_cons]; have := ih (n + 1); omega
theorem run_get (S : List (List UInt8)) (k : Nat) : ∀ n i p, (run S k n)[i]? = some p → pcAt S (n + i) = some p := by
  induction k with
  | zero => intro n i p h; exact absurd h (by simp [run])
  | succ k ih =>
    intro n i p h
    rw [run] at h
    split at h
    · exact absurd h (by simp)
    · rename_i q hq
      cases i with
      | zero => exact hq.trans h
      | succ i => rw [show n + (i + 1) = n + 1 + i by omega]; exact ih _ _ _ h
/-- what is read of a row of which each piece is there or is missing, is a beginning of it; and all that is surely there -/
theorem run_of (S : List (List UInt8)) (k : Nat) : ∀ (n : Nat) (ps : List Pc) (s : Nat), ps.length ≤ k → (∀ i p, ps[i]? = some p → pcAt S (n + i) = some p ∨ (s ≤ i ∧ pcAt S (n + i) = none)) →
    (ps.length < k → pcAt S (n + ps.length) = none) → ∃ j, min s ps.length ≤ j ∧ run S k n = ps.take j := by
  induction k with
  | zero => intro n ps s hl _ _; refine ⟨s, Nat.min_le_left _ _, ?_⟩; rw [List.length_eq_zero_iff.1 (Nat.le_zero.1 hl), List.take_nil]; rfl
  | succ k ih =>
    intro n ps s hl hp he
    rw [run]
    cases ps with
    | nil => have := he (Nat.zero_lt_succ _); rw [List.length_nil, Nat.add_zero] at this; rw [this]; exact ⟨s, Nat.min_le_left _ _, by rw [List.take_nil]⟩
    | cons p ps =>
      rw [List.length_cons] at hl he
      rcases hp 0 p rfl with h | ⟨hs, h⟩
      · rw [Nat.add_zero] at h
        rw [h]
        obtain ⟨j, hj, hr⟩ := ih (n + 1) ps (s - 1) (by omega) (fun i q hq => by
          rcases hp (i + 1) q hq with h | ⟨hs, h⟩
          · left; rw [show n + 1 + i = n + (i + 1) by omega]; exact h
          · right; exact ⟨by omega, by rw [show n + 1 + i = n + (i + 1) by omega]; exact h⟩) (fun hh => by rw [show n + 1 + ps.length = n + (ps.length + 1) by omega]; exact he (by omega))
        refine ⟨j + 1, by rw [List.length_cons]; omega, ?_⟩
        rw [List.take_succ_cons, ← hr]
      · rw [Nat.add_zero] at h
        rw [h]
        exact ⟨0, by omega, rfl⟩

theorem pcAt_num {S : List (List UInt8)} {n : Nat} {p : Pc} (h : pcAt S n = some p) : p.n = n := by
  unfold pcAt at h
  have := Option.filter_eq_some_iff.1 h
  exact eq_of_beq this.2
theorem pcAt_of {S : List (List UInt8)} {n : Nat} {p : Pc} (h : pcAt S n = some p) : pcOf (S.getD (n % S.length) []) (n % S.length) S.length = some p := by
  unfold pcAt at h
  exact (Option.filter_eq_some_iff.1 h).1
theorem pcAt_none {S : List (List UInt8)} {n t : Nat} (hc : 0 < S.length) (h : ∀ i p, i < S.length → pcOf (S.getD i []) i S.length = some p → p.n ≤ t) (ht : t < n) : pcAt S n = none := by
  rcases hq : pcAt S n with _ | p
  · rfl
  · have h1 := pcAt_num hq
    have := h _ _ (Nat.mod_lt _ hc) (pcAt_of hq)
    omega
/-- places of a window are apart -/
theorem mod_apart {c n m : Nat} (h : n < m) (hm : m < n + c) : n % c ≠ m % c := by
  intro he
  have h0 : (m - n) % c = 0 := Nat.sub_mod_eq_zero_of_mod_eq he.symm
  rw [Nat.mod_eq_of_lt (by omega)] at h0
  omega

/-- a piece is put -/
def put (S : List (List UInt8)) (p : Pc) : List (List UInt8) := S.set (p.n % S.length) p.sec
theorem put_length (S : List (List UInt8)) (p : Pc) : (put S p).length = S.length := List.length_set
theorem put_getD (S : List (List UInt8)) (p : Pc) (hc : 0 < S.length) (i : Nat) : (put S p).getD i [] = if i = p.n % S.length then p.sec else S.getD i [] := by
  unfold put
  rw [List.getD_eq_getElem?_getD, List.getElem?_set]
  have := Nat.mod_lt p.n hc
  by_cases h : p.n % S.length = i
  · subst h; rw [if_pos rfl, if_pos this, if_pos rfl]; rfl
  · rw [if_neg h, if_neg (Ne.symm h), List.getD_eq_getElem?_getD]
theorem pcAt_put {S : List (List UInt8)} {p : Pc} (hc : 0 < S.length) (hp : p.fine) (n : Nat) : pcAt (put S p) n = if n % S.length = p.n % S.length then (if p.n = n then some p else none) else pcAt S n := by
  unfold pcAt
  rw [put_length, put_getD _ _ hc]
  by_cases h : n % S.length = p.n % S.length
  · rw [if_pos h, if_pos h, h, pcOf_sec hp]
    by_cases hn : p.n = n
    · rw [if_pos hn]; exact Option.filter_eq_some_iff.2 ⟨rfl, beq_iff_eq.2 hn⟩
    · rw [if_neg hn]; exact Option.filter_eq_none_iff.2 fun q hq => by obtain rfl := Option.some.inj hq; exact fun hh => hn (eq_of_beq hh)
  · rw [if_neg h, if_neg h]

/-- of the row ps of pieces behind the base each stands in its sector, but those behind the first s may be missing; nothing is greater -/
structure Half (S : List (List UInt8)) (base : Nat) (ps : List Pc) (s : Nat) : Prop where
  pos : 0 < S.length
  len : ps.length ≤ S.length
  sure : s ≤ ps.length
  there : ∀ i p, ps[i]? = some p → pcAt S (base + 1 + i) = some p ∨ (s ≤ i ∧ pcAt S (base + 1 + i) = none)
  top : ∀ i p, i < S.length → pcOf (S.getD i []) i S.length = some p → p.n ≤ base + ps.length

theorem Half.run {S : List (List UInt8)} {base : Nat} {ps : List Pc} {s : Nat} (h : Half S base ps s) : ∃ j, s ≤ j ∧ run S S.length (base + 1) = ps.take j := by
  obtain ⟨j, hj, hr⟩ := run_of S S.length (base + 1) ps s h.len h.there fun _ => pcAt_none h.pos h.top (by omega)
  exact ⟨j, by have := h.sure; omega, hr⟩
theorem Half.run_all {S : List (List UInt8)} {base : Nat} {ps : List Pc} (h : Half S base ps ps.length) : Go.Proofs.Ytplpfhgdanclhaa.run S S.length (base + 1) = ps := by
  obtain ⟨j, hj, hr⟩ := h.run
  rw [hr, List.take_of_length_le hj]
theorem Half.put {S : List (List UInt8)} {base : Nat} {ps : List Pc} {s : Nat} (h : Half S base ps s) {p : Pc} (hp : p.fine) (hn : p.n = base + 1 + ps.length) (hr : ps.length < S.length) : Half (put S p) base (ps ++ [p]) s where
  pos := by rw [put_length]; exact h.pos
  len := by rw [put_length, List.length_append, List.length_singleton]; omega
  sure := by rw [List.length_append]; have := h.sure; omega
  there := by
    intro i q hq
    have hi : i < (ps ++ [p]).length := (List.getElem?_eq_some_iff.1 hq).1
    rw [List.length_append, List.length_singleton] at hi
    rw [pcAt_put h.pos hp]
    rcases Nat.lt_or_ge i ps.length with h1 | h1
    · rw [List.getElem?_append_left h1] at hq
      rw [if_neg (by rw [hn]; exact mod_apart (by omega) (by omega))]
      exact h.there i q hq
    · rw [show i = ps.length by omega, List.getElem?_concat_length] at hq
      obtain rfl := Option.some.inj hq
      rw [show i = ps.length by omega, hn, if_pos rfl, if_pos rfl]
      exact Or.inl rfl
  top := by
    intro i q hi hq
    rw [put_length] at hi hq
    rw [put_getD _ _ h.pos] at hq
    rw [List.length_append, List.length_singleton]
    split at hq
    · rename_i he
      subst he
      rw [pcOf_sec hp] at hq
      obtain rfl := Option.some.inj hq
      omega
    · have := h.top i q hi hq
      omega
theorem Half.skip {S : List (List UInt8)} {base : Nat} {ps : List Pc} {s : Nat} (h : Half S base ps s) (p : Pc) (hr : ps.length < S.length) : Half S base (ps ++ [p]) s where
  pos := h.pos
  len := by rw [List.length_append, List.length_singleton]; omega
  sure := by rw [List.length_append]; have := h.sure; omega
  there := by
    intro i q hq
    rcases Nat.lt_or_ge i ps.length with h1 | h1
    · rw [List.getElem?_append_left h1] at hq
      exact h.there i q hq
    · have := h.sure
      exact Or.inr ⟨by omega, pcAt_none h.pos h.top (by omega)⟩
  top := fun i q hi hq => by rw [List.length_append]; have := h.top i q hi hq; omega
/-- a flush: what is there is sure -/
theorem Half.less {S : List (List UInt8)} {base : Nat} {ps : List Pc} {s : Nat} (h : Half S base ps ps.length) (hs : s ≤ ps.length) : Half S base ps s where
  pos := h.pos
  len := h.len
  sure := hs
  there := fun i p hp => by
    rcases h.there i p hp with k | ⟨k, _⟩
    · exact Or.inl k
    · have := (List.getElem?_eq_some_iff.1 hp).1; omega
  top := h.top

/-- a part of what is written is kept -/
theorem Half.kept {base s : Nat} (W : List Pc) : ∀ (S : List (List UInt8)) (ps : List Pc) (keep : List Bool), Half S base ps s → (∀ i p, W[i]? = some p → p.fine ∧ p.n = base + 1 + ps.length + i) → ps.length + W.length ≤ S.length →
    Half ((((W.zip keep).filter (·.2)).map (·.1)).foldl Go.Proofs.Ytplpfhgdanclhaa.put S) base (ps ++ W) s := by
  induction W with
  | nil => intro S ps keep h _ _; rw [List.append_nil, List.zip_nil_left]; exact h
  | cons p W ih =>
    intro S ps keep h hW hl
    rw [List.length_cons] at hl
    have h0 := hW 0 p rfl
    have hW' : ∀ i q, W[i]? = some q → q.fine ∧ q.n = base + 1 + (ps ++ [p]).length + i := fun i q hq => by
      have := hW (i + 1) q hq
      rw [List.length_append, List.length_singleton]
      exact ⟨this.1, by omega⟩
    have hl' : ∀ T : List (List UInt8), T.length = S.length → (ps ++ [p]).length + W.length ≤ T.length := fun T hT => by rw [List.length_append, List.length_singleton, hT]; omega
    rw [show ps ++ p :: W = (ps ++ [p]) ++ W by rw [List.append_assoc]; rfl]
    cases keep with
    | nil =>
      have := ih S (ps ++ [p]) [] (h.skip p (by omega)) hW' (hl' S rfl)
      rw [List.zip_nil_right] at this ⊢
      exact this
    | cons b keep =>
      rw [List.zip_cons_cons]
      cases b with
      | false => exact ih S (ps ++ [p]) keep (h.skip p (by omega)) hW' (hl' S rfl)
      | true => exact ih (Go.Proofs.Ytplpfhgdanclhaa.put S p) (ps ++ [p]) keep (h.put h0.1 (by omega) (by omega)) hW' (hl' _ (put_length _ _))

/-- the greatest number is not below any -/
theorem topIn_ge (S : List (List UInt8)) (base : Nat) : base ≤ topIn S base ∧ ∀ i p, i < S.length → pcOf (S.getD i []) i S.length = some p → p.n ≤ topIn S base := by
  have key : ∀ (l : List Nat) (t : Nat), t ≤ l.foldl (fun t i => match pcOf (S.getD i []) i S.length with | none => t | some p => max t p.n) t ∧
      ∀ i p, i ∈ l → pcOf (S.getD i []) i S.length = some p → p.n ≤ l.foldl (fun t i => match pcOf (S.getD i []) i S.length with | none => t | some p => max t p.n) t := by
    intro l
    induction l with
    | nil => intro t; exact ⟨Nat.le_refl _, fun i p h => absurd h List.not_mem_nil⟩
    | cons a l ih =>
      intro t
      rw [List.foldl_cons]
      refine ⟨Nat.le_trans ?_ (ih _).1, fun i p hi hp => ?_⟩
      · split
        · exact Nat.le_refl _
        · exact Nat.le_max_left _ _
      · rcases List.mem_cons.1 hi with rfl | hi
        · refine Nat.le_trans ?_ (ih _).1
          rw [hp]
          exact Nat.le_max_right _ _
        · exact (ih _).2 i p hi hp
  exact ⟨(key _ _).1, fun i p hi hp => (key _ _).2 i p (List.mem_range.2 hi) hp⟩
/-- behind Open: nothing is in a ring behind its greatest number -/
theorem empty_half (S : List (List UInt8)) (base : Nat) (hc : 0 < S.length) : Half S (topIn S base) [] 0 where
  pos := hc
  len := Nat.zero_le _
  sure := Nat.le_refl _
  there := fun i p h => absurd h (by simp)
  top := fun i p hi hp => (topIn_ge S base).2 i p hi hp
theorem lastIn_row (ps : List Pc) : ∀ (m base : Nat), (∀ i p, ps[i]? = some p → p.n = base + 1 + i) → m ≤ base → lastIn m ps ≤ base + ps.length ∧ (m ≤ lastIn m ps) ∧ (base + ps.length ≤ lastIn m ps → Ended ps) := by
  induction ps with
  | nil => intro m base _ hm; exact ⟨hm, Nat.le_refl _, fun _ p hp => absurd hp (by simp)⟩
  | cons p ps ih =>
    intro m base h hm
    have h0 := h 0 p rfl
    have h' : ∀ i q, ps[i]? = some q → q.n = base + 1 + 1 + i := fun i q hq => by have := h (i + 1) q hq; omega
    rw [lastIn, List.length_cons]
    cases hb : p.last with
    | true =>
      rw [if_pos rfl]
      have := ih p.n (base + 1) h' (by omega)
      refine ⟨by omega, by omega, fun hh q hq => ?_⟩
      rw [List.getLast?_cons] at hq
      rcases hg : ps.getLast? with _ | r
      · rw [hg] at hq; obtain rfl := Option.some.inj hq; exact hb
      · rw [hg] at hq; obtain rfl := Option.some.inj hq; exact this.2.2 (by omega) _ hg
    | false =>
      rw [if_neg Bool.false_ne_true]
      have := ih m (base + 1) h' (by omega)
      refine ⟨by omega, by omega, fun hh q hq => ?_⟩
      rw [List.getLast?_cons] at hq
      rcases hg : ps.getLast? with _ | r
      · have he := List.getLast?_eq_none_iff.1 hg
        subst he
        rw [lastIn] at hh
        rw [List.length_nil] at hh
        omega
      · rw [hg] at hq; obtain rfl := Option.some.inj hq; exact this.2.2 (by omega) _ hg
/-- behind Open: a ring that is not torn -/
theorem open_half (S : List (List UInt8)) (base : Nat) (hc : 0 < S.length) (h : topIn S base ≤ lastIn base (run S S.length (base + 1))) :
    Half S base (run S S.length (base + 1)) (run S S.length (base + 1)).length ∧ Ended (run S S.length (base + 1)) ∧ lastIn base (run S S.length (base + 1)) = base + (run S S.length (base + 1)).length ∧ topIn S base = base + (run S S.length (base + 1)).length := by
  have hg := run_get S S.length (base + 1)
  have hn : ∀ i p, (run S S.length (base + 1))[i]? = some p → p.n = base + 1 + i := fun i p hp => pcAt_num (hg i p hp)
  obtain ⟨h1, h2, h3⟩ := lastIn_row _ base base hn (Nat.le_refl _)
  have ht : base + (run S S.length (base + 1)).length ≤ topIn S base := by
    rcases Nat.eq_zero_or_pos (run S S.length (base + 1)).length with h0 | h0
    · rw [h0]; exact (topIn_ge S base).1
    · have hl : (run S S.length (base + 1)).length - 1 < (run S S.length (base + 1)).length := by omega
      have := hg _ _ (List.getElem?_eq_getElem hl)
      have h4 := (topIn_ge S base).2 _ _ (Nat.mod_lt _ hc) (pcAt_of this)
      have h5 := pcAt_num this
      omega
  refine ⟨⟨hc, run_length _ _ _, Nat.le_refl _, fun i p hp => Or.inl (hg i p hp), fun i p hi hp => ?_⟩, h3 (by omega), by omega, by omega⟩
  have := (topIn_ge S base).2 i p hi hp
  omega
end Go.Proofs.Ytplpfhgdanclhaa
