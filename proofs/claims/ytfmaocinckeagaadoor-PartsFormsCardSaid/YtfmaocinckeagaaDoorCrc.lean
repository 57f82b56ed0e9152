/-
  THE PLAIN MATHEMATICS OF LAYER 2: the sum, as numbers; that it is linear by exclusive or; that what is turned within 32 bits shows. No program in sight, no condition but those that the lemmas name.
-/
import Derived.Test.YtfmaocinckeagaaDoorRows
namespace Go.Proofs.YtfmaocinckeagaaDoor

/-- one step of the sum -/
def st1 (r : Nat) : Nat := if r % 2 = 1 then (r / 2) ^^^ 3988292384 else r / 2
/-- k steps -/
def stN : Nat → Nat → Nat
  | 0, r => r
  | k + 1, r => stN k (st1 r)
/-- a byte taken in -/
def crcB (r x : Nat) : Nat := stN 8 (r ^^^ x)
/-- bytes taken in -/
def crc (r : Nat) (l : List Nat) : Nat := l.foldl crcB r

theorem xor_half (a b : Nat) : (a ^^^ b) / 2 = (a / 2) ^^^ (b / 2) := by
  have := Nat.shiftRight_xor_distrib (a := a) (b := b) (i := 1)
  simpa [Nat.shiftRight_succ] using this
theorem xor_odd (a b : Nat) : (a ^^^ b) % 2 = (a % 2) ^^^ (b % 2) := by
  have := Nat.xor_mod_two_pow (a := a) (b := b) (n := 1)
  simpa using this
theorem xor_left (a b c : Nat) : a ^^^ (b ^^^ c) = b ^^^ (a ^^^ c) := by rw [← Nat.xor_assoc, Nat.xor_comm a b, Nat.xor_assoc]

/-- The step is linear. -/
theorem st1_xor (a b : Nat) : st1 (a ^^^ b) = st1 a ^^^ st1 b := by
  unfold st1
  rw [xor_half, xor_odd]
  have ha : a % 2 = 0 ∨ a % 2 = 1 := by omega
  have hb : b % 2 = 0 ∨ b % 2 = 1 := by omega
  rcases ha with ha | ha <;> rcases hb with hb | hb <;> rw [ha, hb] <;> simp
  · rw [Nat.xor_assoc]
  · rw [Nat.xor_assoc, Nat.xor_assoc, Nat.xor_comm (b / 2)]
  · rw [Nat.xor_assoc, xor_left 3988292384, Nat.xor_self, Nat.xor_zero]
theorem stN_xor (k : Nat) : ∀ a b : Nat, stN k (a ^^^ b) = stN k a ^^^ stN k b := by
  induction k with
  | zero => intro a b; rfl
  | succ k ih => intro a b; show stN k (st1 (a ^^^ b)) = _; rw [st1_xor, ih]; rfl
theorem crcB_xor (a b x y : Nat) : crcB (a ^^^ b) (x ^^^ y) = crcB a x ^^^ crcB b y := by
  unfold crcB
  rw [← stN_xor]
  congr 1
  rw [Nat.xor_assoc, Nat.xor_assoc, xor_left b x y]
/-- The sum of bytes is linear. -/
theorem crc_xor (l : List Nat) : ∀ (m : List Nat) (a b : Nat), l.length = m.length → crc (a ^^^ b) (List.zipWith (· ^^^ ·) l m) = crc a l ^^^ crc b m := by
  induction l with
  | nil =>
    intro m a b h
    have : m = [] := List.eq_nil_of_length_eq_zero h.symm
    subst this
    rfl
  | cons x l ih =>
    intro m a b h
    cases m with
    | nil => cases h
    | cons y m =>
      show crc (crcB (a ^^^ b) (x ^^^ y)) (List.zipWith _ l m) = _
      rw [crcB_xor]
      exact ih m _ _ (by simpa using h)

theorem st1_lt {r : Nat} (h : r < 2 ^ 32) : st1 r < 2 ^ 32 := by
  unfold st1
  split
  · exact Nat.xor_lt_two_pow (by omega) (by decide)
  · omega
/-- The step tells numbers apart. -/
theorem st1_zero {r : Nat} (h : r < 2 ^ 32) (h0 : st1 r = 0) : r = 0 := by
  unfold st1 at h0
  by_cases hr : r % 2 = 1
  · rw [if_pos hr] at h0
    have h1 : r / 2 = 3988292384 := by
      have := congrArg (fun x => x ^^^ 3988292384) h0
      simpa [Nat.xor_assoc] using this
    omega
  · rw [if_neg hr] at h0
    omega
theorem stN_lt (k : Nat) : ∀ {r : Nat}, r < 2 ^ 32 → stN k r < 2 ^ 32 := by
  induction k with
  | zero => intro r h; exact h
  | succ k ih => intro r h; exact ih (st1_lt h)
theorem stN_zero (k : Nat) : ∀ {r : Nat}, r < 2 ^ 32 → stN k r = 0 → r = 0 := by
  induction k with
  | zero => intro r _ h0; exact h0
  | succ k ih => intro r h h0; exact st1_zero h (ih (st1_lt h) h0)
theorem stN_nought (k : Nat) : stN k 0 = 0 := by
  induction k with
  | zero => rfl
  | succ k ih => exact ih

theorem stN_add (a b : Nat) : ∀ r : Nat, stN (a + b) r = stN b (stN a r) := by
  induction a with
  | zero => intro r; rw [Nat.zero_add]; rfl
  | succ a ih => intro r; rw [show a + 1 + b = (a + b) + 1 by omega]; exact ih (st1 r)
/-- Noughts at the low end are shifted out. -/
theorem stN_shift (k : Nat) : ∀ y : Nat, stN k (2 ^ k * y) = y := by
  induction k with
  | zero => intro y; show 2 ^ 0 * y = y; omega
  | succ k ih =>
    intro y
    show stN k (st1 (2 ^ (k + 1) * y)) = y
    have h : 2 ^ (k + 1) * y = 2 * (2 ^ k * y) := by rw [Nat.pow_succ, Nat.mul_comm (2 ^ k) 2, Nat.mul_assoc]
    unfold st1
    rw [h, if_neg (by omega), Nat.mul_div_cancel_left _ (by omega)]
    exact ih y

/-- bytes as one number, the first the lowest -/
def leN : List Nat → Nat
  | [] => 0
  | x :: l => x + 256 * leN l
theorem leN_append (l m : List Nat) : leN (l ++ m) = leN l + 256 ^ l.length * leN m := by
  induction l with
  | nil => simp [leN]
  | cons x l ih =>
    show x + 256 * leN (l ++ m) = x + 256 * leN l + 256 ^ (l.length + 1) * leN m
    rw [ih, Nat.mul_add, Nat.pow_succ, ← Nat.mul_assoc, Nat.mul_comm 256 (256 ^ l.length), Nat.add_assoc]
theorem leN_lt (l : List Nat) (h : ∀ x ∈ l, x < 256) : leN l < 256 ^ l.length := by
  induction l with
  | nil => simp [leN]
  | cons x l ih =>
    have h1 := h x (by simp)
    have h2 := ih fun y hy => h y (by simp [hy])
    show x + 256 * leN l < 256 ^ (l.length + 1)
    rw [Nat.pow_succ]
    omega
/-- a low part and a high one, by exclusive or -/
theorem xor_low {x : Nat} (k y : Nat) (h : x < 2 ^ k) : x ^^^ (2 ^ k * y) = x + 2 ^ k * y := by
  have h1 : 2 ^ k * y + x = 2 ^ k * y ||| x := Nat.two_pow_add_eq_or_of_lt h y
  have h2 : x &&& (2 ^ k * y) = 0 := by
    apply Nat.eq_of_testBit_eq
    intro i
    rw [Nat.testBit_and, Nat.zero_testBit, Nat.testBit_two_pow_mul]
    by_cases hi : k ≤ i
    · have : x.testBit i = false := Nat.testBit_lt_two_pow (Nat.lt_of_lt_of_le h (Nat.pow_le_pow_right (by omega) hi))
      rw [this]; rfl
    · simp [hi]
  have h3 : x ^^^ (2 ^ k * y) = x ||| (2 ^ k * y) := by
    apply Nat.eq_of_testBit_eq
    intro i
    have := congrArg (fun z => z.testBit i) h2
    simp only [Nat.testBit_and, Nat.zero_testBit] at this
    rw [Nat.testBit_xor, Nat.testBit_or]
    cases hx : x.testBit i <;> cases hy : (2 ^ k * y).testBit i <;> simp_all
  rw [h3, Nat.or_comm, ← h1, Nat.add_comm]

/-- THE SUM OF BYTES IS THAT OF ONE NUMBER. -/
theorem crc_le (l : List Nat) : ∀ r : Nat, (∀ x ∈ l, x < 256) → crc r l = stN (8 * l.length) (r ^^^ leN l) := by
  induction l with
  | nil => intro r _; show r = r ^^^ 0; rw [Nat.xor_zero]
  | cons x l ih =>
    intro r h
    have hx := h x (by simp)
    show crc (crcB r x) l = _
    rw [ih _ fun y hy => h y (by simp [hy])]
    have e1 : leN l = stN 8 (2 ^ 8 * leN l) := (stN_shift 8 _).symm
    have e2 : x ^^^ (2 ^ 8 * leN l) = leN (x :: l) := xor_low 8 _ hx
    unfold crcB
    rw [e1, ← stN_xor, Nat.xor_assoc, e2, List.length_cons, show 8 * (l.length + 1) = 8 + 8 * l.length by omega, stN_add]

theorem crc_append (r : Nat) (l m : List Nat) : crc r (l ++ m) = crc (crc r l) m := by unfold crc; rw [List.foldl_append]
theorem crc_lt (l : List Nat) : ∀ r : Nat, r < 2 ^ 32 → (∀ x ∈ l, x < 256) → crc r l < 2 ^ 32 := by
  induction l with
  | nil => intro r h _; exact h
  | cons x l ih =>
    intro r h hx
    have h1 := hx x (by simp)
    exact ih _ (stN_lt 8 (Nat.xor_lt_two_pow h (by omega))) fun y hy => hx y (by simp [hy])

/-- Two numbers that steps bring together are one. -/
theorem stN_inj {k a b : Nat} (ha : a < 2 ^ 32) (hb : b < 2 ^ 32) (h : stN k a = stN k b) : a = b := by
  have h0 : stN k (a ^^^ b) = 0 := by rw [stN_xor, h, Nat.xor_self]
  have := stN_zero k (Nat.xor_lt_two_pow ha hb) h0
  have e := congrArg (fun x => x ^^^ b) this
  simpa [Nat.xor_assoc] using e

/-- A number's four bytes, the lowest first. -/
def le4 (t : Nat) : List Nat := [t % 256, t / 256 % 256, t / 65536 % 256, t / 16777216]
theorem le4_num {t : Nat} : leN (le4 t) = t := by unfold le4 leN leN leN leN leN; omega
theorem le4_bytes {t : Nat} (h : t < 2 ^ 32) : ∀ x ∈ le4 t, x < 256 := by
  intro x hx
  unfold le4 at hx
  simp at hx
  rcases hx with rfl | rfl | rfl | rfl <;> omega

/-- A frame's sum is right just if the sum of the whole comes to one number. -/
theorem crc_frame {m : List Nat} {t : Nat} (hm : ∀ x ∈ m, x < 256) (ht : t < 2 ^ 32) :
    crc 4294967295 (m ++ le4 t) = stN 32 4294967295 ↔ t = crc 4294967295 m ^^^ 4294967295 := by
  have hr := crc_lt m 4294967295 (by decide) hm
  rw [crc_append, crc_le _ _ (le4_bytes ht), le4_num]
  show stN 32 _ = _ ↔ _
  constructor
  · intro h
    have := stN_inj (Nat.xor_lt_two_pow hr ht) (by decide) h
    have e := congrArg (fun x => crc 4294967295 m ^^^ x) this
    simp only [← Nat.xor_assoc, Nat.xor_self, Nat.zero_xor] at e
    exact e
  · intro h
    rw [h, ← Nat.xor_assoc, Nat.xor_self, Nat.zero_xor]

/-- BURSTS ARE TOLD: bits that are turned within 32 that follow one another change the sum of the whole. -/
theorem crc_burst {l l' : List Nat} {at_ u : Nat} (hl : ∀ x ∈ l, x < 256) (hl' : ∀ x ∈ l', x < 256) (hn : l'.length = l.length) (hu : u < 2 ^ 32) (h0 : u ≠ 0) (hat : at_ ≤ 8 * l.length)
    (h : leN l' = leN l ^^^ (2 ^ at_ * u)) (r : Nat) : crc r l' ≠ crc r l := by
  intro he
  rw [crc_le l' r hl', crc_le l r hl, hn, h, ← Nat.xor_assoc, stN_xor _ (r ^^^ leN l)] at he
  have h1 : stN (8 * l.length) (2 ^ at_ * u) = 0 := by
    have := congrArg (fun x => stN (8 * l.length) (r ^^^ leN l) ^^^ x) he
    simp only [← Nat.xor_assoc, Nat.xor_self, Nat.zero_xor] at this
    exact this
  rw [show 8 * l.length = at_ + (8 * l.length - at_) by omega, stN_add, stN_shift] at h1
  exact h0 (stN_zero _ hu h1)

/-- A bit that is turned in a byte is one that is turned in the number. -/
theorem leN_flip (l : List Nat) : ∀ (i j : Nat) (x : Nat), l[i]? = some x → j < 8 → (∀ y ∈ l, y < 256) → leN (l.set i (x ^^^ 2 ^ j)) = leN l ^^^ 2 ^ (8 * i + j) := by
  induction l with
  | nil => intro i j x h; simp at h
  | cons y l ih =>
    intro i j x h hj hb
    have hy : y < 2 ^ 8 := hb y (by simp)
    have hj8 : 2 ^ j < 2 ^ 8 := Nat.pow_lt_pow_right (by omega) hj
    cases i with
    | zero =>
      simp only [List.getElem?_cons_zero, Option.some.injEq] at h
      subst h
      show (y ^^^ 2 ^ j) + 256 * leN l = (y + 256 * leN l) ^^^ 2 ^ (8 * 0 + j)
      have e1 := xor_low 8 (leN l) (Nat.xor_lt_two_pow hy hj8)
      have e2 := xor_low 8 (leN l) hy
      rw [show (256 : Nat) = 2 ^ 8 from rfl, ← e1, ← e2, Nat.mul_zero, Nat.zero_add, Nat.xor_assoc, Nat.xor_assoc, Nat.xor_comm (2 ^ j)]
    | succ i =>
      simp only [List.getElem?_cons_succ] at h
      show y + 256 * leN (l.set i (x ^^^ 2 ^ j)) = (y + 256 * leN l) ^^^ 2 ^ (8 * (i + 1) + j)
      rw [ih i j x h hj fun z hz => hb z (by simp [hz])]
      have e1 := xor_low 8 (leN l ^^^ 2 ^ (8 * i + j)) hy
      have e2 := xor_low 8 (leN l) hy
      have e3 : 2 ^ 8 * (leN l ^^^ 2 ^ (8 * i + j)) = 2 ^ 8 * leN l ^^^ 2 ^ (8 * (i + 1) + j) := by
        have := Nat.shiftLeft_xor_distrib (a := leN l) (b := 2 ^ (8 * i + j)) (i := 8)
        simp only [Nat.shiftLeft_eq] at this
        rw [Nat.mul_comm, this, Nat.mul_comm (leN l), ← Nat.pow_add, show 8 * i + j + 8 = 8 * (i + 1) + j by omega]
      rw [show (256 : Nat) = 2 ^ 8 from rfl, ← e1, ← e2, e3, Nat.xor_assoc]

/-- The mask's bits, one after the other. -/
theorem mask_step (n mask at_ i : Nat) (h : mask / 2 ^ i % 2 = 1) : (n ^^^ 2 ^ at_ * (mask % 2 ^ i)) ^^^ 2 ^ (at_ + i) = n ^^^ 2 ^ at_ * (mask % 2 ^ (i + 1)) := by
  have hlow : 2 ^ at_ * (mask % 2 ^ i) < 2 ^ (at_ + i) := by
    rw [Nat.pow_add]
    exact Nat.mul_lt_mul_of_pos_left (Nat.mod_lt _ (Nat.two_pow_pos i)) (Nat.two_pow_pos at_)
  have h1 := xor_low (at_ + i) 1 hlow
  rw [Nat.mul_one] at h1
  have h2 : mask % 2 ^ (i + 1) = mask % 2 ^ i + 2 ^ i := by
    rw [Nat.pow_succ, Nat.mod_mul, h, Nat.mul_one]
  rw [Nat.xor_assoc, h1, h2, Nat.mul_add, ← Nat.pow_add]
theorem mask_skip (mask i : Nat) (h : ¬ mask / 2 ^ i % 2 = 1) : mask % 2 ^ (i + 1) = mask % 2 ^ i := by
  have h0 : mask / 2 ^ i % 2 = 0 := by omega
  rw [Nat.pow_succ, Nat.mod_mul, h0, Nat.mul_zero, Nat.add_zero]
end Go.Proofs.YtfmaocinckeagaaDoor
