/-
  What package seal's Open comes to: the kind and the body of a frame, in new memory, or the refusal that the chapter's words tell. Conditions: the table reads as the program lays it, the bytes lie in memory.
-/
import Derived.Test.YtfmaocinckeagaaDoorFrame
import Derived.Laws.CopyOwn
namespace Go.Proofs.YtfmaocinckeagaaDoor
open Go.RowKit

/-- the byte at a place, as a number -/
def byteAt (l : List UInt8) (i : Nat) : Nat := (l.getD i 0).toNat
theorem byteAt_lt (l : List UInt8) (i : Nat) : byteAt l i < 256 := (l.getD i 0).toNat_lt
theorem byteAt_cell {w : World} {B b o c i : Nat} {l : List UInt8} (h : Rd w B (.slice (some ⟨b, o, none⟩) l.length c) l) (hi : i < l.length) : w.cell? ⟨b, o + i, none⟩ = some (.int .u8 (byteAt l i : Int)) := by
  obtain ⟨A0, c', he, h1, h2, h3, h4⟩ := h
  injection he with e1 _ e2
  subst e1
  obtain ⟨b', o', hA, hb, hc⟩ := h4 (fun e => by subst e; exact absurd hi (Nat.not_lt_zero _))
  injection hA with hA
  injection hA with e3 e4
  subst e3
  subst e4
  have := hc i _ (List.getElem?_eq_getElem hi)
  unfold byteAt
  rw [show l.getD i 0 = l[i] by simp [List.getD, hi]]
  exact this
theorem Rd.open {w : World} {B : Nat} {v : Value} {l : List UInt8} (h : Rd w B v l) (hl : 0 < l.length) : ∃ b o c, v = .slice (some ⟨b, o, none⟩) l.length c ∧ l.length ≤ c ∧ c ≤ maxLen ∧ b < B := by
  obtain ⟨A, c, rfl, h1, h2, h3, h4⟩ := h
  obtain ⟨b, o, rfl, hb, _⟩ := h4 (fun e => by subst e; exact absurd hl (Nat.lt_irrefl _))
  exact ⟨b, o, c, rfl, h1, h2, hb⟩

theorem bits_or_i64 (a b : Nat) (ha : a < 9223372036854775808) (hb : b < 9223372036854775808) : bits .or .i64 (a : Int) (b : Int) = ((a ||| b : Nat) : Int) := by
  have hx : a ||| b < 2 ^ 63 := Nat.or_lt_two_pow (by omega) (by omega)
  show IntKind.i64.wrap ((BitVec.ofInt 64 (a : Int) ||| BitVec.ofInt 64 (b : Int)).toNat : Int) = _
  rw [BitVec.toNat_or, ofInt_u64 a (by omega), ofInt_u64 b (by omega), IntKind.wrap_i64]
  omega
theorem or_apart (a b k : Nat) (h : a < 2 ^ k) : a ||| (2 ^ k * b) = a + 2 ^ k * b := by
  rw [Nat.or_comm, ← Nat.two_pow_add_eq_or_of_lt h, Nat.add_comm]

set_option maxHeartbeats 1000000 in
theorem length_any (l : List UInt8) (v : Value) (w : World) (hv : Rd w w.heap.size v l) (hl : 3 ≤ l.length) :
    Calls Tryd.prog 54 #[v] w fun e w' => e = .returned (.int .i64 ((byteAt l 1 + 256 * byteAt l 2 : Nat) : Int)) ∧ Below w.heap.size w w' := by
  obtain ⟨b, o, c, rfl, h1, h2, hb⟩ := hv.open (by omega)
  have hv' : Rd w.drew w.heap.size (.slice (some ⟨b, o, none⟩) l.length c) l := hv.keep (Nat.le_refl _) fun _ _ => rfl
  have c1 := byteAt_cell hv' (i := 1) (by omega)
  have c2 := byteAt_cell hv' (i := 2) (by omega)
  have l1 : (1 : Int) < (l.length : Int) := by omega
  have l2 : (2 : Int) < (l.length : Int) := by omega
  have b1 := byteAt_lt l 1
  have b2 := byteAt_lt l 2
  have hor : bits .or .i64 ((byteAt l 1 : Nat) : Int) ((byteAt l 2 : Nat) * 256 : Int) = ((byteAt l 1 + 256 * byteAt l 2 : Nat) : Int) := by
    rw [show ((byteAt l 2 : Nat) * 256 : Int) = ((2 ^ 8 * byteAt l 2 : Nat) : Int) by omega, bits_or_i64 _ _ (by omega) (by omega), or_apart _ _ _ (by omega)]
  obtain ⟨x, hx⟩ : ∃ x, x = byteAt l 1 := ⟨_, rfl⟩
  obtain ⟨y, hy⟩ : ∃ y, y = byteAt l 2 := ⟨_, rfl⟩
  obtain ⟨z, hz⟩ : ∃ z, z = byteAt l 1 + 256 * byteAt l 2 := ⟨_, rfl⟩
  rw [← hz] at hor ⊢
  rw [← hx] at c1 b1 hor
  rw [← hy] at c2 b2 hor
  clear hx hy hz hv hv'
  go_enter Tryd.func54, Tryd.ntmps54
  go_wp2_with fail
  go_region
  all_goals go_wp2_with fail
  all_goals go_ret
  all_goals exact ⟨rfl, (Below.refl _ _).drew⟩

theorem bits_or_u32 (a b : Nat) (ha : a < 4294967296) (hb : b < 4294967296) : bits .or .u32 (a : Int) (b : Int) = ((a ||| b : Nat) : Int) := by
  have hx : a ||| b < 2 ^ 32 := Nat.or_lt_two_pow (by omega) (by omega)
  show IntKind.u32.wrap ((BitVec.ofInt 32 (a : Int) ||| BitVec.ofInt 32 (b : Int)).toNat : Int) = _
  rw [BitVec.toNat_or, ofInt_u32 a ha, ofInt_u32 b hb, IntKind.wrap_u32']
  omega

/-- four bytes as one number -/
def fourAt (l : List UInt8) : Nat := byteAt l 0 + 256 * byteAt l 1 + 65536 * byteAt l 2 + 16777216 * byteAt l 3
def fourTill (l : List UInt8) (j : Nat) : Nat := if j = 0 then 0 else if j = 1 then byteAt l 0 else if j = 2 then byteAt l 0 + 256 * byteAt l 1 else if j = 3 then byteAt l 0 + 256 * byteAt l 1 + 65536 * byteAt l 2 else fourAt l

theorem four0 (l : List UInt8) : bits .or .u32 ((fourTill l 0 : Nat) : Int) ((byteAt l 0 : Nat) : Int) = ((fourTill l 1 : Nat) : Int) := by
  have b0 := byteAt_lt l 0
  rw [bits_or_u32 _ _ (by show (0 : Nat) < _; omega) (by omega)]
  show ((0 ||| byteAt l 0 : Nat) : Int) = _
  rw [Nat.zero_or]
  rfl
theorem four1 (l : List UInt8) : bits .or .u32 ((fourTill l 1 : Nat) : Int) (((byteAt l 1 : Nat) : Int) * 256) = ((fourTill l 2 : Nat) : Int) := by
  have b0 := byteAt_lt l 0
  have b1 := byteAt_lt l 1
  rw [show ((byteAt l 1 : Nat) * 256 : Int) = ((2 ^ 8 * byteAt l 1 : Nat) : Int) by omega]
  show bits .or .u32 ((byteAt l 0 : Nat) : Int) _ = ((byteAt l 0 + 256 * byteAt l 1 : Nat) : Int)
  rw [bits_or_u32 _ _ (by omega) (by omega), or_apart _ _ _ (by omega)]
theorem four2 (l : List UInt8) : bits .or .u32 ((fourTill l 2 : Nat) : Int) (((byteAt l 2 : Nat) : Int) * 65536) = ((fourTill l 3 : Nat) : Int) := by
  have b0 := byteAt_lt l 0
  have b1 := byteAt_lt l 1
  have b2 := byteAt_lt l 2
  rw [show ((byteAt l 2 : Nat) * 65536 : Int) = ((2 ^ 16 * byteAt l 2 : Nat) : Int) by omega]
  show bits .or .u32 ((byteAt l 0 + 256 * byteAt l 1 : Nat) : Int) _ = ((byteAt l 0 + 256 * byteAt l 1 + 65536 * byteAt l 2 : Nat) : Int)
  rw [bits_or_u32 _ _ (by omega) (by omega), or_apart _ _ _ (by omega)]
theorem four3 (l : List UInt8) : bits .or .u32 ((fourTill l 3 : Nat) : Int) (((byteAt l 3 : Nat) : Int) * 16777216) = ((fourTill l 4 : Nat) : Int) := by
  have b0 := byteAt_lt l 0
  have b1 := byteAt_lt l 1
  have b2 := byteAt_lt l 2
  have b3 := byteAt_lt l 3
  rw [show ((byteAt l 3 : Nat) * 16777216 : Int) = ((2 ^ 24 * byteAt l 3 : Nat) : Int) by omega]
  show bits .or .u32 ((byteAt l 0 + 256 * byteAt l 1 + 65536 * byteAt l 2 : Nat) : Int) _ = ((byteAt l 0 + 256 * byteAt l 1 + 65536 * byteAt l 2 + 16777216 * byteAt l 3 : Nat) : Int)
  rw [bits_or_u32 _ _ (by omega) (by omega), or_apart _ _ _ (by omega)]

set_option maxHeartbeats 1000000 in
theorem sumIn_any (l : List UInt8) (v : Value) (w : World) (hv : Rd w w.heap.size v l) (hl : 4 = l.length) :
    Calls Tryd.prog 55 #[v] w fun e w' => e = .returned (.int .u32 ((fourAt l : Nat) : Int)) ∧ w = w' := by
  obtain ⟨b, o, c, rfl, h1, h2, hb⟩ := hv.open (by omega)
  have c0 := byteAt_cell hv (i := 0) (by omega)
  have c1 := byteAt_cell hv (i := 1) (by omega)
  have c2 := byteAt_cell hv (i := 2) (by omega)
  have c3 := byteAt_cell hv (i := 3) (by omega)
  rw [Nat.add_zero] at c0
  rw [← hl] at h1 ⊢
  clear hl hv
  have b0 := byteAt_lt l 0
  have b1 := byteAt_lt l 1
  have b2 := byteAt_lt l 2
  have b3 := byteAt_lt l 3
  go_enter Tryd.func55, Tryd.ntmps55
  go_wp2_with fail
  go_loop [3, 5] (fun s i => ∃ j : Nat, s = .int .u32 ((fourTill l j : Nat) : Int) ∧ i = .int .i64 j ∧ j ≤ 4) (fun _ i => 4 - (intOf i).toNat)
  case atStart => exact ⟨0, rfl, rfl, by omega⟩
  case round =>
    obtain ⟨j, rfl, rfl, hj⟩ := hrel
    have hcase : j = 0 ∨ j = 1 ∨ j = 2 ∨ j = 3 ∨ j = 4 := by omega
    rcases hcase with rfl | rfl | rfl | rfl | rfl
    all_goals go_wp2_with fail
    · exact ⟨⟨1, congrArg (Value.int .u32) (four0 l), rfl, by omega⟩, by simp [intOf]⟩
    · exact ⟨⟨2, congrArg (Value.int .u32) (four1 l), rfl, by omega⟩, by simp [intOf]⟩
    · exact ⟨⟨3, congrArg (Value.int .u32) (four2 l), rfl, by omega⟩, by simp [intOf]⟩
    · exact ⟨⟨4, congrArg (Value.int .u32) (four3 l), rfl, by omega⟩, by simp [intOf]⟩
    · go_ret
      exact ⟨rfl, rfl⟩

theorem elem_bytes : Tryd.prog.underlying 27 = some (.slice (Tryd.prog.elem 27)) := by kernel_rfl
theorem size_bytes (W : World) : (sizeOf (Tryd.prog.elem 27)).run Tryd.prog W = .ok 1 W := by kernel_rfl
theorem slice_till (W : World) (a : Option Addr) (len c : Nat) (h : Int) (k : Nat) (hk : h = (k : Int)) (hc : k ≤ c) :
    (Instr.slice 27 (.slice a len c) none (some (.int .i64 h)) none).run Tryd.prog W = .ok (.slice a k c) W := by
  subst hk
  rw [run_slice_h _ _ _ _ _ elem_bytes .i64 (k : Int) (by omega) (by omega), size_bytes]
  simp only [Result.andThen, sliced, Int.toNat_natCast, Nat.sub_zero, Nat.zero_mul]
  split
  · rfl
  · cases a <;> simp [Addr.add]
theorem slice_from (W : World) (b o len c : Nat) (h : Int) (k : Nat) (hk : h = (k : Int)) (hl : k ≤ len) (hc : k < c) :
    (Instr.slice 27 (.slice (some ⟨b, o, none⟩) len c) (some (.int .i64 h)) none none).run Tryd.prog W = .ok (.slice (some ⟨b, o + k, none⟩) (len - k) (c - k)) W := by
  subst hk
  rw [run_slice_l _ _ _ _ _ elem_bytes .i64 (k : Int) (by omega) (by omega), size_bytes]
  simp only [Result.andThen, sliced, Int.toNat_natCast, Nat.mul_one]
  rw [if_neg (by omega)]
  simp [plus_zero]

theorem u8_one : (Tryd.prog.info? 5).map (·.size) = some 1 := by kernel_rfl
theorem run_copy_all {w w0 : World} {B G n m cc : Nat} (ty : TypeId) (Z : Array Value) (ad : Addr) (l : List UInt8) (hg : w.heap[G]? = some (.cells Z 5 (0, 0))) (hZ : Z.size = n) (hl : l.length = n) (hm : n ≤ m)
    (hsrc : ∀ j u, (BS l)[j]? = some u → w.cell? (ad.add j) = some u) (hb : Below B w0 w) (hG : B ≤ G) :
    ∃ w', (Builtin.copy_ #[27, 27] ty #[.slice (some ⟨G, 0, none⟩) n n, .slice (some ad) m cc]).run Tryd.prog w = .ok (goInt n) w' ∧ w'.heap[G]? = some (.cells (BS l).toArray 5 (0, 0)) ∧ Below B w0 w' := by
  have h := run_copy_row (P := Tryd.prog) w 27 27 ty 5 G 0 n n ad m cc Z 5 (BS l) Tryd.underlying27 u8_one hg (by rw [BS_length, hl]; exact (Nat.min_eq_right hm).symm) hsrc (by rw [BS_length]; omega) (BS_one l)
  have e : (Z.toList.take 0 ++ BS l ++ Z.toList.drop (0 + (BS l).length)) = BS l := by
    rw [List.take_zero, List.nil_append, List.drop_eq_nil_of_le (by rw [BS_length, Array.length_toList]; omega), List.append_nil]
  rw [e, BS_length, hl] at h
  exact ⟨_, h, setRow_heap w G _ _ _ _ hg, below_setRow hb hG _⟩

/-- has it a frame's form -/
def formOf (b : List UInt8) : Bool := decide (7 ≤ b.length) && decide (b.length ≤ 8199) && decide (b.length - 7 = byteAt b 1 + 256 * byteAt b 2)
/-- is its sum right -/
def summed (b : List UInt8) : Bool := decide (sumN 0 (b.take (b.length - 4)) = fourAt (b.drop (b.length - 4)))
def bodyOf (b : List UInt8) : List UInt8 := (b.drop 3).take (b.length - 7)
/-- what Open tells: an error's number, a kind, a body -/
def openedOf (b : List UInt8) : Int × UInt8 × List UInt8 := if formOf b then (if summed b then (0, b.getD 0 0, bodyOf b) else (30, 0, [])) else (4, 0, [])
/-- the post of both Opens -/
def OpenedPost (w : World) (b : List UInt8) (e : Ending) (w' : World) : Prop :=
  ∃ v n, e = .returned (.tuple #[.int .u8 ((openedOf b).2.1.toNat : Int), v, .int .i64 (openedOf b).1]) ∧ w'.ownsRow w.heap.size 5 1 v n (BS (openedOf b).2.2) ∧ Below w.heap.size w w'
theorem OpenedPost.no {w w' : World} {b : List UInt8} {e : Ending} (h : Hid (openedOf b = (4, 0, []))) (he : e = .returned (.tuple #[.int .u8 0, .slice none 0 0, .int .i64 4])) (hb : Below w.heap.size w w') : OpenedPost w b e w' :=
  ⟨.slice none 0 0, 0, by rw [h.out]; exact he, by rw [h.out]; exact World.ownsRow_nil _ _ _ _, hb⟩
theorem OpenedPost.sum {w w' : World} {b : List UInt8} {e : Ending} (h : Hid (openedOf b = (30, 0, []))) (he : e = .returned (.tuple #[.int .u8 0, .slice none 0 0, .int .i64 30])) (hb : Below w.heap.size w w') : OpenedPost w b e w' :=
  ⟨.slice none 0 0, 0, by rw [h.out]; exact he, by rw [h.out]; exact World.ownsRow_nil _ _ _ _, hb⟩
theorem OpenedPost.yes {w w' : World} {b : List UInt8} {e : Ending} {v : Value} {n : Nat} (h : Hid (openedOf b = (0, b.getD 0 0, bodyOf b))) (he : e = .returned (.tuple #[.int .u8 (byteAt b 0 : Int), v, .int .i64 0]))
    (ho : w'.ownsRow w.heap.size 5 1 v n (BS (bodyOf b))) (hb : Below w.heap.size w w') : OpenedPost w b e w' :=
  ⟨v, n, by rw [h.out]; exact he, by rw [h.out]; exact ho, hb⟩

set_option maxHeartbeats 2000000 in
set_option maxRecDepth 100000 in
theorem open_any (l : List UInt8) (v : Value) (w : World) (ht : Tab w) (hv : Rd w w.heap.size v l) (hl : l.length ≤ 140737488355328) :
    Calls Tryd.prog 35 #[v] w (OpenedPost w l) := by
  have HV := Lib.hid hv
  by_cases h7 : 7 ≤ l.length
  · by_cases hbig : l.length ≤ 8199
    · obtain ⟨b, o, c, rfl, h1, h2, hb⟩ := hv.open (by omega)
      clear hv
      obtain ⟨n, hn⟩ : ∃ n, l.length = n + 7 := ⟨l.length - 7, by omega⟩
      have t1 : ¬ ((n : Int) < 0) := by omega
      have t2 : ¬ (8192 : Int) < (n : Int) := by omega
      have tn : ((n : Int) + 7 - 3 - 4) = (n : Int) := by omega
      have hc7 : n + 7 ≤ c := by omega
      have hlen := length_any l _ w HV.out (by omega)
      rw [hn] at HV hlen ⊢
      have HN := Lib.hid hn
      clear hn h1 hl h7 hbig
      go_enter Tryd.func35, Tryd.ntmps35
      go_wp2_with fail
      refine hlen.mono ?_
      rintro e w1 ⟨rfl, hb1⟩
      clear hlen
      by_cases hd : n = byteAt l 1 + 256 * byteAt l 2
      · have hform : formOf l = true := by
          unfold formOf
          rw [HN.out]
          simp
          omega
        have hneq : ((n : Int) != ((byteAt l 1 + 256 * byteAt l 2 : Nat) : Int)) = false := by simp; omega
        have HF := Lib.hid hform
        clear hd hform
        obtain ⟨z, hz⟩ : ∃ z, z = byteAt l 1 + 256 * byteAt l 2 := ⟨_, rfl⟩
        rw [← hz] at hneq ⊢
        clear hz
        go_wp2_with fail
        have g1 : (3 + (n : Int)).toNat = 3 + n := by omega
        have g2 : ¬ c = 3 + n := by omega
        have g3 : (0 : Int) ≤ 3 + (n : Int) := by omega
        have g4 : (3 + (n : Int)) ≤ (c : Int) := by omega
        have g5 : (3 + (n : Int)) ≤ (n : Int) + 7 := by omega
        have g6 : n + 7 - (3 + n) = 4 := by omega
        have g7 : ¬ c = 0 := by omega
        have g8 : IntKind.i64.wrap (3 + (n : Int)) = 3 + (n : Int) := by rw [IntKind.wrap_i64]; omega
        have rt := Rd.takeAny (HN.out ▸ HV.out : Rd w w.heap.size (.slice (some ⟨b, o, none⟩) l.length c) l) (n := 3 + n) (by rw [HN.out]; omega)
        have rd := Rd.cut (HN.out ▸ HV.out : Rd w w.heap.size (.slice (some ⟨b, o, none⟩) l.length c) l) (k := 3 + n) (by rw [HN.out]; omega) (by rw [HN.out]; omega) _ (.inl rfl)
        rw [HN.out, g6] at rd
        have hs1 : ∀ W, (Instr.slice 27 (.slice (some ⟨b, o, none⟩) (n + 7) c) none (some (.int .i64 (3 + (n : Int)))) none).run Tryd.prog W = .ok (.slice (some ⟨b, o, none⟩) (3 + n) c) W := fun W => slice_till W _ _ _ _ _ (by omega) (by omega)
        have hs2 : ∀ W, (Instr.slice 27 (.slice (some ⟨b, o, none⟩) (n + 7) c) (some (.int .i64 (3 + (n : Int)))) none none).run Tryd.prog W = .ok (.slice (some ⟨b, o + (3 + n), none⟩) 4 (c - (3 + n))) W := fun W => (slice_from W b o (n + 7) c _ (3 + n) (by omega) (by omega) (by omega)).trans (by rw [g6])
        have c1 : ∀ W, Below w.heap.size w W → _ := fun W hW => sum_any (l.take (3 + n)) _ W (ht.below hW ht.1) (rt.below hW hW.size) (by rw [List.length_take, HN.out]; omega)
        have c2 : ∀ W, Below w.heap.size w W → _ := fun W hW => sumIn_any (l.drop (3 + n)) _ W (rd.below hW hW.size) (by rw [List.length_drop, HN.out]; omega)
        go_region_with (first
          | (go_at_call 53; go_must (refine (c1 _ hb1.drew).mono ?_; rintro e wy ⟨rfl, hby⟩; have hb2 := hb1.drew.trans (hby.mono hb1.size)))
          | (go_at_call 55; go_must (first | refine (c2 _ hb1.drew).mono ?_ | refine (c2 _ hb2).mono ?_); rintro e wz ⟨rfl, rfl⟩))
        all_goals
          have hlim : l.length - 4 = 3 + n := by rw [HN.out]; omega
          clear c1 c2 hs1 hs2 rt rd g1 g2 g3 g4 g5 g6 g8
          by_cases hsum : sumN 0 (l.take (3 + n)) = fourAt (l.drop (3 + n))
          · have hsm : summed l = true := by unfold summed; rw [hlim]; exact decide_eq_true hsum
            have hop : openedOf l = (0, l.getD 0 0, bodyOf l) := by unfold openedOf; rw [HF.out, hsm]; rfl
            have hneq2 : (((sumN 0 (l.take (3 + n)) : Nat) : Int) != ((fourAt (l.drop (3 + n)) : Nat) : Int)) = false := by rw [hsum]; simp
            have HO := Lib.hid hop
            clear hsum hsm hop hlim
            obtain ⟨x1, hx1⟩ : ∃ x1, x1 = sumN 0 (l.take (3 + n)) := ⟨_, rfl⟩
            obtain ⟨x2, hx2⟩ : ∃ x2, x2 = fourAt (l.drop (3 + n)) := ⟨_, rfl⟩
            rw [← hx1, ← hx2] at hneq2 ⊢
            clear hx1 hx2
            obtain ⟨i0, hi, hz0, hz1, hz2⟩ := info_parts info_u8
            have hbody : (bodyOf l).length = n := by unfold bodyOf; rw [List.length_take, List.length_drop, HN.out]; omega
            have hmk := run_make (P := Tryd.prog) wy 27 5 i0 _ Tryd.underlying27 hi hz0 .i64 .i64 (n : Int) (n : Int) (by omega) (Int.le_refl _) (by rw [hz2]; omega) (by omega)
            rw [hz1, Int.toNat_natCast, Nat.mul_one] at hmk
            have hnew := heap_alloc_new wy (.cells (madeCells (Value.int .u8 0).cells n) 5 (0, 0))
            have hb3 : Below w.heap.size w (wy.alloc (.cells (madeCells (Value.int .u8 0).cells n) 5 (0, 0))) := hb2.alloc hb2.size _
            have hmsz := size_madeCells (Value.int .u8 0).cells n
            obtain ⟨G, hG⟩ : ∃ G, G = wy.heap.size := ⟨_, rfl⟩
            have hGB : w.heap.size ≤ G := by rw [hG]; exact hb2.size
            rw [← hG] at hnew hmk
            obtain ⟨w3, hw3⟩ : ∃ w3, w3 = wy.alloc (.cells (madeCells (Value.int .u8 0).cells n) 5 (0, 0)) := ⟨_, rfl⟩
            rw [← hw3] at hnew hmk hb3
            obtain ⟨Z, hZ⟩ : ∃ Z, Z = madeCells (Value.int .u8 0).cells n := ⟨_, rfl⟩
            rw [← hZ] at hnew hmsz
            clear hZ hw3 hG
            have hs3 : ∀ W, (Instr.slice 27 (.slice (some ⟨b, o, none⟩) (n + 7) c) (some (.int .i64 3)) none none).run Tryd.prog W = .ok (.slice (some ⟨b, o + 3, none⟩) (n + 4) (c - 3)) W := fun W => (slice_from W b o (n + 7) c _ 3 rfl (by omega) (by omega)).trans (by rw [show n + 7 - 3 = n + 4 by omega])
            have hwide : Rd w w.heap.size (.slice (some ⟨b, o, none⟩) l.length c) l := HN.out ▸ HV.out
            have hsrc : ∀ j u, (BS (bodyOf l))[j]? = some u → w3.cell? ((⟨b, o + 3, none⟩ : Addr).add j) = some u := by
              intro j u hu
              obtain ⟨y, hy, rfl⟩ := BS_get hu
              obtain ⟨A0, c0, he, _, _, _, h4⟩ := hwide
              injection he with e1 _ e2
              subst e1
              obtain ⟨b', o', hA, _, hc⟩ := h4 (fun e => by have := HN.out; rw [e] at this; simp at this)
              injection hA with hA
              injection hA with e3 e4
              subst e3
              subst e4
              unfold bodyOf at hy
              rw [List.getElem?_take] at hy
              split at hy
              · rw [List.getElem?_drop] at hy
                rw [plus_zero, Nat.add_assoc]
                exact (hb3.cell (p := ⟨b, o + (3 + j), none⟩) hb).trans (hc _ _ hy)
              · cases hy
            have hc0 : w.cell? ⟨b, o, none⟩ = some (.int .u8 (byteAt l 0 : Int)) := byteAt_cell hwide (i := 0) (by rw [HN.out]; omega)
            obtain ⟨w4, hcp, hg4, hb4⟩ := run_copy_all (m := n + 4) (cc := c - 3) 3 Z _ (bodyOf l) hnew hmsz hbody (by omega) hsrc hb3 hGB
            have hc4 : w4.cell? ⟨b, o, none⟩ = some (.int .u8 (byteAt l 0 : Int)) := (hb4.cell (p := ⟨b, o, none⟩) hb).trans hc0
            have HG4 := Lib.hid hg4
            clear hsrc hnew hwide hc0 hg4
            go_wp2_with fail
            go_ret3
            exact OpenedPost.yes HO rfl (n := n) ⟨by rw [BS_length, hbody]; omega, .inr ⟨G, n, _, rfl, hGB, HG4.out, Nat.le_refl _, by unfold maxLen; omega, by simp [BS_length, hbody], by rw [List.toList_toArray]; exact List.take_of_length_le (by rw [BS_length, hbody]; omega)⟩⟩ hb4
          · have hsm : summed l = false := by unfold summed; rw [hlim]; exact decide_eq_false hsum
            have hop : openedOf l = (30, 0, []) := by unfold openedOf; rw [HF.out, hsm]; rfl
            have hneq2 : (((sumN 0 (l.take (3 + n)) : Nat) : Int) != ((fourAt (l.drop (3 + n)) : Nat) : Int)) = true := by simp; omega
            have HO := Lib.hid hop
            clear hsum hsm hop hlim
            obtain ⟨x1, hx1⟩ : ∃ x1, x1 = sumN 0 (l.take (3 + n)) := ⟨_, rfl⟩
            obtain ⟨x2, hx2⟩ : ∃ x2, x2 = fourAt (l.drop (3 + n)) := ⟨_, rfl⟩
            rw [← hx1, ← hx2] at hneq2 ⊢
            clear hx1 hx2
            go_wp2_with fail
            go_ret3
            exact OpenedPost.sum HO rfl hb2
      · have hform : formOf l = false := by
          unfold formOf
          rw [HN.out]
          simp
          omega
        have hop : openedOf l = (4, 0, []) := by unfold openedOf; rw [hform]; rfl
        have hneq : ((n : Int) != ((byteAt l 1 + 256 * byteAt l 2 : Nat) : Int)) = true := by simp; omega
        have HO := Lib.hid hop
        clear hd hform hop
        obtain ⟨z, hz⟩ : ∃ z, z = byteAt l 1 + 256 * byteAt l 2 := ⟨_, rfl⟩
        rw [← hz] at hneq ⊢
        clear hz
        go_wp2_with fail
        go_ret3
        exact OpenedPost.no HO rfl hb1
    · have hbig2 : (8192 : Int) < (l.length : Int) - 3 - 4 := by omega
      have hbig3 : ¬ ((l.length : Int) - 3 - 4 < 0) := by omega
      have hop : openedOf l = (4, 0, []) := by
        unfold openedOf formOf
        rw [decide_eq_false hbig]
        simp
      have HO := Lib.hid hop
      obtain ⟨A, c, rfl, -⟩ := hv
      clear hop
      go_enter Tryd.func35, Tryd.ntmps35
      go_wp2_with fail
      go_ret3
      exact OpenedPost.no HO rfl (Below.refl _ _)
  · have hbig2 : (l.length : Int) - 3 - 4 < 0 := by omega
    have hop : openedOf l = (4, 0, []) := by
      unfold openedOf formOf
      rw [decide_eq_false h7]
      rfl
    have HO := Lib.hid hop
    obtain ⟨A, c, rfl, -⟩ := hv
    clear hop
    go_enter Tryd.func35, Tryd.ntmps35
    go_wp2_with fail
    go_ret3
    exact OpenedPost.no HO rfl (Below.refl _ _)
end Go.Proofs.YtfmaocinckeagaaDoor
