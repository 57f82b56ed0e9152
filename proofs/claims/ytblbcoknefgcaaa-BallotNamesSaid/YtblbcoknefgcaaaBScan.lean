/-
  Lists of numbers that are gone through: the program's, and the document's. No statement is proved here. No condition.
-/
import Derived.Test.YtblbcoknefgcaaaBCmp
namespace Go.Proofs.Ytblbcoknefgcaaa
open Go.RowKit

theorem in_cell {w : World} {N : Nat → Prop} {A : Option Addr} {c : Nat} {l : List Int} (h : inR.N w N (.slice A l.length c) l) {i : Nat} {x : Int} (hx : l[i]? = some x) : ∃ g o, A = some ⟨g, o, none⟩ ∧ w.cell? ⟨g, o + i, none⟩ = some (.int .i64 x) := by
  obtain ⟨g1, o1, n1, k1, hv, -, hg1, hc1⟩ := h.cell hx
  injection hv with v1 v2 v3
  exact ⟨g1, o1, v1, by simpa [inR] using hc1 0 _ rfl⟩
theorem drewB {B : Nat} {w0 w : World} (n : Nat) (h : Below B w0 w) : Below B w0 (w.drewN n) := h.trans ⟨rfl, rfl, rfl, Nat.le_refl _, fun _ _ => rfl⟩
theorem info_parts {P : Program} {T : TypeId} {z : Value} {s b : Nat} (h : (P.info? T).map (fun i => (i.zero, i.size, i.bytes)) = some (some z, s, b)) : ∃ i, P.info? T = some i ∧ i.zero = some z ∧ i.size = s ∧ i.bytes = b := by
  cases hi : P.info? T with
  | none => rw [hi] at h; cases h
  | some i =>
    rw [hi] at h
    injection h with h
    injection h with h1 h2
    injection h2 with h2 h3
    exact ⟨i, rfl, h1, h2, h3⟩
theorem info_cint : (Try.prog.info? 3).map (fun i => (i.zero, i.size, i.bytes)) = some (some (.int .i64 0), 1, 8) := by kernel_rfl
/-- one number more in a row of one's own, appended as a literal of one -/
theorem push_int {w : World} {B : Nat} {A : Option Addr} {c : Nat} {l : List Int} (h : inR.Own w B 3 (.slice A l.length c) l) (x : Int) (hl : l.length ≤ 100000) (hB : B ≤ w.heap.size) :
    ∃ A7 c7 w7, (Builtin.append_ #[32, 32] 32 #[.slice A l.length c, .slice (some ⟨w.heap.size, 0, none⟩) 1 1]).run Try.prog (w.alloc (.cells #[.int .i64 x] 3)) = .ok (.slice A7 (l.length + 1) c7) w7 ∧
      inR.Own w7 B 3 (.slice A7 (l.length + 1) c7) (l ++ [x]) ∧ Below B w w7 ∧ (∀ b, b < w.heap.size → (Value.slice A l.length c).ownBlock ≠ some b → w7.heap[b]? = w.heap[b]?) ∧ w.heap.size ≤ w7.heap.size := by
  obtain ⟨ie, hie, z0, z1, z2⟩ := info_parts info_cint
  have hb1 : Below w.heap.size w (w.alloc (.cells #[.int .i64 x] 3)) := (Below.refl _ _).alloc (Nat.le_refl _) _
  have hx1 : inR.N (w.alloc (.cells #[.int .i64 x] 3)) Any (.slice (some ⟨w.heap.size, 0, none⟩) 1 1) [x] := Rec.one_row (R := inR) (N := Any) (a := x) (heap_alloc_new w _) trivial
  obtain ⟨v7, w7, hrun, ho, hg, hat⟩ := Rec.app (P := Try.prog) (t := 32) Try.underlying32 hie z0 z1 z2 rfl (by decide) (h.below hb1) hx1 (by unfold maxLen; simp; omega) (by simp; omega) (Nat.le_trans hB hb1.size)
  obtain ⟨A7, c7, hv7⟩ := ho.slice
  have hlen : (l ++ [x]).length = l.length + 1 := by simp
  rw [hlen] at hv7
  subst hv7
  have hk : ∀ b, b < (w.alloc (.cells #[.int .i64 x] 3)).heap.size → (Value.slice A l.length c).ownBlock ≠ some b → w7.heap[b]? = (w.alloc (.cells #[.int .i64 x] 3)).heap[b]? := fun b hb hn => hg.block b hb fun e => hn e.symm
  exact ⟨A7, c7, w7, hrun, ho, (Joins.below_le hb1 hB).grown hg (Nat.le_trans hB hb1.size) fun p hp => (h.lt p hp).1, fun b hb hn => (hk b (Nat.lt_of_lt_of_le hb hb1.size) hn).trans (hb1.block b hb), Nat.le_trans hb1.size hg.size⟩
theorem store_any (n : Int) (w : World) : Calls Try.prog 66 #[.int .i64 n] w fun e w' => e = .returned (.bool (isS n)) ∧ w = w' := by
  obtain ⟨g, hg⟩ : ∃ g, g = isS n := ⟨_, rfl⟩
  have HG := Lib.hid hg
  rw [← hg]
  clear hg
  go_enter Try.func66, Try.ntmps66
  go_wp2_with fail
  all_goals
    go_ret
    refine ⟨?_, rfl⟩
    rw [HG.out]
    refine congrArg (fun b => Ending.returned (Value.bool b)) ?_
    rw [Bool.eq_iff_iff]
    simp [isS] at *
    try omega
/-- is a number in a list -/
def hasI (l : List Int) (x : Int) : Bool := l.contains x
theorem mem_take_snoc {l : List Int} {i : Nat} {x y : Int} (hy : l[i]? = some y) (h : hasI (l.take i) x = false) (hne : (y == x) = false) : hasI (l.take (i + 1)) x = false := by
  unfold hasI at *
  rw [take_snoc hy]
  simp only [List.contains_eq_mem, decide_eq_false_iff_not, List.mem_append, List.mem_singleton, not_or, beq_eq_false_iff_ne] at *
  exact ⟨h, fun e => hne e.symm⟩
set_option maxHeartbeats 1000000 in
theorem hasR_any (l : List Int) (a : Value) (x : Int) (w : World) (ha : inR.N w Any a l) :
    Calls Try.prog 78 #[a, .int .i64 x] w fun e w' => e = .returned (.bool (hasI l x)) ∧ w = w' := by
  obtain ⟨A, c, rfl, hlc, hcm⟩ := ha.slice
  have hl : l.length ≤ maxLen := Nat.le_trans hlc hcm
  unfold maxLen at hl
  have HA := Lib.hid ha
  clear ha hlc hcm
  go_enter Try.func78, Try.ntmps78
  go_wp2_with fail
  go_loop [5] (fun s5 => ∃ i : Nat, s5 = .int .i64 (i : Int) ∧ i ≤ l.length ∧ Hid (hasI (l.take i) x = false)) (fun s5 => l.length - (intOf s5).toNat)
  case atStart => exact ⟨0, rfl, Nat.zero_le _, Lib.hid (by simp [hasI])⟩
  case round =>
    obtain ⟨i, rfl, hi, hs⟩ := hrel
    by_cases hil : i < l.length
    · have a1 : (i : Int) < (l.length : Int) := by omega
      have a0 : (0 : Int) ≤ (i : Int) := by omega
      obtain ⟨y, hy⟩ : ∃ y, l[i]? = some y := ⟨_, List.getElem?_eq_getElem hil⟩
      obtain ⟨g, o, rfl, y0⟩ := in_cell HA.out hy
      have HX := Lib.hid hy
      clear hy
      cases hq : (y == x)
      · have hq2 : ¬ y = x := by simpa using hq
        have HF := Lib.hid (mem_take_snoc HX.out hs.out hq)
        clear hs
        go_wp2_with fail
        go_round
        case rel => exact ⟨i + 1, by go_num, by omega, HF⟩
        case measure => simp [intOf]; omega
      · have HF : Hid (hasI l x = true) := Lib.hid (by
          unfold hasI
          have e : y = x := by simpa using hq
          rw [List.contains_eq_mem, ← e]
          simpa using List.mem_of_getElem? HX.out)
        have hq2 : y = x := by simpa using hq
        go_wp2_with fail
        go_ret
        exact ⟨by rw [HF.out] <;> rfl, rfl⟩
    · have a1 : ¬ (i : Int) < (l.length : Int) := by omega
      have HF : Hid (hasI l x = false) := Lib.hid (by have := hs.out; rwa [List.take_of_length_le (by omega)] at this)
      go_wp2_with fail
      go_ret
      exact ⟨by rw [HF.out] <;> rfl, rfl⟩
set_option maxHeartbeats 1000000 in
theorem check_any (l : List Int) (a : Value) (w : World) (ha : inR.N w Any a l) :
    Calls Try.prog 30 #[a] w fun e w' => e = .returned (.bool (chk l)) ∧ w = w' := by
  obtain ⟨A, c, rfl, hlc, hcm⟩ := ha.slice
  have hl : l.length ≤ maxLen := Nat.le_trans hlc hcm
  unfold maxLen at hl
  have HA := Lib.hid ha
  clear ha hlc hcm
  go_enter Try.func30, Try.ntmps30
  go_wp2_with fail
  go_loop [3, 5, 8] (fun s3 s5 s8 => ∃ (i : Nat) (t : Int), s8 = .int .i64 (i : Int) ∧ s3 = .int .i64 t ∧ i ≤ l.length ∧ Hid (t = lastI 0 (l.take i) ∧ rise 0 (l.take i) = true)) (fun _ _ s8 => l.length - (intOf s8).toNat)
  case atStart => exact ⟨0, 0, rfl, rfl, Nat.zero_le _, Lib.hid ⟨rfl, rfl⟩⟩
  case round =>
    obtain ⟨i, t, rfl, rfl, hi, hs⟩ := hrel
    by_cases hil : i < l.length
    · have a1 : (i : Int) < (l.length : Int) := by omega
      have a0 : (0 : Int) ≤ (i : Int) := by omega
      obtain ⟨x, hx⟩ : ∃ x, l[i]? = some x := ⟨_, List.getElem?_eq_getElem hil⟩
      obtain ⟨g, o, rfl, y0⟩ := in_cell HA.out hx
      have HX := Lib.hid hx
      clear hx
      by_cases h1 : x ≤ t
      · have HF : Hid (chk l = false) := Lib.hid (by
          unfold chk
          rw [rise_stop HX.out (by rw [← hs.out.1, show decide (t < x) = false by simpa using h1]; rfl), Bool.and_false])
        go_wp2_with fail
        go_ret
        exact ⟨by rw [HF.out] <;> rfl, rfl⟩
      · go_wp2_with fail
        refine (store_any _ _).mono ?_
        rintro e w' ⟨rfl, rfl⟩
        cases h2 : isS x
        · have HF : Hid (chk l = false) := Lib.hid (by
            unfold chk
            rw [rise_stop HX.out (by rw [h2, Bool.and_false]), Bool.and_false])
          clear h2
          go_wp2_with fail
          go_ret
          exact ⟨by rw [HF.out] <;> rfl, rfl⟩
        · have HF : Hid (x = lastI 0 (l.take (i + 1)) ∧ rise 0 (l.take (i + 1)) = true) := Lib.hid (by
            rw [take_snoc HX.out, lastI_snoc, rise_snoc, hs.out.2, ← hs.out.1, h2, show decide (t < x) = true by simpa using h1]
            exact ⟨rfl, rfl⟩)
          clear h2 hs
          go_wp2_with fail
          go_round
          case rel => exact ⟨i + 1, x, by go_num, rfl, by omega, HF⟩
          case measure => simp [intOf]; omega
    · have a1 : ¬ (i : Int) < (l.length : Int) := by omega
      have HF : Hid (chk l = decide (0 < l.length)) := Lib.hid (by
        have := hs.out.2
        rw [List.take_of_length_le (by omega)] at this
        unfold chk
        rw [this, Bool.and_true])
      go_wp2_with fail
      go_ret
      exact ⟨by rw [HF.out] <;> rfl, rfl⟩
/-- a list of stores that rises, as the document asks it -/
theorem rise_head {l : List Int} {i : Nat} {x : Int} (hx : l[i]? = some x) : lastI 0 (l.take (i + 1)) = x := by rw [take_snoc hx, lastI_snoc]
set_option maxHeartbeats 1000000 in
theorem checkR_any (l : List Int) (a : Value) (w : World) (ha : inR.N w Any a l) :
    Calls Try.prog 32 #[a] w fun e w' => e = .returned (.bool (chk l)) ∧ ∃ n, w' = w.drewN n := by
  obtain ⟨A, c, rfl, hlc, hcm⟩ := ha.slice
  have hl : l.length ≤ maxLen := Nat.le_trans hlc hcm
  unfold maxLen at hl
  have HA := Lib.hid ha
  clear ha hlc hcm
  go_enter Try.func32, Try.ntmps32
  go_wp2_with fail
  go_loopw [3] (fun s3 wr => ∃ i : Nat, s3 = .int .i64 (i : Int) ∧ i ≤ l.length ∧ Hid (rise 0 (l.take i) = true ∧ ∃ n, wr = w.drewN n)) (fun s3 _ => l.length - (intOf s3).toNat)
  case atStart => exact ⟨0, rfl, Nat.zero_le _, Lib.hid ⟨rfl, 0, rfl⟩⟩
  case round =>
    obtain ⟨i, rfl, hi, hs⟩ := hrel
    obtain ⟨wz, hwz⟩ : ∃ wz : World, wz = wr := ⟨_, rfl⟩
    subst hwz
    by_cases hil : i < l.length
    · have a1 : (i : Int) < (l.length : Int) := by omega
      have a0 : (0 : Int) ≤ (i : Int) := by omega
      obtain ⟨x, hx⟩ : ∃ x, l[i]? = some x := ⟨_, List.getElem?_eq_getElem hil⟩
      have hN : inR.N wz Any (.slice A l.length c) l := by obtain ⟨n, hn⟩ := hs.out.2; rw [hn]; exact HA.out
      obtain ⟨g, o, rfl, y0⟩ := in_cell hN hx
      have HX := Lib.hid hx
      have hno : (decide (lastI 0 (l.take i) < x) && isS x) = false → Hid (chk l = false) := fun h => Lib.hid (by
        unfold chk
        rw [rise_stop HX.out h, Bool.and_false])
      have hyes : (decide (lastI 0 (l.take i) < x) && isS x) = true → Hid (rise 0 (l.take (i + 1)) = true) := fun h => Lib.hid (by rw [take_snoc HX.out, rise_snoc, hs.out.1, h]; rfl)
      have HN := Lib.hid hN
      by_cases h1 : x < 1
      · have HF := hno (by rw [show isS x = false by simp [isS]; omega, Bool.and_false])
        clear hno hyes hx hN
        go_upto_region 4 with fail
        go_quiet (fail)
        obtain ⟨n0, hn0⟩ := hs.out.2
        have HD : Hid (∃ n, wz.drewN nq = w.drewN n) := Lib.hid ⟨_, by rw [hn0, World.drewN_drewN]⟩
        clear hn0
        go_wp2_with fail
        go_ret
        exact ⟨by rw [HF.out] <;> rfl, HD.out⟩
      by_cases h2 : x > 5
      · have HF := hno (by rw [show isS x = false by simp [isS]; omega, Bool.and_false])
        clear hno hyes hx hN
        go_upto_region 4 with fail
        go_quiet (fail)
        obtain ⟨n0, hn0⟩ := hs.out.2
        have HD : Hid (∃ n, wz.drewN nq = w.drewN n) := Lib.hid ⟨_, by rw [hn0, World.drewN_drewN]⟩
        clear hn0
        go_wp2_with fail
        go_ret
        exact ⟨by rw [HF.out] <;> rfl, HD.out⟩
      have hS : isS x = true := by simp [isS]; omega
      by_cases h0 : i = 0
      · subst h0
        have HF := hyes (by rw [hS, Bool.and_true]; simp [lastI]; omega)
        rw [Nat.add_zero] at y0
        clear hno hyes hx hN hS
        go_upto_region 4 with fail
        go_quiet (fail)
        obtain ⟨n0, hn0⟩ := hs.out.2
        have HD : Hid (rise 0 (l.take 1) = true ∧ ∃ n, wz.drewN nq = w.drewN n) := Lib.hid ⟨HF.out, _, by rw [hn0, World.drewN_drewN]⟩
        clear hn0
        go_wp2_with fail
        exact ⟨⟨1, rfl, by omega, HD⟩, by simp [intOf]; omega⟩
      obtain ⟨k, hk⟩ : ∃ k, i = k + 1 := ⟨i - 1, by omega⟩
      obtain ⟨y, hy⟩ : ∃ y, l[k]? = some y := ⟨_, List.getElem?_eq_getElem (by omega)⟩
      obtain ⟨g', o', hA, y1⟩ := in_cell hN hy
      have hA := Option.some.inj hA
      injection hA with e1 e2
      subst e1 e2
      have hlast : lastI 0 (l.take i) = y := by rw [hk]; exact rise_head hy
      rw [hlast] at hno hyes
      have b0 : 0 < i := by omega
      have b1 : (0 : Int) ≤ (k : Int) := by omega
      have b2 : (k : Int) < (l.length : Int) := by omega
      have b3 : IntKind.i64.wrap ((i : Int) - 1) = (k : Int) := by rw [IntKind.wrap_i64]; omega
      clear hlast hy hx hN h0 hk
      by_cases hyx : y ≥ x
      · have HF := hno (by rw [show decide (y < x) = false by simpa using hyx]; rfl)
        clear hno hyes hS
        go_upto_region 4 with fail
        go_quiet (fail)
        obtain ⟨n0, hn0⟩ := hs.out.2
        have HD : Hid (∃ n, wz.drewN nq = w.drewN n) := Lib.hid ⟨_, by rw [hn0, World.drewN_drewN]⟩
        clear hn0
        go_wp2_with fail
        go_ret
        exact ⟨by rw [HF.out] <;> rfl, HD.out⟩
      · have HF := hyes (by rw [hS, Bool.and_true]; simpa using hyx)
        clear hno hyes hS
        go_upto_region 4 with fail
        go_quiet (fail)
        obtain ⟨n0, hn0⟩ := hs.out.2
        have HD : Hid (rise 0 (l.take (i + 1)) = true ∧ ∃ n, wz.drewN nq = w.drewN n) := Lib.hid ⟨HF.out, _, by rw [hn0, World.drewN_drewN]⟩
        clear hn0
        go_wp2_with fail
        exact ⟨⟨i + 1, by go_num, by omega, HD⟩, by simp [intOf]; omega⟩
    · have a1 : ¬ (i : Int) < (l.length : Int) := by omega
      have HF : Hid (chk l = decide (0 < l.length)) := Lib.hid (by
        have := hs.out.1
        rw [List.take_of_length_le (by omega)] at this
        unfold chk
        rw [this, Bool.and_true])
      go_wp2_with fail
      go_ret
      exact ⟨by rw [HF.out] <;> rfl, hs.out.2⟩
end Go.Proofs.Ytblbcoknefgcaaa
