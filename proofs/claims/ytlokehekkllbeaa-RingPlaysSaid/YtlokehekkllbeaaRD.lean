/-
  RRing: The program's ring in memory, and what only reads it. No statement is proved here. No condition.
  RRefuse: The program's ring: what it refuses; Sync, Empty. No statement is proved here. No condition.
  RCut: The program's ring: a record's pieces, one by one. No statement is proved here. No condition.
-/
import Derived.Test.YtlokehekkllbeaaRC
namespace Go.Proofs.Ytlokehekkllbeaa
open Go.RowKit

/-- a ring's numbers -/
structure RG where
  first : Nat
  count : Nat
  base : Nat
  last : Nat
  top : Nat
structure RG.fine (R : RG) : Prop where
  pos : 1 ≤ R.count
  room : R.first + R.count ≤ 65536
  low : R.base ≤ R.last
  high : R.last ≤ R.base + R.count
  up : R.last ≤ R.top
  most : R.top ≤ 4611686018427387904
def RG.room' (R : RG) : Nat := if R.last < R.top then 0 else R.count - (R.last - R.base)
/-- The program's ring lies in block r, its disk's head in block q. -/
def RgAt (w : World) (r q : Nat) (R : RG) : Prop := w.heap[r]? = some (.cells #[.pointer (some ⟨q, 0, none⟩), .int .i64 (R.first : Int), .int .i64 (R.count : Int), .int .i64 (R.base : Int), .int .i64 (R.last : Int), .int .i64 (R.top : Int)] 57 (0, 0))
theorem RgAt.c0 {w : World} {r q : Nat} {R : RG} (h : RgAt w r q R) : w.cell? ⟨r, 0, none⟩ = some (.pointer (some ⟨q, 0, none⟩)) := (row7 h).1 0
theorem RgAt.c1 {w : World} {r q : Nat} {R : RG} (h : RgAt w r q R) : w.cell? ⟨r, 1, none⟩ = some (.int .i64 (R.first : Int)) := (row7 h).1 1
theorem RgAt.c2 {w : World} {r q : Nat} {R : RG} (h : RgAt w r q R) : w.cell? ⟨r, 2, none⟩ = some (.int .i64 (R.count : Int)) := (row7 h).1 2
theorem RgAt.c3 {w : World} {r q : Nat} {R : RG} (h : RgAt w r q R) : w.cell? ⟨r, 3, none⟩ = some (.int .i64 (R.base : Int)) := (row7 h).1 3
theorem RgAt.c4 {w : World} {r q : Nat} {R : RG} (h : RgAt w r q R) : w.cell? ⟨r, 4, none⟩ = some (.int .i64 (R.last : Int)) := (row7 h).1 4
theorem RgAt.c5 {w : World} {r q : Nat} {R : RG} (h : RgAt w r q R) : w.cell? ⟨r, 5, none⟩ = some (.int .i64 (R.top : Int)) := (row7 h).1 5
theorem RgAt.lt {w : World} {r q : Nat} {R : RG} (h : RgAt w r q R) : r < w.heap.size := (Array.getElem?_eq_some_iff.1 h).1
theorem RgAt.fz {w : World} {r q : Nat} {R : RG} (h : RgAt w r q R) (i : Nat) : w.frozen? ⟨r, i, none⟩ = false := (row7 h).2 i
theorem RgAt.kept {w w' : World} {r q : Nat} {R : RG} (h : RgAt w r q R) (hk : w'.heap[r]? = w.heap[r]?) : RgAt w' r q R := hk.trans h
theorem RgAt.drew {w : World} {r q : Nat} {R : RG} (h : RgAt w r q R) (n : Nat) : RgAt (w.drewN n) r q R := h
theorem RgAt.last {w : World} {r q : Nat} {R : RG} (h : RgAt w r q R) (n : Nat) : RgAt (w.setCell ⟨r, 4, none⟩ (.int .i64 (n : Int))) r q { R with last := n } := by
  unfold RgAt
  rw [Joins.block_setCell h _]
  simp
theorem RgAt.top {w : World} {r q : Nat} {R : RG} (h : RgAt w r q R) (n : Nat) : RgAt (w.setCell ⟨r, 5, none⟩ (.int .i64 (n : Int))) r q { R with top := n } := by
  unfold RgAt
  rw [Joins.block_setCell h _]
  simp
theorem RgAt.base {w : World} {r q : Nat} {R : RG} (h : RgAt w r q R) (n : Nat) : RgAt (w.setCell ⟨r, 3, none⟩ (.int .i64 (n : Int))) r q { R with base := n } := by
  unfold RgAt
  rw [Joins.block_setCell h _]
  simp

set_option maxHeartbeats 400000 in
theorem ppieces_any (n : Nat) (w : World) (hn : n ≤ 9223372036854775807) :
    Calls Try.prog 28 #[.int .i64 (n : Int)] w fun e w' => e = .returned (.int .i64 ((pieces n : Nat) : Int)) ∧ w = w' := by
  have a0 : ¬ (n : Int) < 0 := by omega
  by_cases h : 0 < n ∧ n % 501 = 0
  · have h0 : (0 : Int) < (n : Int) := by omega
    have h1 : (n : Int) % 501 = 0 := by omega
    have e : pieces n = n / 501 := by unfold pieces; rw [if_pos h]
    go_enter Try.func28, Try.ntmps28
    go_wp2
    go_ret
    exact ⟨ret_int (by first | rfl | omega | (rw [e]; omega)), rfl⟩
  · have e : pieces n = n / 501 + 1 := by unfold pieces; rw [if_neg h]
    by_cases h0 : (0 : Int) < (n : Int)
    · have h1 : ¬ (n : Int) % 501 = 0 := by omega
      go_enter Try.func28, Try.ntmps28
      go_wp2
      go_ret
      exact ⟨ret_int (by first | rfl | omega | (rw [e]; omega)), rfl⟩
    · go_enter Try.func28, Try.ntmps28
      go_wp2
      go_ret
      exact ⟨ret_int (by first | rfl | omega | (rw [e]; omega)), rfl⟩
theorem ppieces_no (n : Int) (w : World) (hn : n < 0) :
    Calls Try.prog 28 #[.int .i64 n] w fun e w' => e = .returned (.int .i64 0) ∧ w = w' := by
  go_enter Try.func28, Try.ntmps28
  go_wp2
  go_ret
  exact ⟨rfl, rfl⟩

variable {w : World} {r q : Nat} {R : RG}
theorem pbase_any (h : RgAt w r q R) : Calls Try.prog 38 #[.pointer (some ⟨r, 0, none⟩)] w fun e w' => e = .returned (.int .i64 (R.base : Int)) ∧ w = w' := by
  have c := h.c3
  clear h
  go_enter Try.func38, Try.ntmps38
  go_wp2
  go_ret
  exact ⟨rfl, rfl⟩
theorem plast_any (h : RgAt w r q R) : Calls Try.prog 24 #[.pointer (some ⟨r, 0, none⟩)] w fun e w' => e = .returned (.int .i64 (R.last : Int)) ∧ w = w' := by
  have c := h.c4
  clear h
  go_enter Try.func24, Try.ntmps24
  go_wp2
  go_ret
  exact ⟨rfl, rfl⟩
theorem ptop_any (h : RgAt w r q R) : Calls Try.prog 39 #[.pointer (some ⟨r, 0, none⟩)] w fun e w' => e = .returned (.int .i64 (R.top : Int)) ∧ w = w' := by
  have c := h.c5
  clear h
  go_enter Try.func39, Try.ntmps39
  go_wp2
  go_ret
  exact ⟨rfl, rfl⟩
theorem pbase_nil (w : World) : Calls Try.prog 38 #[.pointer none] w fun e w' => e = .returned (.int .i64 0) ∧ w = w' := by
  go_enter Try.func38, Try.ntmps38
  go_wp2
  go_ret
  exact ⟨rfl, rfl⟩
theorem plast_nil (w : World) : Calls Try.prog 24 #[.pointer none] w fun e w' => e = .returned (.int .i64 0) ∧ w = w' := by
  go_enter Try.func24, Try.ntmps24
  go_wp2
  go_ret
  exact ⟨rfl, rfl⟩
theorem ptop_nil (w : World) : Calls Try.prog 39 #[.pointer none] w fun e w' => e = .returned (.int .i64 0) ∧ w = w' := by
  go_enter Try.func39, Try.ntmps39
  go_wp2
  go_ret
  exact ⟨rfl, rfl⟩
theorem ptorn_any (h : RgAt w r q R) : Calls Try.prog 42 #[.pointer (some ⟨r, 0, none⟩)] w fun e w' => e = .returned (.bool (decide (R.last < R.top))) ∧ ∃ n, w' = w.drewN n := by
  have c := h.c4
  have d := h.c5
  have e : decide ((R.last : Int) < (R.top : Int)) = decide (R.last < R.top) := by simp
  clear h
  go_enter Try.func42, Try.ntmps42
  go_wp2_with fail
  go_quiet (fail)
  go_wp2_with fail
  go_ret
  exact ⟨by first | rfl | rw [e], _, rfl⟩
theorem proom_nil (w : World) : Calls Try.prog 25 #[.pointer none] w fun e w' => e = .returned (.int .i64 0) ∧ w = w' := by
  go_enter Try.func25, Try.ntmps25
  go_wp2
  go_ret
  exact ⟨rfl, rfl⟩
theorem proom_any (h : RgAt w r q R) (hR : R.fine) : Calls Try.prog 25 #[.pointer (some ⟨r, 0, none⟩)] w fun e w' => e = .returned (.int .i64 (R.room' : Int)) ∧ ∃ n, w' = w.drewN n := by
  have ht := ptorn_any h
  have H := Lib.hid h
  have i1 := hR.room
  have i2 := hR.low
  have i3 := hR.high
  have i4 := hR.up
  have i5 := hR.most
  by_cases hl : R.last < R.top
  · have e : R.room' = 0 := by unfold RG.room'; rw [if_pos hl]
    rw [decide_eq_true hl] at ht
    rw [e]
    clear h
    go_enter Try.func25, Try.ntmps25
    go_wp2_with fail
    refine ht.mono ?_
    rintro e w1 ⟨rfl, n, rfl⟩
    go_wp2_with fail
    go_ret
    exact ⟨rfl, _, rfl⟩
  · have e : R.room' = R.count - (R.last - R.base) := by unfold RG.room'; rw [if_neg hl]
    rw [decide_eq_false hl] at ht
    rw [e]
    have e2 : ((R.count - (R.last - R.base) : Nat) : Int) = (R.count : Int) - ((R.last : Int) - (R.base : Int)) := by omega
    have HE := Lib.hid e2
    clear h e e2 hR hl
    go_enter Try.func25, Try.ntmps25
    go_wp2_with fail
    refine ht.mono ?_
    rintro e w1 ⟨rfl, n, rfl⟩
    obtain ⟨wd, hwd⟩ : ∃ wd, wd = w.drewN n := ⟨_, rfl⟩
    have hx : RgAt wd r q R := by rw [hwd]; exact H.out.drew n
    rw [← hwd]
    have c2 := hx.c2
    have c3 := hx.c3
    have c4 := hx.c4
    have HWD := Lib.hid hwd
    clear hx hwd
    go_wp2_with fail
    go_quiet (fail)
    go_wp2_with fail
    go_ret
    rw [HWD.out]
    exact ⟨ret_int HE.out.symm, n + nq, by simp [World.drewN, Nat.add_assoc]⟩
end Go.Proofs.Ytlokehekkllbeaa
namespace Go.Proofs.Ytlokehekkllbeaa
open Go.RowKit

def refuseOf (dead : Bool) (R : RG) (n : Nat) : Int := if dead then 20 else if R.count < n then 40 else if R.last < R.top then 50 else if R.room' < n then 3 else if 4611686018427387904 < R.last + n then 70 else 0

theorem prefuse_nil (n : Int) (w : World) : Calls Try.prog 29 #[.pointer none, .int .i64 n] w fun e w' => e = .returned (.int .i64 2) ∧ w = w' := by
  go_enter Try.func29, Try.ntmps29
  go_wp2_with fail
  go_ret
  exact ⟨rfl, rfl⟩

set_option maxHeartbeats 1000000 in
theorem prefuse_any {w : World} {G S : Nat → Prop} {r q : Nat} {R : RG} {D : DS} (h : RgAt w r q R) (hR : R.fine) (hD : PD w G S q D) (n : Nat) :
    Calls Try.prog 29 #[.pointer (some ⟨r, 0, none⟩), .int .i64 (n : Int)] w fun e w' => e = .returned (.int .i64 (refuseOf D.dead R n)) ∧ ∃ k, w' = w.drewN k := by
  have hd := pDead_any G S q D w hD
  have ht := ptorn_any h
  have c0 := h.c0
  have c2 := h.c2
  have i1 := hR.room
  have i2 := hR.most
  have i3 := hR.up
  have H := Lib.hid h
  have HR := Lib.hid hR
  obtain ⟨X, hX⟩ : ∃ X, X = refuseOf D.dead R n := ⟨_, rfl⟩
  have hrr : X = if D.dead then 20 else if R.count < n then 40 else if R.last < R.top then 50 else if R.room' < n then 3 else if 4611686018427387904 < R.last + n then 70 else 0 := hX
  rw [← hX]
  have HRR := Lib.hid hrr
  clear h hR hD hX hrr
  go_enter Try.func29, Try.ntmps29
  go_wp2_with fail
  refine hd.mono ?_
  rintro e w1 ⟨rfl, rfl⟩
  cases hdd : D.dead with
  | true =>
    rw [hdd] at HRR
    go_wp2_with fail
    go_ret
    exact ⟨ret_int HRR.out.symm, 0, rfl⟩
  | false =>
    rw [hdd] at HRR
    have h1 : X = if R.count < n then 40 else if R.last < R.top then 50 else if R.room' < n then 3 else if 4611686018427387904 < R.last + n then 70 else 0 := HRR.out
    clear HRR hd hdd
    by_cases a1 : R.count < n
    · rw [if_pos a1] at h1
      have b1 : (R.count : Int) < (n : Int) := by omega
      subst h1
      go_wp2_with fail
      go_ret
      exact ⟨rfl, 0, rfl⟩
    · rw [if_neg a1] at h1
      have b1 : ¬ (R.count : Int) < (n : Int) := by omega
      go_wp2_with fail
      refine ht.mono ?_
      rintro e w1 ⟨rfl, k, rfl⟩
      obtain ⟨wd, hwd⟩ : ∃ wd, wd = w.drewN k := ⟨_, rfl⟩
      have hx : RgAt wd r q R := by rw [hwd]; exact H.out.drew k
      rw [← hwd]
      have HWD := Lib.hid hwd
      clear hwd ht c0 c2
      by_cases a2 : R.last < R.top
      · rw [if_pos a2] at h1
        rw [decide_eq_true a2]
        subst h1
        go_wp2_with fail
        go_ret
        exact ⟨rfl, k, HWD.out⟩
      · rw [if_neg a2] at h1
        rw [decide_eq_false a2]
        have hr := proom_any hx HR.out
        have c4 := hx.c4
        go_wp2_with fail
        refine hr.mono ?_
        rintro e w1 ⟨rfl, k2, rfl⟩
        have hx2 := hx.drew k2
        obtain ⟨we, hwe⟩ : ∃ we, we = wd.drewN k2 := ⟨_, rfl⟩
        rw [← hwe] at hx2 ⊢
        have HWE : Hid (we = w.drewN (k + k2)) := by rw [hwe, HWD.out]; exact Lib.hid (by simp [World.drewN, Nat.add_assoc])
        clear hwe hr c4
        have c4 := hx2.c4
        have hroom : R.room' ≤ R.count := by unfold RG.room'; split <;> omega
        by_cases a3 : R.room' < n
        · rw [if_pos a3] at h1
          have b3 : (R.room' : Int) < (n : Int) := by omega
          subst h1
          go_wp2_with fail
          go_ret
          exact ⟨rfl, _, HWE.out⟩
        · rw [if_neg a3] at h1
          have b3 : ¬ (R.room' : Int) < (n : Int) := by omega
          by_cases a4 : 4611686018427387904 < R.last + n
          · rw [if_pos a4] at h1
            have b4 : (4611686018427387904 : Int) < (R.last : Int) + (n : Int) := by omega
            subst h1
            go_wp2_with fail
            go_ret
            exact ⟨rfl, _, HWE.out⟩
          · rw [if_neg a4] at h1
            have b4 : ¬ (4611686018427387904 : Int) < (R.last : Int) + (n : Int) := by omega
            subst h1
            go_wp2_with fail
            go_ret
            exact ⟨rfl, _, HWE.out⟩

theorem psync_nil (w : World) : Calls Try.prog 12 #[.pointer none] w fun e w' => e = .returned (.int .i64 2) ∧ w = w' := by
  go_enter Try.func12, Try.ntmps12
  go_wp2_with fail
  go_ret
  exact ⟨rfl, rfl⟩
theorem psync_any {w : World} {G S : Nat → Prop} {r q : Nat} {R : RG} {D : DS} (h : RgAt w r q R) (hD : PD w G S q D) (hF : Fine D) :
    Calls Try.prog 12 #[.pointer (some ⟨r, 0, none⟩)] w fun e w' => e = .returned (.int .i64 D.flush.1) ∧ Kept w w' (Mut G w) ∧ PD w' (More G w w') (More S w w') q D.flush.2 := by
  have c0 := h.c0
  have hf := pFlush_any G S q D w hD hF
  obtain ⟨X, hX⟩ : ∃ X, X = D.flush := ⟨_, rfl⟩
  rw [← hX] at hf ⊢
  clear h hD hX
  go_enter Try.func12, Try.ntmps12
  go_wp2_with fail
  refine hf.mono ?_
  rintro e w1 ⟨rfl, h1, h2⟩
  go_wp2_with fail
  go_ret
  exact ⟨rfl, h1, h2⟩
theorem pempty_nil (w : World) : Calls Try.prog 14 #[.pointer none] w fun e w' => e = .returned (.int .i64 0) ∧ w = w' := by
  go_enter Try.func14, Try.ntmps14
  go_wp2_with fail
  go_ret
  exact ⟨rfl, rfl⟩
theorem pempty_any {w : World} {r q : Nat} {R : RG} (h : RgAt w r q R) :
    Calls Try.prog 14 #[.pointer (some ⟨r, 0, none⟩)] w fun e w' => e = .returned (.int .i64 (R.top : Int)) ∧ Kept w w' (fun b => b = r) ∧ RgAt w' r q { R with base := R.top, last := R.top } := by
  have c3 := h.c3
  have c4 := h.c4
  have c5 := h.c5
  have z3 := h.fz 3
  have z4 := h.fz 4
  have H := Lib.hid h
  have h2 : RgAt ((w.drew.setCell ⟨r, 3, none⟩ (.int .i64 (R.top : Int))).setCell ⟨r, 4, none⟩ (.int .i64 (R.top : Int))) r q { R with base := R.top, last := R.top } := ((show RgAt w.drew r q R from h).base R.top).last R.top
  have h3 : Kept w ((w.drew.setCell ⟨r, 3, none⟩ (.int .i64 (R.top : Int))).setCell ⟨r, 4, none⟩ (.int .i64 (R.top : Int))) (fun b => b = r) := ((Kept.drew w (fun b => b = r)).trans (Kept.setCell _ ⟨r, 3, none⟩ _ (fun b => b = r) rfl) (fun _ h => .inl h)).trans (Kept.setCell _ ⟨r, 4, none⟩ _ (fun b => b = r) rfl) (fun _ h => .inl h)
  have H2 := Lib.hid h2
  have H3 := Lib.hid h3
  clear h h2 h3
  go_enter Try.func14, Try.ntmps14
  go_wp2_with fail
  go_region
  all_goals go_wp2_with fail
  all_goals go_ret
  all_goals exact ⟨rfl, H3.out, H2.out⟩
end Go.Proofs.Ytlokehekkllbeaa
namespace Go.Proofs.Ytlokehekkllbeaa
open Go.RowKit

theorem elem_bytes : Try.prog.underlying 39 = some (.slice (Try.prog.elem 39)) := by kernel_rfl
theorem size_bytes (W : World) : (sizeOf (Try.prog.elem 39)).run Try.prog W = .ok 1 W := by kernel_rfl
theorem slice_till (W : World) (a : Option Addr) (len c : Nat) (h : Int) (k : Nat) (hk : h = (k : Int)) (hc : k ≤ c) :
    (Instr.slice 39 (.slice a len c) none (some (.int .i64 h)) none).run Try.prog W = .ok (.slice a k c) W := by
  subst hk
  rw [run_slice_h _ _ _ _ _ elem_bytes .i64 (k : Int) (by omega) (by omega), size_bytes]
  simp only [Result.andThen, sliced, Int.toNat_natCast, Nat.sub_zero, Nat.zero_mul]
  split
  · rfl
  · cases a <;> simp [Addr.add]
/-- what s[k:] lies at -/
def atFrom (A : Option Addr) (c k : Nat) : Option Addr := if c = k then A else A.map (·.add k)
theorem slice_from (W : World) (A : Option Addr) (len c : Nat) (h : Int) (k : Nat) (hk : h = (k : Int)) (hl : k ≤ len) :
    (Instr.slice 39 (.slice A len c) (some (.int .i64 h)) none none).run Try.prog W = .ok (.slice (atFrom A c k) (len - k) (c - k)) W := by
  subst hk
  rw [run_slice_l _ _ _ _ _ elem_bytes .i64 (k : Int) (by omega) (by omega), size_bytes]
  simp only [Result.andThen, sliced, Int.toNat_natCast, Nat.mul_one]
  unfold atFrom
  rfl
theorem sliceAt_bytes (W : World) (x : Value) (lo hi mx : Option Value) : (Instr.sliceAt 39 x lo hi mx).run Try.prog W = (Instr.slice 39 x lo hi mx).run Try.prog W := run_sliceAt_slice _ _ _ _ _ _ elem_bytes

theorem RdN.take {w : World} {N : Nat → Prop} {c n : Nat} {A : Option Addr} {l : List UInt8} (h : RdN w N (.slice A l.length c) l) (hk : n ≤ l.length) : RdN w N (.slice A n c) (l.take n) := by
  obtain ⟨A0, c', he, h1, h2, h3, h4⟩ := h
  injection he with e1 _ e2
  subst e1
  subst e2
  have hl : (l.take n).length = n := by rw [List.length_take]; omega
  refine ⟨A, c, by rw [hl], by rw [hl]; omega, h2, h3, fun hn => ?_⟩
  obtain ⟨b, o, hA, hN, hb, hc⟩ := h4 (fun e => by subst e; simp at hn)
  refine ⟨b, o, hA, hN, hb, fun i x hx => hc i x ?_⟩
  rw [List.getElem?_take] at hx
  split at hx
  · exact hx
  · cases hx
theorem RdN.drop {w : World} {N : Nat → Prop} {c n : Nat} {A : Option Addr} {l : List UInt8} (h : RdN w N (.slice A l.length c) l) (hk : n ≤ l.length) : RdN w N (.slice (atFrom A c n) (l.length - n) (c - n)) (l.drop n) := by
  obtain ⟨A0, c', he, h1, h2, h3, h4⟩ := h
  injection he with e1 _ e2
  subst e1
  subst e2
  have hl : (l.drop n).length = l.length - n := List.length_drop
  refine ⟨atFrom A c n, c - n, by rw [hl], by rw [hl]; omega, by omega, fun hh => ?_, fun hn => ?_⟩
  · unfold atFrom at hh
    split at hh
    · omega
    · have : A = none := by cases A with | none => rfl | some a => cases hh
      have := h3 this
      omega
  · have hlt : n < l.length := by
      rcases Nat.lt_or_ge n l.length with hh | hh
      · exact hh
      · exact absurd (List.drop_eq_nil_of_le hh) hn
    obtain ⟨b, o, rfl, hN, hb, hc⟩ := h4 (fun e => by subst e; simp at hlt)
    refine ⟨b, o + n, ?_, hN, hb, fun i x hx => ?_⟩
    · unfold atFrom
      rw [if_neg (by omega), Option.map_some, plus_zero]
    · rw [List.getElem?_drop] at hx
      have := hc (n + i) x hx
      rwa [← Nat.add_assoc] at this

/-- what a record's cutter keeps in mind -/
structure CutAt (w : World) (a b c : Nat) (left last : Nat) (v : Value) : Prop where
  ca : w.heap[a]? = some (.cells #[.int .i64 (left : Int)] 3 (0, 0))
  cb : w.heap[b]? = some (.cells #[.int .i64 (last : Int)] 3 (0, 0))
  cc : w.heap[c]? = some (.cells #[v] 39 (0, 0))
  ab : a ≠ b
  ac : a ≠ c
  bc : b ≠ c
theorem CutAt.kept {w w' : World} {a b c left last : Nat} {v : Value} (h : CutAt w a b c left last v) (ha : w'.heap[a]? = w.heap[a]?) (hb : w'.heap[b]? = w.heap[b]?) (hc : w'.heap[c]? = w.heap[c]?) : CutAt w' a b c left last v :=
  ⟨ha.trans h.ca, hb.trans h.cb, hc.trans h.cc, h.ab, h.ac, h.bc⟩

theorem new3 (w : World) (o1 o2 o3 : Obj) : (((w.alloc o1).alloc o2).alloc o3).heap[w.heap.size]? = some o1 ∧ (((w.alloc o1).alloc o2).alloc o3).heap[w.heap.size + 1]? = some o2 ∧ (((w.alloc o1).alloc o2).alloc o3).heap[w.heap.size + 1 + 1]? = some o3 := by
  have h1 : (w.alloc o1).heap.size = w.heap.size + 1 := by simp
  have h2 : ((w.alloc o1).alloc o2).heap.size = w.heap.size + 1 + 1 := by simp
  refine ⟨?_, ?_, ?_⟩
  · rw [Below.heap_alloc _ _ _ (by omega), Below.heap_alloc _ _ _ (by omega)]; exact heap_alloc_new _ _
  · rw [Below.heap_alloc _ _ _ (by omega), ← h1]; exact heap_alloc_new _ _
  · rw [← h2]; exact heap_alloc_new _ _

set_option maxHeartbeats 1000000 in
theorem pcut_any (l : List UInt8) (last : Nat) (v : Value) (w : World) (hv : Rd w w.heap.size v l) (hl : l.length ≤ 9223372036854775807) :
    Calls Try.prog 30 #[v, .int .i64 (last : Int)] w fun e w' => ∃ a b c, e = .returned (.func (.func 45) #[] #[.pointer (some ⟨a, 0, none⟩), .pointer (some ⟨b, 0, none⟩), .pointer (some ⟨c, 0, none⟩)]) ∧ CutAt w' a b c (pieces l.length) last v ∧ w.heap.size ≤ a ∧ w.heap.size ≤ b ∧ w.heap.size ≤ c ∧ Below w.heap.size w w' := by
  obtain ⟨A, cp, rfl, -⟩ := hv
  have hp := ppieces_any l.length
  have hmf : ∀ (fn : Fn) (first cap : Array Value) (w : World), (Instr.makeFunc fn first cap).run Try.prog w = .ok (.func fn first cap) w := fun _ _ _ _ => rfl
  go_enter Try.func30, Try.ntmps30
  go_wp2_with fail
  refine (hp _ hl).mono ?_
  rintro e w1 ⟨rfl, rfl⟩
  go_wp2_with fail
  go_ret
  obtain ⟨n1, n2, n3⟩ := new3 w (.cells #[.slice A l.length cp] 39) (.cells #[.int .i64 (last : Int)] 3) (.cells #[.int .i64 ((pieces l.length : Nat) : Int)] 3)
  exact ⟨_, _, _, rfl, ⟨n3, n2, n1, by omega, by omega, by omega⟩, by omega, by omega, by omega, (((Below.refl _ _).alloc (Nat.le_refl _) _).alloc (by simp) _).alloc (by simp; omega) _⟩

theorem pcut1_end (a b c last : Nat) (v : Value) (w : World) (h : CutAt w a b c 0 last v) :
    Calls Try.prog 45 #[.pointer (some ⟨a, 0, none⟩), .pointer (some ⟨b, 0, none⟩), .pointer (some ⟨c, 0, none⟩)] w fun e w' => e = .returned (.tuple #[pcv ⟨0, false, []⟩ (.slice none 0 0), .bool false]) ∧ Below w.heap.size w w' := by
  have c0 : w.cell? ⟨a, 0, none⟩ = some (.int .i64 0) := (row7 h.ca).1 0
  have hlt : a < w.heap.size := (Array.getElem?_eq_some_iff.1 h.ca).1
  clear h
  go_enter Try.func45, Try.ntmps45
  go_wp2_with fail
  refine bodyPost_ret (v := .tuple #[pcv ⟨0, false, []⟩ (.slice none 0 0), .bool false]) (by rw [results_cell_tmp rfl]; go_simp; rfl) rfl ?_
  exact ⟨rfl, (Below.refl _ _).alloc (Nat.le_refl _) _⟩

set_option maxHeartbeats 2000000 in
theorem pcut1_next (a b c k last : Nat) (v : Value) (l : List UInt8) (N : Nat → Prop) (w : World) (h : CutAt w a b c (k + 1) last v) (hv : RdN w N v l) (hk : k < 9223372036854775807) (hlast : last < 9223372036854775807) (hN : ∀ x, N x → x ≠ a ∧ x ≠ b ∧ x ≠ c) :
    Calls Try.prog 45 #[.pointer (some ⟨a, 0, none⟩), .pointer (some ⟨b, 0, none⟩), .pointer (some ⟨c, 0, none⟩)] w fun e w' => ∃ u v', e = .returned (.tuple #[pcv ⟨last + 1, k == 0, l.take 501⟩ u, .bool true]) ∧ RdN w' N u (l.take 501) ∧ CutAt w' a b c k (last + 1) v' ∧ RdN w' N v' (l.drop 501) ∧ Kept w w' (fun x => x = a ∨ x = b ∨ x = c) := by
  have c0 : w.cell? ⟨a, 0, none⟩ = some (.int .i64 ((k : Int) + 1)) := by have := (row7 h.ca).1 0; rw [this]; rfl
  have c1 : w.cell? ⟨b, 0, none⟩ = some (.int .i64 (last : Int)) := (row7 h.cb).1 0
  have c2 : w.cell? ⟨c, 0, none⟩ = some v := (row7 h.cc).1 0
  have z0 := (row7 h.ca).2 0
  have z1 := (row7 h.cb).2 0
  have z2 := (row7 h.cc).2 0
  have la : a < w.heap.size := (Array.getElem?_eq_some_iff.1 h.ca).1
  have lb : b < w.heap.size := (Array.getElem?_eq_some_iff.1 h.cb).1
  have lc : c < w.heap.size := (Array.getElem?_eq_some_iff.1 h.cc).1
  have ab := h.ab
  have ac := h.ac
  have bc := h.bc
  have hv0 := hv
  obtain ⟨A, cp, rfl, h1, h2, h3, -⟩ := hv
  obtain ⟨n, hn⟩ : ∃ n, n = min l.length 501 := ⟨_, rfl⟩
  have hmin : (if (501 : Int) < (l.length : Int) then (501 : Int) else (l.length : Int)) = (n : Int) := by rw [hn]; split <;> omega
  have hnl : n ≤ l.length := by omega
  have hs1 : ∀ W, (Instr.sliceAt 39 (.slice A l.length cp) none (some (.int .i64 (n : Int))) none).run Try.prog W = .ok (.slice A n cp) W := fun W => (sliceAt_bytes W _ _ _ _).trans (slice_till W _ _ _ _ _ rfl (by omega))
  have hs2 : ∀ W, (Instr.sliceAt 39 (.slice A l.length cp) (some (.int .i64 (n : Int))) none none).run Try.prog W = .ok (.slice (atFrom A cp n) (l.length - n) (cp - n)) W := fun W => (sliceAt_bytes W _ _ _ _).trans (slice_from W _ _ _ _ _ rfl hnl)
  have H := Lib.hid h
  have HV := Lib.hid hv0
  have HN := Lib.hid hn
  have e0 : ((k : Int) == 0) = (k == 0) := by
    cases k with
    | zero => rfl
    | succ k => simp; omega
  obtain ⟨L, hL⟩ : ∃ L, L = (k == 0) := ⟨_, rfl⟩
  rw [← hL] at e0
  have HL := Lib.hid hL
  clear h hv0 hn hL h3
  go_enter Try.func45, Try.ntmps45
  go_wp2_with fail
  obtain ⟨wa, hwa⟩ : ∃ wa, wa = (w.setCell ⟨a, 0, none⟩ (.int .i64 (k : Int))).setCell ⟨b, 0, none⟩ (.int .i64 ((last : Int) + 1)) := ⟨_, rfl⟩
  have hsa : wa.heap.size = w.heap.size := by rw [hwa]; simp
  obtain ⟨w1, hw1⟩ : ∃ w1, w1 = wa.alloc (.cells #[.int .i64 0, .bool false, .slice none 0 0] 71) := ⟨_, rfl⟩
  rw [← hwa, ← hw1]
  have ha1 : wa.heap[a]? = some (.cells #[.int .i64 (k : Int)] 3 (0, 0)) := by
    rw [hwa, set_other ab, Joins.block_setCell H.out.ca _]
    simp
  have hb1 : wa.heap[b]? = some (.cells #[.int .i64 ((last : Int) + 1)] 3 (0, 0)) := by
    rw [hwa, Joins.block_setCell ((set_other (Ne.symm ab)).trans H.out.cb) _]
    simp
  have hc1 : wa.heap[c]? = some (.cells #[.slice A l.length cp] 39 (0, 0)) := by
    rw [hwa, set_other (Ne.symm bc), set_other (Ne.symm ac)]
    exact H.out.cc
  have hk1 : Kept w wa (fun x => x = a ∨ x = b ∨ x = c) := by
    rw [hwa]
    exact (Kept.setCell w ⟨a, 0, none⟩ _ _ (.inl rfl)).trans (Kept.setCell _ ⟨b, 0, none⟩ _ (fun x => x = a ∨ x = b ∨ x = c) (.inr (.inl rfl))) (fun _ h => .inl h)
  have hal : ∀ x, x < w.heap.size → w1.heap[x]? = wa.heap[x]? := fun x hx => by rw [hw1]; exact Below.heap_alloc wa _ x (by omega)
  have hz1 : w1.heap[w.heap.size]? = some (.cells #[.int .i64 0, .bool false, .slice none 0 0] 71 (0, 0)) := by rw [hw1, ← hsa]; exact heap_alloc_new _ _
  have hs1' : w1.heap.size = w.heap.size + 1 := by rw [hw1]; simp; omega
  have hk2 : Kept w w1 (fun x => x = a ∨ x = b ∨ x = c) := by rw [hw1]; exact hk1.trans (Kept.alloc wa _ _) (fun _ h => .inl h)
  replace ha1 := (hal a la).trans ha1
  replace hb1 := (hal b lb).trans hb1
  replace hc1 := (hal c lc).trans hc1
  have HZ := Lib.hid hz1
  have HK := Lib.hid hk2
  have HA := Lib.hid ha1
  have HB := Lib.hid hb1
  have HC := Lib.hid hc1
  have HS := Lib.hid hs1'
  clear hk1 hal hsa hwa hw1 c0 c1 c2 z0 z1 z2
  have c0 : w1.cell? ⟨a, 0, none⟩ = some (.int .i64 (k : Int)) := (row7 ha1).1 0
  have c1 : w1.cell? ⟨b, 0, none⟩ = some (.int .i64 ((last : Int) + 1)) := (row7 hb1).1 0
  have c2 : w1.cell? ⟨c, 0, none⟩ = some (.slice A l.length cp) := (row7 hc1).1 0
  have la1 : a < w1.heap.size := by omega
  have lb1 : b < w1.heap.size := by omega
  have lc1 : c < w1.heap.size := by omega
  clear ha1 hb1 hc1 hz1 hk2 hs1'
  go_region
  obtain ⟨g, hg⟩ : ∃ g, g = w1.heap.size := ⟨_, rfl⟩
  obtain ⟨w2, hw2⟩ : ∃ w2, w2 = (w1.alloc (.cells #[.int .i64 ((last : Int) + 1), .bool L, .slice A n cp] 71)).drew := ⟨_, rfl⟩
  rw [← hw2, ← hg]
  have hal : ∀ x, x < w1.heap.size → w2.heap[x]? = w1.heap[x]? := fun x hx => by rw [hw2]; exact Below.heap_alloc w1 _ x hx
  have hg2 : w2.heap[g]? = some (.cells #[.int .i64 ((last : Int) + 1), .bool L, .slice A n cp] 71 (0, 0)) := by rw [hw2, hg]; exact heap_alloc_new w1 _
  have hk2 : Kept w w2 (fun x => x = a ∨ x = b ∨ x = c) := by rw [hw2]; exact (HK.out.trans (Kept.alloc w1 _ _) (fun _ h => .inl h)).trans (Kept.drew _ _) (fun _ h => .inl h)
  have hsz := HS.out
  have ha2 := (hal a la1).trans HA.out
  have hb2 := (hal b lb1).trans HB.out
  have hc2 := (hal c lc1).trans HC.out
  have hz2 := (hal w.heap.size (by omega)).trans HZ.out
  clear c0 c1 c2
  have c2 : w2.cell? ⟨c, 0, none⟩ = some (.slice A l.length cp) := (row7 hc2).1 0
  have z2 := (row7 hc2).2 0
  have p0 : w2.cell? ⟨g, 0, none⟩ = some (.int .i64 ((last : Int) + 1)) := (row7 hg2).1 0
  have p1 : w2.cell? ⟨g, 1, none⟩ = some (.bool L) := (row7 hg2).1 1
  have p2 : w2.cell? ⟨g, 2, none⟩ = some (.slice A n cp) := (row7 hg2).1 2
  have q0 : w2.cell? ⟨w.heap.size, 0, none⟩ = some (.int .i64 0) := (row7 hz2).1 0
  have q1 : w2.cell? ⟨w.heap.size, 1, none⟩ = some (.bool false) := (row7 hz2).1 1
  have q2 : w2.cell? ⟨w.heap.size, 2, none⟩ = some (.slice none 0 0) := (row7 hz2).1 2
  have q3 := (row7 hz2).2 0
  have q4 := (row7 hz2).2 1
  have q5 := (row7 hz2).2 2
  have n1 : g ≠ c := by omega
  have n2 : c ≠ w.heap.size := by omega
  have n3 : g ≠ w.heap.size := by omega
  have HA2 := Lib.hid ha2
  have HB2 := Lib.hid hb2
  have HC2 := Lib.hid hc2
  have HK2 := Lib.hid hk2
  have HG := Lib.hid hg
  clear ha2 hb2 hc2 hz2 hk2 hg2 hal hw2 hg HA HB HC HK HZ
  go_wp2_with fail
  refine bodyPost_ret (v := .tuple #[.agg #[.int .i64 ((last : Int) + 1), .bool L, .slice A n cp], .bool true]) (by rw [results_cell_tmp rfl]; go_simp) rfl ?_
  obtain ⟨W, hW⟩ : ∃ W, W = (((w2.setCell ⟨c, 0, none⟩ (.slice (atFrom A cp n) (l.length - n) (cp - n))).setCell ⟨w.heap.size, 0, none⟩ (.int .i64 ((last : Int) + 1))).setCell ⟨w.heap.size, 1, none⟩ (.bool L)).setCell ⟨w.heap.size, 2, none⟩ (.slice A n cp) := ⟨_, rfl⟩
  rw [← hW]
  have hK : Kept w W (fun x => x = a ∨ x = b ∨ x = c) := by
    rw [hW]
    have k1 := HK2.out.trans (Kept.setCell w2 ⟨c, 0, none⟩ (.slice (atFrom A cp n) (l.length - n) (cp - n)) (fun x => x = a ∨ x = b ∨ x = c) (.inr (.inr rfl))) (fun _ h => .inl h)
    have k2 := k1.trans (Kept.setCell _ ⟨w.heap.size, 0, none⟩ (.int .i64 ((last : Int) + 1)) (fun x => x = w.heap.size) rfl) (fun x h => .inr (Nat.le_of_eq h.symm))
    have k3 := k2.trans (Kept.setCell _ ⟨w.heap.size, 1, none⟩ (.bool L) (fun x => x = w.heap.size) rfl) (fun x h => .inr (Nat.le_of_eq h.symm))
    exact k3.trans (Kept.setCell _ ⟨w.heap.size, 2, none⟩ (.slice A n cp) (fun x => x = w.heap.size) rfl) (fun x h => .inr (Nat.le_of_eq h.symm))
  have hr : RdN W N (.slice A l.length cp) l := HV.out.kept (fun _ h _ => h) hK.size (fun x hx hs => hK.block x hs (fun h => by
    obtain ⟨g1, g2, g3⟩ := hN x hx
    rcases h with h | h | h
    · exact g1 h
    · exact g2 h
    · exact g3 h))
  have t1 : l.take 501 = l.take n := by rw [HN.out]; rcases Nat.le_total l.length 501 with h | h <;> simp [Nat.min_eq_left, Nat.min_eq_right, h, List.take_of_length_le]
  have t2 : l.drop 501 = l.drop n := by rw [HN.out]; rcases Nat.le_total l.length 501 with h | h <;> simp [Nat.min_eq_left, Nat.min_eq_right, h]
  rw [t1, t2]
  refine ⟨.slice A n cp, .slice (atFrom A cp n) (l.length - n) (cp - n), ?_, hr.take hnl, ⟨?_, ?_, ?_, ab, ac, bc⟩, hr.drop hnl, hK⟩
  · show _ = Ending.returned (.tuple #[.agg #[.int .i64 (((last + 1 : Nat)) : Int), .bool (k == 0), .slice A n cp], .bool true])
    rw [HL.out]
    rfl
  · rw [hW, set_other (by show a ≠ w.heap.size; omega), set_other (by show a ≠ w.heap.size; omega), set_other (by show a ≠ w.heap.size; omega), set_other ac]
    exact HA2.out
  · rw [hW, set_other (by show b ≠ w.heap.size; omega), set_other (by show b ≠ w.heap.size; omega), set_other (by show b ≠ w.heap.size; omega), set_other bc]
    exact HB2.out
  · rw [hW, set_other (by show c ≠ w.heap.size; omega), set_other (by show c ≠ w.heap.size; omega), set_other (by show c ≠ w.heap.size; omega), Joins.block_setCell HC2.out _]
    simp
end Go.Proofs.Ytlokehekkllbeaa
