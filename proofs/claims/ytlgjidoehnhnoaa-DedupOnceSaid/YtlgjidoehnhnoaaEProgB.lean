/-
  Texts and numbers compared; the closures of the program; fits and checkWrite. No statement is proved here. No condition.
-/
import Derived.Test.YtlgjidoehnhnoaaEProgA
namespace Go.Proofs.Ytlgjidoehnhnoaa
open Go.RowKit

def cmpB (a b : ByteArray) : Int := Lib.compareBytes a.data.toList b.data.toList
theorem cmpL_zero : ∀ {x y : List UInt8}, Lib.compareBytes x y = 0 ↔ x = y := by
  intro x
  induction x with
  | nil => intro y; cases y <;> simp [Lib.compareBytes]
  | cons a x ih =>
    intro y
    cases y with
    | nil => simp [Lib.compareBytes]
    | cons b y =>
      unfold Lib.compareBytes
      by_cases h : a < b
      · rw [if_pos h]
        simp only [List.cons.injEq]
        exact ⟨fun e => absurd e (by decide), fun e => absurd h (by rw [e.1]; exact UInt8.lt_irrefl _)⟩
      · rw [if_neg h]
        by_cases h2 : b < a
        · rw [if_pos h2]
          simp only [List.cons.injEq]
          exact ⟨fun e => absurd e (by decide), fun e => absurd h2 (by rw [e.1]; exact UInt8.lt_irrefl _)⟩
        · rw [if_neg h2, ih]
          have : a = b := UInt8.le_antisymm (UInt8.not_lt.1 h2) (UInt8.not_lt.1 h)
          simp [this]
theorem cmpL_pos : ∀ {x y : List UInt8}, 0 < Lib.compareBytes x y ↔ Op.bytesLess y x = true := by
  intro x
  induction x with
  | nil => intro y; cases y <;> simp [Lib.compareBytes, Op.bytesLess]
  | cons a x ih =>
    intro y
    cases y with
    | nil => simp [Lib.compareBytes, Op.bytesLess]
    | cons b y =>
      simp only [Lib.compareBytes, Op.bytesLess, Bool.or_eq_true, decide_eq_true_eq, Bool.and_eq_true, beq_iff_eq]
      by_cases h : a < b
      · rw [if_pos h]
        have h1 : ¬ b < a := UInt8.not_lt.2 (UInt8.le_of_lt h)
        exact ⟨fun e => absurd e (by decide), fun e => e.elim (fun e => absurd e h1) fun e => absurd h (by rw [e.1]; exact UInt8.lt_irrefl _)⟩
      · rw [if_neg h]
        by_cases h2 : b < a
        · rw [if_pos h2]
          exact ⟨fun _ => .inl h2, fun _ => by decide⟩
        · rw [if_neg h2, ih]
          have e : a = b := UInt8.le_antisymm (UInt8.not_lt.1 h2) (UInt8.not_lt.1 h)
          exact ⟨fun h => .inr ⟨e.symm, h⟩, fun h => h.elim (fun h => absurd h h2) fun h => h.2⟩
theorem cmpB_zero (a b : ByteArray) : cmpB a b = 0 ↔ a = b := by
  unfold cmpB
  rw [cmpL_zero]
  exact ⟨fun h => toList_inj (by rw [ByteArray.toList_eq, ByteArray.toList_eq]; exact h), fun h => by rw [h]⟩
theorem cmpB_pos (a b : ByteArray) : 0 < cmpB a b ↔ bLt b a = true := by
  unfold cmpB bLt
  rw [cmpL_pos, ByteArray.toList_eq, ByteArray.toList_eq]
def cmpI (a b : Int) : Int := if a < b then -1 else if b < a then 1 else 0
theorem cmpI_zero (a b : Int) : cmpI a b = 0 ↔ a = b := by
  unfold cmpI
  by_cases h : a < b
  · rw [if_pos h]; exact ⟨fun e => absurd e (by decide), fun e => by omega⟩
  · rw [if_neg h]
    by_cases h2 : b < a
    · rw [if_pos h2]; exact ⟨fun e => absurd e (by decide), fun e => by omega⟩
    · rw [if_neg h2]; exact ⟨fun _ => by omega, fun _ => rfl⟩
theorem cmpI_pos (a b : Int) : 0 < cmpI a b ↔ b < a := by
  unfold cmpI
  by_cases h : a < b
  · rw [if_pos h]; exact ⟨fun e => absurd e (by decide), fun e => by omega⟩
  · rw [if_neg h]
    by_cases h2 : b < a
    · rw [if_pos h2]; exact ⟨fun _ => h2, fun _ => by decide⟩
    · rw [if_neg h2]; exact ⟨fun e => absurd e (by decide), fun e => absurd e h2⟩

set_option maxRecDepth 100000 in
theorem cmpstr_any (a b : ByteArray) (w : World) :
    Calls Try.prog 45 #[.string a, .string b] w fun e w' => e = .returned (.int .i64 (cmpB a b)) ∧ w' = w := by
  have hx : (callFunc 50 #[.string a, .string b]).run Try.prog w = .ok (.value (.int .i64 (cmpB a b))) w := by
    rw [run_callFunc_extern Try.func50 (by kernel_rfl) (by kernel_rfl) (by kernel_rfl) (e := Extern.BytealgCompare.compare) (by kernel_rfl), Lib.run_compareString]
    rfl
  go_enter Try.func45, Try.ntmps45
  go_wp2_with (simp only [hx])
  go_ret
  exact ⟨rfl, rfl⟩
set_option maxRecDepth 100000 in
theorem compare_any (a b : ByteArray) (w : World) :
    Calls Try.prog 34 #[.string a, .string b] w fun e w' => e = .returned (.int .i64 (cmpB a b)) ∧ w' = w := by
  have c := cmpstr_any a b w
  go_enter Try.func34, Try.ntmps34
  go_wp2_with fail
  refine c.mono ?_
  rintro e w2 ⟨rfl, rfl⟩
  go_wp2_with fail
  go_ret
  exact ⟨rfl, rfl⟩
set_option maxRecDepth 100000 in
theorem isnan_any (a : Int) (w : World) : Calls Try.prog 47 #[.int .i64 a] w fun e w' => e = .returned (.bool false) ∧ w' = w := by
  go_enter Try.func47, Try.ntmps47
  go_wp2_with fail
  go_ret
  exact ⟨rfl, rfl⟩
set_option maxRecDepth 100000 in
theorem cmpint_any (a b : Int) (w : World) :
    Calls Try.prog 42 #[.int .i64 a, .int .i64 b] w fun e w' => e = .returned (.int .i64 (cmpI a b)) ∧ w' = w := by
  have ca := isnan_any a w
  have cb := isnan_any b w
  obtain ⟨r, hr⟩ : ∃ r, r = cmpI a b := ⟨_, rfl⟩
  rw [← hr]
  have HR := Lib.hid hr
  clear hr
  go_enter Try.func42, Try.ntmps42
  go_wp2_with fail
  refine ca.mono ?_
  rintro e w2 ⟨rfl, rfl⟩
  go_wp2_with fail
  refine cb.mono ?_
  rintro e w3 ⟨rfl, rfl⟩
  by_cases h1 : a < b
  · go_wp2_with fail
    go_ret
    exact ⟨by rw [HR.out]; unfold cmpI; rw [if_pos h1]; rfl, rfl⟩
  · by_cases h2 : b < a
    · go_wp2_with fail
      go_ret
      exact ⟨by rw [HR.out]; unfold cmpI; rw [if_neg (by omega), if_pos h2]; rfl, rfl⟩
    · go_wp2_with fail
      go_ret
      exact ⟨by rw [HR.out]; unfold cmpI; rw [if_neg (by omega), if_neg (by omega)]; rfl, rfl⟩
set_option maxRecDepth 100000 in
theorem del_any (p : PP) (k : ByteArray) (q : Nat) (w : World) (h : w.cell? ⟨q, 1, none⟩ = some (.string k)) :
    Calls Try.prog 30 #[p.agg, .pointer (some ⟨q, 0, none⟩)] w fun e w' => e = .returned (.bool (decide (p.key = k))) ∧ Below w.heap.size w w' := by
  obtain ⟨w1, hw1⟩ : ∃ w1, w1 = w.alloc (.cells #[.string p.key, .string p.val] 24) := ⟨_, rfl⟩
  have hb1 : Below w.heap.size w w1 := by rw [hw1]; exact (Below.refl _ _).alloc (Nat.le_refl _) _
  have hx1 : w1.heap[w.heap.size]? = some (.cells #[.string p.key, .string p.val] 24 (0, 0)) := by rw [hw1]; exact heap_alloc_new w _
  have x0 : w1.cell? ⟨w.heap.size, 0, none⟩ = some (.string p.key) := (blk_cells hx1).1 0
  have x1 : w1.cell? ⟨q, 1, none⟩ = some (.string k) := (hb1.cell (p := ⟨q, 1, none⟩) (World.block_lt_of_cell? w _ h)).trans h
  have HB1 := Lib.hid hb1
  have HW1 := Lib.hid hw1
  clear hb1 hw1 hx1 h
  unfold PP.agg
  go_enter Try.func30, Try.ntmps30
  go_upto_region 1 with fail
  rw [← HW1.out]
  by_cases hk : p.key = k
  · have hk2 := eqS_yes hk
    go_wp2_with fail
    go_ret
    exact ⟨by simp [hk], HB1.out⟩
  · have hk2 := eqS_no hk
    go_wp2_with fail
    go_ret
    exact ⟨by simp [hk], HB1.out⟩
set_option maxRecDepth 100000 in
theorem ord_any (p : PP) (k : ByteArray) (q : Nat) (w : World) (h : w.cell? ⟨q, 1, none⟩ = some (.string k)) :
    Calls Try.prog 33 #[p.agg, .pointer (some ⟨q, 0, none⟩)] w fun e w' => e = .returned (.int .i64 (cmpB p.key k)) ∧ Below w.heap.size w w' := by
  obtain ⟨w1, hw1⟩ : ∃ w1, w1 = w.alloc (.cells #[.string p.key, .string p.val] 24) := ⟨_, rfl⟩
  have hb1 : Below w.heap.size w w1 := by rw [hw1]; exact (Below.refl _ _).alloc (Nat.le_refl _) _
  have hx1 : w1.heap[w.heap.size]? = some (.cells #[.string p.key, .string p.val] 24 (0, 0)) := by rw [hw1]; exact heap_alloc_new w _
  have x0 : w1.cell? ⟨w.heap.size, 0, none⟩ = some (.string p.key) := (blk_cells hx1).1 0
  have x1 : w1.cell? ⟨q, 1, none⟩ = some (.string k) := (hb1.cell (p := ⟨q, 1, none⟩) (World.block_lt_of_cell? w _ h)).trans h
  have HB1 := Lib.hid hb1
  have HW1 := Lib.hid hw1
  have c := compare_any p.key k w1
  clear hb1 hw1 hx1 h
  unfold PP.agg
  go_enter Try.func33, Try.ntmps33
  go_upto_region 1 with fail
  rw [← HW1.out]
  go_wp2_with fail
  refine c.mono ?_
  rintro e w2 ⟨rfl, rfl⟩
  go_wp2_with fail
  go_ret
  exact ⟨rfl, HB1.out⟩
set_option maxRecDepth 100000 in
theorem who_any (x : PL) (c : Int) (q : Nat) (w : World) (h : w.cell? ⟨q, 0, none⟩ = some (.int .i64 c)) :
    Calls Try.prog 39 #[x.agg, .pointer (some ⟨q, 0, none⟩)] w fun e w' => e = .returned (.bool (decide (x.client = c))) ∧ Below w.heap.size w w' := by
  obtain ⟨w1, hw1⟩ : ∃ w1, w1 = w.alloc (.cells #[.int .i64 x.client, .int .i64 x.id, .int .u8 x.res.kind, .bool x.res.found, .string x.res.val] 46) := ⟨_, rfl⟩
  have hb1 : Below w.heap.size w w1 := by rw [hw1]; exact (Below.refl _ _).alloc (Nat.le_refl _) _
  have hx1 : w1.heap[w.heap.size]? = some (.cells #[.int .i64 x.client, .int .i64 x.id, .int .u8 x.res.kind, .bool x.res.found, .string x.res.val] 46 (0, 0)) := by rw [hw1]; exact heap_alloc_new w _
  have x0 : w1.cell? ⟨w.heap.size, 0, none⟩ = some (.int .i64 x.client) := (blk_cells hx1).1 0
  have x1 : w1.cell? ⟨q, 0, none⟩ = some (.int .i64 c) := (hb1.cell (p := ⟨q, 0, none⟩) (World.block_lt_of_cell? w _ h)).trans h
  have HB1 := Lib.hid hb1
  have HW1 := Lib.hid hw1
  clear hb1 hw1 hx1 h
  unfold PL.agg
  go_enter Try.func39, Try.ntmps39
  go_upto_region 1 with fail
  rw [← HW1.out]
  go_wp2_with fail
  go_ret
  first
    | exact ⟨rfl, HB1.out⟩
    | exact ⟨by simp, HB1.out⟩
set_option maxRecDepth 100000 in
theorem pos_any (x : PL) (c : Int) (q : Nat) (w : World) (h : w.cell? ⟨q, 0, none⟩ = some (.int .i64 c)) :
    Calls Try.prog 41 #[x.agg, .pointer (some ⟨q, 0, none⟩)] w fun e w' => e = .returned (.int .i64 (cmpI x.client c)) ∧ Below w.heap.size w w' := by
  obtain ⟨w1, hw1⟩ : ∃ w1, w1 = w.alloc (.cells #[.int .i64 x.client, .int .i64 x.id, .int .u8 x.res.kind, .bool x.res.found, .string x.res.val] 46) := ⟨_, rfl⟩
  have hb1 : Below w.heap.size w w1 := by rw [hw1]; exact (Below.refl _ _).alloc (Nat.le_refl _) _
  have hx1 : w1.heap[w.heap.size]? = some (.cells #[.int .i64 x.client, .int .i64 x.id, .int .u8 x.res.kind, .bool x.res.found, .string x.res.val] 46 (0, 0)) := by rw [hw1]; exact heap_alloc_new w _
  have x0 : w1.cell? ⟨w.heap.size, 0, none⟩ = some (.int .i64 x.client) := (blk_cells hx1).1 0
  have x1 : w1.cell? ⟨q, 0, none⟩ = some (.int .i64 c) := (hb1.cell (p := ⟨q, 0, none⟩) (World.block_lt_of_cell? w _ h)).trans h
  have HB1 := Lib.hid hb1
  have HW1 := Lib.hid hw1
  have cc := cmpint_any x.client c w1
  clear hb1 hw1 hx1 h
  unfold PL.agg
  go_enter Try.func41, Try.ntmps41
  go_upto_region 1 with fail
  rw [← HW1.out]
  go_wp2_with fail
  refine cc.mono ?_
  rintro e w2 ⟨rfl, rfl⟩
  go_wp2_with fail
  go_ret
  exact ⟨rfl, HB1.out⟩
/-- fits -/
def fitsV (o : PO) (v : ByteArray) (had : Bool) : Bool := (o.had == had) && (!had || decide (o.old = v))
set_option maxRecDepth 100000 in
theorem pfits_any (o : PO) (v : ByteArray) (had : Bool) (w : World) :
    Calls Try.prog 31 #[o.agg, .string v, .bool had] w fun e w' => e = .returned (.bool (fitsV o v had)) ∧ Below w.heap.size w w' := by
  obtain ⟨w1, hw1⟩ : ∃ w1, w1 = w.alloc (.cells #[.int .u8 o.kind, .string o.key, .string o.val, .string o.old, .bool o.had] 32) := ⟨_, rfl⟩
  have hb1 : Below w.heap.size w w1 := by rw [hw1]; exact (Below.refl _ _).alloc (Nat.le_refl _) _
  have hx1 : w1.heap[w.heap.size]? = some (.cells #[.int .u8 o.kind, .string o.key, .string o.val, .string o.old, .bool o.had] 32 (0, 0)) := by rw [hw1]; exact heap_alloc_new w _
  have x3 : w1.cell? ⟨w.heap.size, 3, none⟩ = some (.string o.old) := (blk_cells hx1).1 3
  have x4 : w1.cell? ⟨w.heap.size, 4, none⟩ = some (.bool o.had) := (blk_cells hx1).1 4
  have HB1 := Lib.hid hb1
  have HW1 := Lib.hid hw1
  obtain ⟨r, hr⟩ : ∃ r, r = fitsV o v had := ⟨_, rfl⟩
  rw [← hr]
  have HR := Lib.hid hr
  clear hb1 hw1 hx1 hr
  unfold PO.agg
  go_enter Try.func31, Try.ntmps31
  go_upto_region 1 with fail
  rw [← HW1.out]
  cases hh : o.had with
  | true =>
    rw [hh] at x4
    cases had with
    | true =>
      by_cases hk : o.old = v
      · have hk2 := eqS_yes hk
        go_wp2_with fail
        go_ret
        exact ⟨by rw [HR.out]; unfold fitsV; rw [hh]; simp [hk], HB1.out⟩
      · have hk2 := eqS_no hk
        go_wp2_with fail
        go_ret
        exact ⟨by rw [HR.out]; unfold fitsV; rw [hh]; simp [hk], HB1.out⟩
    | false =>
      go_wp2_with fail
      go_ret
      exact ⟨by rw [HR.out]; unfold fitsV; rw [hh]; rfl, HB1.out⟩
  | false =>
    rw [hh] at x4
    cases had with
    | true =>
      go_wp2_with fail
      go_ret
      exact ⟨by rw [HR.out]; unfold fitsV; rw [hh]; rfl, HB1.out⟩
    | false =>
      go_wp2_with fail
      go_ret
      exact ⟨by rw [HR.out]; unfold fitsV; rw [hh]; rfl, HB1.out⟩
theorem fitsV_eq (l : List PP) (o : PO) : fitsV o ((findP l o.key).getD ⟨#[]⟩) (findP l o.key).isSome = fits l o := by
  rw [fits_eq]
  unfold fitsV
  cases findP l o.key with
  | none => cases o.had <;> rfl
  | some v =>
    cases o.had with
    | false => rfl
    | true => simp [eq_comm]
/-- checkWrite -/
def PO.werr (o : PO) : Int := if o.err ≠ 0 then o.err else if o.kind = 1 then 1 else 0
set_option maxRecDepth 100000 in
theorem pcheckw_any (o : PO) (w : World) (hk : 0 ≤ o.kind ∧ o.kind ≤ 255) :
    Calls Try.prog 35 #[o.agg] w fun e w' => e = .returned (.int .i64 o.werr) ∧ Below w.heap.size w w' := by
  obtain ⟨w1, hw1⟩ : ∃ w1, w1 = w.alloc (.cells #[.int .u8 o.kind, .string o.key, .string o.val, .string o.old, .bool o.had] 32) := ⟨_, rfl⟩
  have hb1 : Below w.heap.size w w1 := by rw [hw1]; exact (Below.refl _ _).alloc (Nat.le_refl _) _
  have hx1 : w1.heap[w.heap.size]? = some (.cells #[.int .u8 o.kind, .string o.key, .string o.val, .string o.old, .bool o.had] 32 (0, 0)) := by rw [hw1]; exact heap_alloc_new w _
  obtain ⟨p0, p1, p2, p3, p4⟩ : w1.cell? ⟨w.heap.size, 0, none⟩ = some (.int .u8 o.kind) ∧ w1.cell? ⟨w.heap.size, 1, none⟩ = some (.string o.key) ∧ w1.cell? ⟨w.heap.size, 2, none⟩ = some (.string o.val) ∧ w1.cell? ⟨w.heap.size, 3, none⟩ = some (.string o.old) ∧ w1.cell? ⟨w.heap.size, 4, none⟩ = some (.bool o.had) := ⟨(blk_cells hx1).1 0, (blk_cells hx1).1 1, (blk_cells hx1).1 2, (blk_cells hx1).1 3, (blk_cells hx1).1 4⟩
  have HB1 := Lib.hid hb1
  have HW1 := Lib.hid hw1
  have HX1 := Lib.hid hx1
  have c := pcheck_any o w1 hk
  obtain ⟨er, her⟩ : ∃ er, er = o.err := ⟨_, rfl⟩
  rw [← her] at c
  obtain ⟨r, hr⟩ : ∃ r, r = o.werr := ⟨_, rfl⟩
  rw [← hr]
  have HR := Lib.hid hr
  have HE := Lib.hid her
  obtain ⟨hk0, hk1⟩ := hk
  clear hb1 hw1 hx1 hr her
  unfold PO.agg at c ⊢
  go_enter Try.func35, Try.ntmps35
  go_upto_region 1 with fail
  rw [← HW1.out]
  go_wp2_with fail
  refine c.mono ?_
  rintro e w2 ⟨rfl, hb2⟩
  have hx2 := (hb2.block _ (Array.getElem?_eq_some_iff.1 HX1.out).1).trans HX1.out
  have y0 : w2.cell? ⟨w.heap.size, 0, none⟩ = some (.int .u8 o.kind) := (blk_cells hx2).1 0
  have HB2 := Lib.hid (HB1.out.trans (Joins.below_le hb2 HB1.out.size))
  clear p0 p1 p2 p3 p4 hx2 hb2 c
  by_cases he : er = 0
  · by_cases h1 : o.kind = 1
    · go_wp2_with fail
      go_ret
      exact ⟨by rw [HR.out]; unfold PO.werr; rw [if_neg (by rw [← HE.out]; exact fun h => h he), if_pos h1]; rfl, HB2.out⟩
    · go_wp2_with fail
      go_ret
      exact ⟨by rw [HR.out]; unfold PO.werr; rw [if_neg (by rw [← HE.out]; exact fun h => h he), if_neg h1]; rfl, HB2.out⟩
  · go_wp2_with fail
    go_ret
    exact ⟨by rw [HR.out]; unfold PO.werr; rw [if_pos (by rw [← HE.out]; exact he), ← HE.out]; rfl, HB2.out⟩
end Go.Proofs.Ytlgjidoehnhnoaa
