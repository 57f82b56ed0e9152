/-
  Whether a cell, a node may be: the program's. No statement is proved here. No condition.
-/
import Derived.Test.YtedcknlafkokkaaNMem
namespace Go.Proofs.Ytedcknlafkokkaa
open Go.RowKit

def isCnt (n least : Int) : Bool := decide (least ≤ n) && decide (n ≤ 2147483647)
theorem iscount_any (n least : Int) (w : World) :
    Calls Try.prog 36 #[.int .i64 n, .int .i64 least] w fun e w' => e = .returned (.bool (isCnt n least)) ∧ w = w' := by
  go_enter Try.func36, Try.ntmps36
  by_cases h : least ≤ n
  · go_wp2_with fail
    go_ret
    refine ⟨?_, rfl⟩
    simp [isCnt, h]
  · go_wp2_with fail
    go_ret
    refine ⟨?_, rfl⟩
    simp [isCnt]
    omega
theorem tl_nil {b : ByteArray} : b.toList = [] ↔ b.size = 0 := by
  rw [ByteArray.toList_eq]
  cases b with
  | mk d => simp [ByteArray.size]
theorem bytes_empty {b : ByteArray} (h : b.size = 0) : b = ⟨#[]⟩ := by
  cases b with
  | mk d => congr 1; exact Array.eq_empty_of_size_eq_zero h
def PC.ok (leaf : Bool) (c : PC) : Prop := c.key.size ≤ 48 ∧ (if leaf then (if c.long = 0 then c.val.size ≤ 64 ∧ c.size = 0 else c.val.size = 0 ∧ isCnt c.long 1 = true ∧ isCnt c.size 1 = true) else c.val.size = 0 ∧ c.long = 0 ∧ c.size = 0)
instance (leaf : Bool) (c : PC) : Decidable (c.ok leaf) := by unfold PC.ok; infer_instance
theorem ret_bool {a b : Bool} (h : a = b) : Ending.returned (.bool a) = .returned (.bool b) := by rw [h]

theorem cellmay_any (c : PC) (leaf : Bool) (w : World) :
    Calls Try.prog 35 #[c.agg, .bool leaf] w fun e w' => e = .returned (.bool (decide (c.ok leaf))) ∧ Below w.heap.size w w' := by
  obtain ⟨key, val, long, size⟩ := c
  unfold PC.agg
  go_enter Try.func35, Try.ntmps35
  have hb : ∀ o, Below w.heap.size w (w.alloc o) := fun o => (Below.refl _ _).alloc (Nat.le_refl _) _
  by_cases hk : (key.size : Int) > 48
  · go_wp2_with fail
    go_ret
    refine ⟨?_, hb _⟩
    have : ¬ key.size ≤ 48 := by omega
    simp [PC.ok, this]
  · have hk' : key.size ≤ 48 := by omega
    cases leaf with
    | false =>
      by_cases hv : val.toList = []
      · have hv0 := tl_nil.1 hv
        by_cases hl : long = 0
        · by_cases hs : size = 0
          · subst hl hs
            go_wp2_with fail
            go_ret
            refine ⟨?_, hb _⟩
            simp [PC.ok, hk', hv0]
          · go_wp2_with fail
            go_ret
            refine ⟨?_, hb _⟩
            simp [PC.ok, hs]
        · go_wp2_with fail
          go_ret
          refine ⟨?_, hb _⟩
          simp [PC.ok, hl]
      · have hv0 : ¬ val.size = 0 := fun h => hv (tl_nil.2 h)
        go_wp2_with fail
        go_ret
        refine ⟨?_, hb _⟩
        simp [PC.ok, hv0]
    | true =>
      by_cases hl : long = 0
      · subst hl
        by_cases hv : (val.size : Int) ≤ 64
        · by_cases hs : size = 0
          · subst hs
            go_wp2_with fail
            go_ret
            refine ⟨?_, hb _⟩
            have : val.size ≤ 64 := by omega
            simp [PC.ok, hk', this]
          · go_wp2_with fail
            go_ret
            refine ⟨?_, hb _⟩
            simp [PC.ok, hs]
        · go_wp2_with fail
          go_ret
          refine ⟨?_, hb _⟩
          have : ¬ val.size ≤ 64 := by omega
          simp [PC.ok, this]
      · by_cases hv : val.toList = []
        · have hv0 := tl_nil.1 hv
          by_cases h1 : isCnt long 1 = true
          · go_wp2_with fail
            refine (iscount_any long 1 _).mono ?_
            rintro e w1 ⟨rfl, rfl⟩
            rw [h1]
            go_wp2_with fail
            refine (iscount_any size 1 _).mono ?_
            rintro e w1 ⟨rfl, rfl⟩
            go_wp2_with fail
            go_ret
            refine ⟨?_, hb _⟩
            apply ret_bool
            cases h2 : isCnt size 1 <;> simp [PC.ok, hk', hl, hv0, h1, h2]
          · have h1' : isCnt long 1 = false := by simpa using h1
            go_wp2_with fail
            refine (iscount_any long 1 _).mono ?_
            rintro e w1 ⟨rfl, rfl⟩
            rw [h1']
            go_wp2_with fail
            go_ret
            refine ⟨?_, hb _⟩
            apply ret_bool
            simp [PC.ok, hl, h1']
        · have hv0 : ¬ val.size = 0 := fun h => hv (tl_nil.2 h)
          go_wp2_with fail
          go_ret
          refine ⟨?_, hb _⟩
          simp [PC.ok, hv0, hl]

/-! ### Keys, one below another -/
theorem less_irrefl (x : List UInt8) : Op.bytesLess x x = false := by
  induction x with
  | nil => rfl
  | cons a x ih => simp [Op.bytesLess, ih]
theorem less_trans : ∀ {x y z : List UInt8}, Op.bytesLess x y = true → Op.bytesLess y z = true → Op.bytesLess x z = true := by
  intro x
  induction x with
  | nil =>
    intro y z h1 h2
    cases z with
    | nil => simp [Op.bytesLess] at h2
    | cons c z => rfl
  | cons a x ih =>
    intro y z h1 h2
    cases y with
    | nil => simp [Op.bytesLess] at h1
    | cons b y =>
      cases z with
      | nil => simp [Op.bytesLess] at h2
      | cons c z =>
        simp only [Op.bytesLess, Bool.or_eq_true, decide_eq_true_eq, Bool.and_eq_true, beq_iff_eq] at h1 h2 ⊢
        rcases h1 with h1 | ⟨rfl, h1⟩
        · rcases h2 with h2 | ⟨rfl, h2⟩
          · exact .inl (UInt8.lt_trans h1 h2)
          · exact .inl h1
        · rcases h2 with h2 | ⟨rfl, h2⟩
          · exact .inl h2
          · exact .inr ⟨rfl, ih h1 h2⟩
theorem less_total {x : List UInt8} : ∀ {y : List UInt8}, Op.bytesLess x y = false → Op.bytesLess y x = false → x = y := by
  induction x with
  | nil =>
    intro y h1 h2
    cases y with
    | nil => rfl
    | cons b y => simp [Op.bytesLess] at h1
  | cons a x ih =>
    intro y h1 h2
    cases y with
    | nil => simp [Op.bytesLess] at h2
    | cons b y =>
      simp only [Op.bytesLess, Bool.or_eq_false_iff, decide_eq_false_iff_not, Bool.and_eq_false_iff, beq_eq_false_iff_ne] at h1 h2
      have hab : a = b := UInt8.le_antisymm (UInt8.not_lt.1 h2.1) (UInt8.not_lt.1 h1.1)
      subst hab
      rw [ih (h1.2.resolve_left (fun h => h rfl)) (h2.2.resolve_left (fun h => h rfl))]
/-- one key below another -/
def kLt (a b : ByteArray) : Bool := Op.bytesLess a.toList b.toList
def PN.upto (n : PN) (i : Nat) : Prop := ∀ j c, j < i → n.cells[j]? = some c → c.ok n.leaf ∧ ∀ p, 0 < j → n.cells[j - 1]? = some p → kLt p.key c.key = true
/-- a node may be -/
def PN.may (n : PN) : Prop := n.upto n.cells.length ∧ (∀ k ∈ n.kids, isCnt k 0 = true) ∧ (if n.leaf then n.kids.length = 0 else n.kids.length = n.cells.length + 1)
open Classical in
noncomputable def PN.chk (n : PN) : Bool := decide n.may
theorem PN.chk_iff (n : PN) : n.chk = true ↔ n.may := by unfold PN.chk; simp
theorem PN.chk_no {n : PN} (h : ¬ n.may) : n.chk = false := by unfold PN.chk; simp [h]
theorem PN.chk_yes {n : PN} (h : n.may) : n.chk = true := n.chk_iff.2 h

/-- a boxed argument -/
theorem boxed {w wr : World} {C : Array Value} {T : TypeId} (h : wr.heap[w.heap.size]? = some (.cells C T (0, 0))) : w.heap.size < wr.heap.size := (Array.getElem?_eq_some_iff.1 h).1
theorem upto_succ {n : PN} {i : Nat} {c : PC} (h : n.upto i) (hc : n.cells[i]? = some c) (ok : c.ok n.leaf) (hp : ∀ p, 0 < i → n.cells[i - 1]? = some p → kLt p.key c.key = true) : n.upto (i + 1) := by
  intro j d hj hd
  by_cases hji : j < i
  · exact h j d hji hd
  · have : j = i := by omega
    subst this
    rw [hc] at hd
    injection hd with hd
    subst hd
    exact ⟨ok, hp⟩
set_option maxRecDepth 100000 in
theorem check_any (n : PN) (v : Value) (w : World) (h : NodeN w Any v n) (hl : n.cells.length ≤ 1000000) :
    Calls Try.prog 13 #[v] w fun e w' => e = .returned (.bool n.chk) ∧ Below w.heap.size w w' := by
  obtain ⟨vc, vk, rfl, hc, hk⟩ := h
  obtain ⟨Ac, cc, rfl, -, -⟩ := hc.slice
  obtain ⟨Ak, ck, rfl, hkl, hkm⟩ := hk.slice
  unfold maxLen at hkm
  have HC := Lib.hid hc
  have HK := Lib.hid hk
  clear hc hk
  have hb1 : Below w.heap.size w (w.alloc (.cells #[.bool n.leaf, .slice Ac n.cells.length cc, .slice Ak n.kids.length ck] 31)) := (Below.refl _ _).alloc (Nat.le_refl _) _
  have hx1 : (w.alloc (.cells #[.bool n.leaf, .slice Ac n.cells.length cc, .slice Ak n.kids.length ck] 31)).heap[w.heap.size]? = some (.cells #[.bool n.leaf, .slice Ac n.cells.length cc, .slice Ak n.kids.length ck] 31 (0, 0)) := heap_alloc_new w _
  have HB1 := Lib.hid hb1
  have HX1 := Lib.hid hx1
  clear hb1 hx1
  go_enter Try.func13, Try.ntmps13
  go_wp2_with fail
  go_loopw [2, 3, 4, 10] (fun _ _ _ s10 wr => ∃ i : Nat, s10 = .int .i64 (i : Int) ∧ i ≤ n.cells.length ∧ Hid (n.upto i) ∧ Hid (Below w.heap.size w wr) ∧ Hid (wr.heap[w.heap.size]? = some (.cells #[.bool n.leaf, .slice Ac n.cells.length cc, .slice Ak n.kids.length ck] 31 (0, 0)))) (fun _ _ _ s10 _ => n.cells.length - (intOf s10).toNat)
  case atStart => exact ⟨0, rfl, Nat.zero_le _, Lib.hid (fun j c hj => absurd hj (by omega)), HB1, HX1⟩
  case round =>
    clear HB1 HX1
    obtain ⟨i, rfl, hi, hup, hbw, hx⟩ := hrel
    obtain ⟨wz, hwz⟩ : ∃ wz : World, wz = wr := ⟨_, rfl⟩
    subst hwz
    have hlt := boxed hx.out
    by_cases hil : i < n.cells.length
    · have a1 : (i : Int) < (n.cells.length : Int) := by omega
      have a0 : (0 : Int) ≤ (i : Int) := by omega
      obtain ⟨c, hci⟩ : ∃ c, n.cells[i]? = some c := ⟨_, List.getElem?_eq_getElem hil⟩
      obtain ⟨b, o, n', k', hv, -, hbs, c0, c1, c2, c3⟩ := (HC.out.grow hbw.out).cell hci
      injection hv with e1 e2 e3
      subst e1 e2 e3
      have x0 : wz.cell? ⟨w.heap.size, 0, none⟩ = some (.bool n.leaf) := (row_cells hx.out).1 0
      have x1 : wz.cell? ⟨w.heap.size, 1, none⟩ = some (.slice (some ⟨b, o, none⟩) n.cells.length cc) := (row_cells hx.out).1 1
      go_upto_region 4 with fail
      obtain ⟨wa, hwa⟩ : ∃ wa, wa = wz.alloc (.cells #[.string c.key, .string c.val, .int .i64 c.long, .int .i64 c.size] 59) := ⟨_, rfl⟩
      have hba : Below wz.heap.size wz wa := by rw [hwa]; exact (Below.refl _ _).alloc (Nat.le_refl _) _
      have hxa : wa.heap[wz.heap.size]? = some (.cells #[.string c.key, .string c.val, .int .i64 c.long, .int .i64 c.size] 59 (0, 0)) := by rw [hwa]; exact heap_alloc_new wz _
      rw [← hwa]
      have hst : wa.cell? ⟨w.heap.size, 0, none⟩ = some (.bool n.leaf) ∧ wa.cell? ⟨w.heap.size, 1, none⟩ = some (.slice (some ⟨b, o, none⟩) n.cells.length cc) ∧ wa.cell? ⟨wz.heap.size, 0, none⟩ = some (.string c.key) ∧ wa.cell? ⟨wz.heap.size, 1, none⟩ = some (.string c.val) ∧ wa.cell? ⟨wz.heap.size, 2, none⟩ = some (.int .i64 c.long) ∧ wa.cell? ⟨wz.heap.size, 3, none⟩ = some (.int .i64 c.size) := ⟨(hba.cell (p := ⟨w.heap.size, 0, none⟩) hlt).trans x0, (hba.cell (p := ⟨w.heap.size, 1, none⟩) hlt).trans x1, (row_cells hxa).1 0, (row_cells hxa).1 1, (row_cells hxa).1 2, (row_cells hxa).1 3⟩
      have hkeep : ∀ w2, Below wa.drew.heap.size wa.drew w2 → w2.cell? ⟨w.heap.size, 0, none⟩ = some (.bool n.leaf) ∧ w2.cell? ⟨w.heap.size, 1, none⟩ = some (.slice (some ⟨b, o, none⟩) n.cells.length cc) ∧ w2.cell? ⟨wz.heap.size, 0, none⟩ = some (.string c.key) ∧ w2.cell? ⟨wz.heap.size, 1, none⟩ = some (.string c.val) ∧ w2.cell? ⟨wz.heap.size, 2, none⟩ = some (.int .i64 c.long) ∧ w2.cell? ⟨wz.heap.size, 3, none⟩ = some (.int .i64 c.size) := fun w2 hb => by
        have h1 := boxed hxa
        have h2 := hba.size
        replace hb := (Below.refl wa.heap.size wa).drew.trans hb
        exact ⟨(hb.cell (p := ⟨w.heap.size, 0, none⟩) (by show w.heap.size < _; omega)).trans hst.1, (hb.cell (p := ⟨w.heap.size, 1, none⟩) (by show w.heap.size < _; omega)).trans hst.2.1, (hb.cell (p := ⟨wz.heap.size, 0, none⟩) h1).trans hst.2.2.1, (hb.cell (p := ⟨wz.heap.size, 1, none⟩) h1).trans hst.2.2.2.1, (hb.cell (p := ⟨wz.heap.size, 2, none⟩) h1).trans hst.2.2.2.2.1, (hb.cell (p := ⟨wz.heap.size, 3, none⟩) h1).trans hst.2.2.2.2.2⟩
      have HKEEP := Lib.hid hkeep
      have HBA := Lib.hid hba
      have cM := cellmay_any c n.leaf
      clear hkeep hwa hba hxa x0 x1 c0 c1 c2 c3
      unfold PC.agg at cM
      by_cases hok : c.ok n.leaf
      · rw [decide_eq_true hok] at cM
        by_cases hi0 : i = 0
        · subst hi0
          refine wp_region_held_drew (S := (fun w' => w'.cell? ⟨w.heap.size, 0, none⟩ = some (.bool n.leaf) ∧ w'.cell? ⟨w.heap.size, 1, none⟩ = some (.slice (some ⟨b, o, none⟩) n.cells.length cc) ∧ w'.cell? ⟨wz.heap.size, 0, none⟩ = some (.string c.key) ∧ w'.cell? ⟨wz.heap.size, 1, none⟩ = some (.string c.val) ∧ w'.cell? ⟨wz.heap.size, 2, none⟩ = some (.int .i64 c.long) ∧ w'.cell? ⟨wz.heap.size, 3, none⟩ = some (.int .i64 c.size))) (by kernel_rfl) hst (fun hHeld => ?_)
          refine takeD (i := 0) (d := 15) (v := .agg #[.string c.key, .string c.val, .int .i64 c.long, .int .i64 c.size]) rfl rfl (by kernel_rfl) (by kernel_rfl) (by kernel_rfl) (fun _ _ _ h => h) (.inl ⟨by rfl, fun w hSw => by dsimp only at hSw; go_simp; try with_reducible rfl⟩) (by assumption) ?_
          simp only [Act.put, List.setIfInBounds_toArray, List.set_cons_zero, List.set_cons_succ]
          refine takeD (i := 1) (d := 16) (v := .pointer (some ⟨w.heap.size, 0, none⟩)) rfl rfl (by kernel_rfl) (by kernel_rfl) (by kernel_rfl) (fun _ _ _ h => h) (.inl ⟨by rfl, fun w hSw => by dsimp only at hSw; go_simp; try with_reducible rfl⟩) (by assumption) ?_
          simp only [Act.put, List.setIfInBounds_toArray, List.set_cons_zero, List.set_cons_succ]
          refine takeD (i := 2) (d := 17) (v := .bool n.leaf) rfl rfl (by kernel_rfl) (by kernel_rfl) (by kernel_rfl) (fun _ _ _ h => h) (.inl ⟨by rfl, fun w hSw => by dsimp only at hSw; go_simp; try with_reducible rfl⟩) (by assumption) ?_
          simp only [Act.put, List.setIfInBounds_toArray, List.set_cons_zero, List.set_cons_succ]
          refine wpAnyH_ready (rs := [3]) (by kernel_rfl) (by simp) ?_
          refine AllReadyH.cons rfl (fun K hK => ?_) AllReadyH.nil
          rw [if_pos (by rfl)]
          go_simp
          go_at_call 35
          refine (cM _).mono ?_
          rintro e w2 ⟨rfl, hb2⟩
          have hst2 := HKEEP.out w2 hb2
          dsimp only
          refine hK.out _ _ hst2 (fun hHeld2 => ?_)
          try simp only [Act.put, List.setIfInBounds_toArray, List.set_cons_zero, List.set_cons_succ]
          refine takeD (i := 4) (d := 19) (v := .bool false) rfl rfl (by kernel_rfl) (by kernel_rfl) (by kernel_rfl) (fun _ _ _ h => h) (.inl ⟨by rfl, fun w hSw => by dsimp only at hSw; go_simp; try with_reducible rfl⟩) (by assumption) ?_
          simp only [Act.put, List.setIfInBounds_toArray, List.set_cons_zero, List.set_cons_succ]
          refine takeD (i := 5) (d := 20) (v := .bool false) rfl rfl (by kernel_rfl) (by kernel_rfl) (by kernel_rfl) (fun _ _ _ h => h) (.inl ⟨by rfl, fun w hSw => by dsimp only at hSw; go_simp; try with_reducible rfl⟩) (by assumption) ?_
          simp only [Act.put, List.setIfInBounds_toArray, List.set_cons_zero, List.set_cons_succ]
          refine takeD (i := 6) (d := 21) (v := .int .i64 0) rfl rfl (by kernel_rfl) (by kernel_rfl) (by kernel_rfl) (fun _ _ _ h => h) (.inl ⟨by rfl, fun w hSw => by dsimp only at hSw; go_simp; try with_reducible rfl⟩) (by assumption) ?_
          simp only [Act.put, List.setIfInBounds_toArray, List.set_cons_zero, List.set_cons_succ]
          refine takeD (i := 7) (d := 22) (v := .bool false) rfl rfl (by kernel_rfl) (by kernel_rfl) (by kernel_rfl) (fun _ _ _ h => h) (.inl ⟨by rfl, fun w hSw => by dsimp only at hSw; go_simp; try with_reducible rfl⟩) (by assumption) ?_
          simp only [Act.put, List.setIfInBounds_toArray, List.set_cons_zero, List.set_cons_succ]
          refine takeD (i := 8) (d := 23) (v := .bool false) rfl rfl (by kernel_rfl) (by kernel_rfl) (by kernel_rfl) (fun _ _ _ h => h) (.inl ⟨by rfl, fun w hSw => by dsimp only at hSw; go_simp; try with_reducible rfl⟩) (by assumption) ?_
          simp only [Act.put, List.setIfInBounds_toArray, List.set_cons_zero, List.set_cons_succ]
          refine takeD (i := 9) (d := 24) (v := undef) rfl rfl (by kernel_rfl) (by kernel_rfl) (by kernel_rfl) (fun _ _ _ h => h) (.inr ⟨by rfl, rfl⟩) (by assumption) ?_
          simp only [Act.put, List.setIfInBounds_toArray, List.set_cons_zero, List.set_cons_succ]
          refine takeD (i := 10) (d := 25) (v := undef) rfl rfl (by kernel_rfl) (by kernel_rfl) (by kernel_rfl) (fun _ _ _ h => h) (.inr ⟨by rfl, rfl⟩) (by assumption) ?_
          simp only [Act.put, List.setIfInBounds_toArray, List.set_cons_zero, List.set_cons_succ]
          refine takeD (i := 11) (d := 26) (v := undef) rfl rfl (by kernel_rfl) (by kernel_rfl) (by kernel_rfl) (fun _ _ _ h => h) (.inr ⟨by rfl, rfl⟩) (by assumption) ?_
          simp only [Act.put, List.setIfInBounds_toArray, List.set_cons_zero, List.set_cons_succ]
          refine takeD (i := 12) (d := 27) (v := undef) rfl rfl (by kernel_rfl) (by kernel_rfl) (by kernel_rfl) (fun _ _ _ h => h) (.inr ⟨by rfl, rfl⟩) (by assumption) ?_
          simp only [Act.put, List.setIfInBounds_toArray, List.set_cons_zero, List.set_cons_succ]
          refine takeD (i := 13) (d := 28) (v := undef) rfl rfl (by kernel_rfl) (by kernel_rfl) (by kernel_rfl) (fun _ _ _ h => h) (.inr ⟨by rfl, rfl⟩) (by assumption) ?_
          simp only [Act.put, List.setIfInBounds_toArray, List.set_cons_zero, List.set_cons_succ]
          refine takeD (i := 14) (d := 29) (v := undef) rfl rfl (by kernel_rfl) (by kernel_rfl) (by kernel_rfl) (fun _ _ _ h => h) (.inr ⟨by rfl, rfl⟩) (by assumption) ?_
          simp only [Act.put, List.setIfInBounds_toArray, List.set_cons_zero, List.set_cons_succ]
          refine takeD (i := 15) (d := 30) (v := undef) rfl rfl (by kernel_rfl) (by kernel_rfl) (by kernel_rfl) (fun _ _ _ h => h) (.inr ⟨by rfl, rfl⟩) (by assumption) ?_
          simp only [Act.put, List.setIfInBounds_toArray, List.set_cons_zero, List.set_cons_succ]
          refine takeD (i := 16) (d := 31) (v := undef) rfl rfl (by kernel_rfl) (by kernel_rfl) (by kernel_rfl) (fun _ _ _ h => h) (.inr ⟨by rfl, rfl⟩) (by assumption) ?_
          simp only [Act.put, List.setIfInBounds_toArray, List.set_cons_zero, List.set_cons_succ]
          refine takeD (i := 17) (d := 32) (v := undef) rfl rfl (by kernel_rfl) (by kernel_rfl) (by kernel_rfl) (fun _ _ _ h => h) (.inr ⟨by rfl, rfl⟩) (by assumption) ?_
          simp only [Act.put, List.setIfInBounds_toArray, List.set_cons_zero, List.set_cons_succ]
          refine takeD (i := 18) (d := 33) (v := undef) rfl rfl (by kernel_rfl) (by kernel_rfl) (by kernel_rfl) (fun _ _ _ h => h) (.inr ⟨by rfl, rfl⟩) (by assumption) ?_
          simp only [Act.put, List.setIfInBounds_toArray, List.set_cons_zero, List.set_cons_succ]
          refine takeD (i := 19) (d := 34) (v := .bool false) rfl rfl (by kernel_rfl) (by kernel_rfl) (by kernel_rfl) (fun _ _ _ h => h) (.inl ⟨by rfl, fun w hSw => by dsimp only at hSw; go_simp; try with_reducible rfl⟩) (by assumption) ?_
          simp only [Act.put, List.setIfInBounds_toArray, List.set_cons_zero, List.set_cons_succ]
          refine takeD (i := 20) (d := 35) (v := .bool false) rfl rfl (by kernel_rfl) (by kernel_rfl) (by kernel_rfl) (fun _ _ _ h => h) (.inl ⟨by rfl, fun w hSw => by dsimp only at hSw; go_simp; try with_reducible rfl⟩) (by assumption) ?_
          simp only [Act.put, List.setIfInBounds_toArray, List.set_cons_zero, List.set_cons_succ]
          refine wpAnyH_done (by kernel_rfl) ?_ _
          have hbf : Below w.heap.size w w2 := (hbw.out.trans (Joins.below_le HBA.out hbw.out.size)).trans (Joins.below_le ((Below.refl _ _).drew.trans hb2) (Nat.le_trans hbw.out.size HBA.out.size))
          have HBF := Lib.hid hbf
          have HX2 : Hid (w2.heap[w.heap.size]? = some (.cells #[.bool n.leaf, .slice (some ⟨b, o, none⟩) n.cells.length cc, .slice Ak n.kids.length ck] 31 (0, 0))) := Lib.hid ((((Below.refl wa.heap.size wa).drew.trans hb2).block _ (by have := HBA.out.size; omega)).trans ((HBA.out.block _ hlt).trans hx.out))
          have HUP := Lib.hid (upto_succ hup.out hci hok (fun p h0 => absurd h0 (by omega)))
          clear hbf hb2 hst hst2
          go_wp2_with fail
          exact ⟨⟨1, by go_num, by omega, HUP, HBF, HX2⟩, by simp [intOf]; omega⟩
        · obtain ⟨p, hpi⟩ : ∃ p, n.cells[i - 1]? = some p := ⟨_, List.getElem?_eq_getElem (by omega)⟩
          obtain ⟨b', o', n', k', hv, -, hbs', p0, -, -, -⟩ := (HC.out.grow hbw.out).cell hpi
          injection hv with e1 e2 e3
          injection e1 with e1
          injection e1 with e1 e4 e5
          subst e1 e4 e2 e3
          clear e5
          have hp0 : wa.cell? ⟨b, o + (i - 1) * 4, none⟩ = some (.string p.key) := (HBA.out.cell (p := ⟨b, o + (i - 1) * 4, none⟩) hbs).trans p0
          have hkp : ∀ w2, Below wa.drew.heap.size wa.drew w2 → w2.cell? ⟨b, o + (i - 1) * 4, none⟩ = some (.string p.key) := fun w2 hb => (((Below.refl wa.heap.size wa).drew.trans hb).cell (p := ⟨b, o + (i - 1) * 4, none⟩) (by show b < _; have := HBA.out.size; omega)).trans hp0
          have HKP := Lib.hid hkp
          clear hkp p0
          obtain ⟨Kq, hKe⟩ : ∃ Kq, Kq = kLt p.key c.key := ⟨_, rfl⟩
          have hKe2 : Op.bytesLess p.key.toList c.key.toList = Kq := hKe.symm
          have hsub : wrap64 ((i : Int) - 1) = ((i - 1 : Nat) : Int) := by unfold wrap64; omega
          have hi1 : (0 : Int) < (i : Int) := by omega
          refine wp_region_held_drew (S := (fun w' => w'.cell? ⟨w.heap.size, 0, none⟩ = some (.bool n.leaf) ∧ w'.cell? ⟨w.heap.size, 1, none⟩ = some (.slice (some ⟨b, o, none⟩) n.cells.length cc) ∧ w'.cell? ⟨wz.heap.size, 0, none⟩ = some (.string c.key) ∧ w'.cell? ⟨wz.heap.size, 1, none⟩ = some (.string c.val) ∧ w'.cell? ⟨wz.heap.size, 2, none⟩ = some (.int .i64 c.long) ∧ w'.cell? ⟨wz.heap.size, 3, none⟩ = some (.int .i64 c.size) ∧ w'.cell? ⟨b, o + (i - 1) * 4, none⟩ = some (.string p.key))) (by kernel_rfl) ⟨hst.1, hst.2.1, hst.2.2.1, hst.2.2.2.1, hst.2.2.2.2.1, hst.2.2.2.2.2, hp0⟩ (fun hHeld => ?_)
          refine takeD (i := 0) (d := 15) (v := .agg #[.string c.key, .string c.val, .int .i64 c.long, .int .i64 c.size]) rfl rfl (by kernel_rfl) (by kernel_rfl) (by kernel_rfl) (fun _ _ _ h => h) (.inl ⟨by rfl, fun w hSw => by dsimp only at hSw; go_simp; try with_reducible rfl⟩) (by assumption) ?_
          simp only [Act.put, List.setIfInBounds_toArray, List.set_cons_zero, List.set_cons_succ]
          refine takeD (i := 1) (d := 16) (v := .pointer (some ⟨w.heap.size, 0, none⟩)) rfl rfl (by kernel_rfl) (by kernel_rfl) (by kernel_rfl) (fun _ _ _ h => h) (.inl ⟨by rfl, fun w hSw => by dsimp only at hSw; go_simp; try with_reducible rfl⟩) (by assumption) ?_
          simp only [Act.put, List.setIfInBounds_toArray, List.set_cons_zero, List.set_cons_succ]
          refine takeD (i := 2) (d := 17) (v := .bool n.leaf) rfl rfl (by kernel_rfl) (by kernel_rfl) (by kernel_rfl) (fun _ _ _ h => h) (.inl ⟨by rfl, fun w hSw => by dsimp only at hSw; go_simp; try with_reducible rfl⟩) (by assumption) ?_
          simp only [Act.put, List.setIfInBounds_toArray, List.set_cons_zero, List.set_cons_succ]
          refine wpAnyH_ready (rs := [3]) (by kernel_rfl) (by simp) ?_
          refine AllReadyH.cons rfl (fun K hK => ?_) AllReadyH.nil
          rw [if_pos (by rfl)]
          go_simp
          go_at_call 35
          refine (cM _).mono ?_
          rintro e w2 ⟨rfl, hb2⟩
          have hst2 := HKEEP.out w2 hb2
          dsimp only
          refine hK.out _ _ ⟨hst2.1, hst2.2.1, hst2.2.2.1, hst2.2.2.2.1, hst2.2.2.2.2.1, hst2.2.2.2.2.2, HKP.out w2 hb2⟩ (fun hHeld2 => ?_)
          try simp only [Act.put, List.setIfInBounds_toArray, List.set_cons_zero, List.set_cons_succ]
          refine takeD (i := 4) (d := 19) (v := .bool false) rfl rfl (by kernel_rfl) (by kernel_rfl) (by kernel_rfl) (fun _ _ _ h => h) (.inl ⟨by rfl, fun w hSw => by dsimp only at hSw; go_simp; try with_reducible rfl⟩) (by assumption) ?_
          simp only [Act.put, List.setIfInBounds_toArray, List.set_cons_zero, List.set_cons_succ]
          refine takeD (i := 5) (d := 20) (v := .bool false) rfl rfl (by kernel_rfl) (by kernel_rfl) (by kernel_rfl) (fun _ _ _ h => h) (.inl ⟨by rfl, fun w hSw => by dsimp only at hSw; go_simp; try with_reducible rfl⟩) (by assumption) ?_
          simp only [Act.put, List.setIfInBounds_toArray, List.set_cons_zero, List.set_cons_succ]
          refine takeD (i := 6) (d := 21) (v := .int .i64 (i : Int)) rfl rfl (by kernel_rfl) (by kernel_rfl) (by kernel_rfl) (fun _ _ _ h => h) (.inl ⟨by rfl, fun w hSw => by dsimp only at hSw; go_simp; try with_reducible rfl⟩) (by assumption) ?_
          simp only [Act.put, List.setIfInBounds_toArray, List.set_cons_zero, List.set_cons_succ]
          refine takeD (i := 7) (d := 22) (v := .bool true) rfl rfl (by kernel_rfl) (by kernel_rfl) (by kernel_rfl) (fun _ _ _ h => h) (.inl ⟨by rfl, fun w hSw => by dsimp only at hSw; go_simp; omega⟩) (by assumption) ?_
          simp only [Act.put, List.setIfInBounds_toArray, List.set_cons_zero, List.set_cons_succ]
          refine takeD (i := 8) (d := 23) (v := .bool true) rfl rfl (by kernel_rfl) (by kernel_rfl) (by kernel_rfl) (fun _ _ _ h => h) (.inl ⟨by rfl, fun w hSw => by dsimp only at hSw; go_simp; try with_reducible rfl⟩) (by assumption) ?_
          simp only [Act.put, List.setIfInBounds_toArray, List.set_cons_zero, List.set_cons_succ]
          refine takeD (i := 9) (d := 24) (v := .pointer (some ⟨w.heap.size, 1, none⟩)) rfl rfl (by kernel_rfl) (by kernel_rfl) (by kernel_rfl) (fun _ _ _ h => h) (.inl ⟨by rfl, fun w hSw => by dsimp only at hSw; go_simp; try with_reducible rfl⟩) (by assumption) ?_
          simp only [Act.put, List.setIfInBounds_toArray, List.set_cons_zero, List.set_cons_succ]
          refine takeD (i := 10) (d := 25) (v := .slice (some ⟨b, o, none⟩) n.cells.length cc) rfl rfl (by kernel_rfl) (by kernel_rfl) (by kernel_rfl) (fun _ _ _ h => h) (.inl ⟨by rfl, fun w hSw => by dsimp only at hSw; go_simp; try with_reducible rfl⟩) (by assumption) ?_
          simp only [Act.put, List.setIfInBounds_toArray, List.set_cons_zero, List.set_cons_succ]
          refine takeD (i := 11) (d := 26) (v := .int .i64 (i : Int)) rfl rfl (by kernel_rfl) (by kernel_rfl) (by kernel_rfl) (fun _ _ _ h => h) (.inl ⟨by rfl, fun w hSw => by dsimp only at hSw; go_simp; try with_reducible rfl⟩) (by assumption) ?_
          simp only [Act.put, List.setIfInBounds_toArray, List.set_cons_zero, List.set_cons_succ]
          refine takeD (i := 12) (d := 27) (v := .int .i64 ((i - 1 : Nat) : Int)) rfl rfl (by kernel_rfl) (by kernel_rfl) (by kernel_rfl) (fun _ _ _ h => h) (.inl ⟨by rfl, fun w hSw => by dsimp only at hSw; go_simp; rw [IntKind.wrap_i64]; omega⟩) (by assumption) ?_
          simp only [Act.put, List.setIfInBounds_toArray, List.set_cons_zero, List.set_cons_succ]
          refine takeD (i := 13) (d := 28) (v := .pointer (some ⟨b, o + (i - 1) * 4, none⟩)) rfl rfl (by kernel_rfl) (by kernel_rfl) (by kernel_rfl) (fun _ _ _ h => h) (.inl ⟨by rfl, fun w hSw => by dsimp only at hSw; go_simp; intro h; exact absurd h (by omega)⟩) (by assumption) ?_
          simp only [Act.put, List.setIfInBounds_toArray, List.set_cons_zero, List.set_cons_succ]
          refine takeD (i := 14) (d := 29) (v := .pointer (some ⟨b, o + (i - 1) * 4, none⟩)) rfl rfl (by kernel_rfl) (by kernel_rfl) (by kernel_rfl) (fun _ _ _ h => h) (.inl ⟨by rfl, fun w hSw => by dsimp only at hSw; go_simp; try with_reducible rfl⟩) (by assumption) ?_
          simp only [Act.put, List.setIfInBounds_toArray, List.set_cons_zero, List.set_cons_succ]
          refine takeD (i := 15) (d := 30) (v := .string p.key) rfl rfl (by kernel_rfl) (by kernel_rfl) (by kernel_rfl) (fun _ _ _ h => h) (.inl ⟨by rfl, fun w hSw => by dsimp only at hSw; go_simp; try with_reducible rfl⟩) (by assumption) ?_
          simp only [Act.put, List.setIfInBounds_toArray, List.set_cons_zero, List.set_cons_succ]
          refine takeD (i := 16) (d := 31) (v := .pointer (some ⟨wz.heap.size, 0, none⟩)) rfl rfl (by kernel_rfl) (by kernel_rfl) (by kernel_rfl) (fun _ _ _ h => h) (.inl ⟨by rfl, fun w hSw => by dsimp only at hSw; go_simp; try with_reducible rfl⟩) (by assumption) ?_
          simp only [Act.put, List.setIfInBounds_toArray, List.set_cons_zero, List.set_cons_succ]
          refine takeD (i := 17) (d := 32) (v := .string c.key) rfl rfl (by kernel_rfl) (by kernel_rfl) (by kernel_rfl) (fun _ _ _ h => h) (.inl ⟨by rfl, fun w hSw => by dsimp only at hSw; go_simp; try with_reducible rfl⟩) (by assumption) ?_
          simp only [Act.put, List.setIfInBounds_toArray, List.set_cons_zero, List.set_cons_succ]
          refine takeD (i := 18) (d := 33) (v := .bool (!Kq)) rfl rfl (by kernel_rfl) (by kernel_rfl) (by kernel_rfl) (fun _ _ _ h => h) (.inl ⟨by rfl, fun w hSw => by dsimp only at hSw; go_simp; try simp [hKe2]⟩) (by assumption) ?_
          simp only [Act.put, List.setIfInBounds_toArray, List.set_cons_zero, List.set_cons_succ]
          refine takeD (i := 19) (d := 34) (v := .bool (!Kq)) rfl rfl (by kernel_rfl) (by kernel_rfl) (by kernel_rfl) (fun _ _ _ h => h) (.inl ⟨by rfl, fun w hSw => by dsimp only at hSw; go_simp; try with_reducible rfl⟩) (by assumption) ?_
          simp only [Act.put, List.setIfInBounds_toArray, List.set_cons_zero, List.set_cons_succ]
          refine takeD (i := 20) (d := 35) (v := .bool (!Kq)) rfl rfl (by kernel_rfl) (by kernel_rfl) (by kernel_rfl) (fun _ _ _ h => h) (.inl ⟨by rfl, fun w hSw => by dsimp only at hSw; go_simp; try with_reducible rfl⟩) (by assumption) ?_
          simp only [Act.put, List.setIfInBounds_toArray, List.set_cons_zero, List.set_cons_succ]
          refine wpAnyH_done (by kernel_rfl) ?_ _
          have hbf : Below w.heap.size w w2 := (hbw.out.trans (Joins.below_le HBA.out hbw.out.size)).trans (Joins.below_le ((Below.refl _ _).drew.trans hb2) (Nat.le_trans hbw.out.size HBA.out.size))
          have HBF := Lib.hid hbf
          have HX2 : Hid (w2.heap[w.heap.size]? = some (.cells #[.bool n.leaf, .slice (some ⟨b, o, none⟩) n.cells.length cc, .slice Ak n.kids.length ck] 31 (0, 0))) := Lib.hid ((((Below.refl wa.heap.size wa).drew.trans hb2).block _ (by have := HBA.out.size; omega)).trans ((HBA.out.block _ hlt).trans hx.out))
          cases Kq with
          | true =>
            have HUP := Lib.hid (upto_succ hup.out hci hok (fun p' _ hp' => by rw [hpi] at hp'; injection hp' with hp'; subst hp'; exact hKe.symm))
            clear hbf hb2 hst hst2
            go_wp2_with fail
            exact ⟨⟨i + 1, by go_num, hil, HUP, HBF, HX2⟩, by simp [intOf]; omega⟩
          | false =>
            have hno : ¬ n.may := fun hm => by have := (hm.1 i c hil hci).2 p (by omega) hpi; rw [← hKe] at this; exact Bool.noConfusion this
            have HNO := Lib.hid hno
            clear hbf hb2 hst hst2 hno
            go_wp2_with fail
            go_ret
            exact ⟨ret_bool (PN.chk_no HNO.out).symm, HBF.out⟩
      · rw [decide_eq_false hok] at cM
        refine wp_region_held_drew (S := (fun w' => w'.cell? ⟨w.heap.size, 0, none⟩ = some (.bool n.leaf) ∧ w'.cell? ⟨w.heap.size, 1, none⟩ = some (.slice (some ⟨b, o, none⟩) n.cells.length cc) ∧ w'.cell? ⟨wz.heap.size, 0, none⟩ = some (.string c.key) ∧ w'.cell? ⟨wz.heap.size, 1, none⟩ = some (.string c.val) ∧ w'.cell? ⟨wz.heap.size, 2, none⟩ = some (.int .i64 c.long) ∧ w'.cell? ⟨wz.heap.size, 3, none⟩ = some (.int .i64 c.size))) (by kernel_rfl) hst (fun hHeld => ?_)
        refine takeD (i := 0) (d := 15) (v := .agg #[.string c.key, .string c.val, .int .i64 c.long, .int .i64 c.size]) rfl rfl (by kernel_rfl) (by kernel_rfl) (by kernel_rfl) (fun _ _ _ h => h) (.inl ⟨by rfl, fun w hSw => by dsimp only at hSw; go_simp; try with_reducible rfl⟩) (by assumption) ?_
        simp only [Act.put, List.setIfInBounds_toArray, List.set_cons_zero, List.set_cons_succ]
        refine takeD (i := 1) (d := 16) (v := .pointer (some ⟨w.heap.size, 0, none⟩)) rfl rfl (by kernel_rfl) (by kernel_rfl) (by kernel_rfl) (fun _ _ _ h => h) (.inl ⟨by rfl, fun w hSw => by dsimp only at hSw; go_simp; try with_reducible rfl⟩) (by assumption) ?_
        simp only [Act.put, List.setIfInBounds_toArray, List.set_cons_zero, List.set_cons_succ]
        refine takeD (i := 2) (d := 17) (v := .bool n.leaf) rfl rfl (by kernel_rfl) (by kernel_rfl) (by kernel_rfl) (fun _ _ _ h => h) (.inl ⟨by rfl, fun w hSw => by dsimp only at hSw; go_simp; try with_reducible rfl⟩) (by assumption) ?_
        simp only [Act.put, List.setIfInBounds_toArray, List.set_cons_zero, List.set_cons_succ]
        refine wpAnyH_ready (rs := [3]) (by kernel_rfl) (by simp) ?_
        refine AllReadyH.cons rfl (fun K hK => ?_) AllReadyH.nil
        rw [if_pos (by rfl)]
        go_simp
        go_at_call 35
        refine (cM _).mono ?_
        rintro e w2 ⟨rfl, hb2⟩
        have hst2 := HKEEP.out w2 hb2
        dsimp only
        refine hK.out _ _ hst2 (fun hHeld2 => ?_)
        try simp only [Act.put, List.setIfInBounds_toArray, List.set_cons_zero, List.set_cons_succ]
        refine takeD (i := 4) (d := 19) (v := .bool true) rfl rfl (by kernel_rfl) (by kernel_rfl) (by kernel_rfl) (fun _ _ _ h => h) (.inl ⟨by rfl, fun w hSw => by dsimp only at hSw; go_simp; try with_reducible rfl⟩) (by assumption) ?_
        simp only [Act.put, List.setIfInBounds_toArray, List.set_cons_zero, List.set_cons_succ]
        refine takeD (i := 5) (d := 20) (v := .bool true) rfl rfl (by kernel_rfl) (by kernel_rfl) (by kernel_rfl) (fun _ _ _ h => h) (.inl ⟨by rfl, fun w hSw => by dsimp only at hSw; go_simp; try with_reducible rfl⟩) (by assumption) ?_
        simp only [Act.put, List.setIfInBounds_toArray, List.set_cons_zero, List.set_cons_succ]
        refine takeD (i := 6) (d := 21) (v := undef) rfl rfl (by kernel_rfl) (by kernel_rfl) (by kernel_rfl) (fun _ _ _ h => h) (.inr ⟨by rfl, rfl⟩) (by assumption) ?_
        simp only [Act.put, List.setIfInBounds_toArray, List.set_cons_zero, List.set_cons_succ]
        refine takeD (i := 7) (d := 22) (v := undef) rfl rfl (by kernel_rfl) (by kernel_rfl) (by kernel_rfl) (fun _ _ _ h => h) (.inr ⟨by rfl, rfl⟩) (by assumption) ?_
        simp only [Act.put, List.setIfInBounds_toArray, List.set_cons_zero, List.set_cons_succ]
        refine takeD (i := 8) (d := 23) (v := undef) rfl rfl (by kernel_rfl) (by kernel_rfl) (by kernel_rfl) (fun _ _ _ h => h) (.inr ⟨by rfl, rfl⟩) (by assumption) ?_
        simp only [Act.put, List.setIfInBounds_toArray, List.set_cons_zero, List.set_cons_succ]
        refine takeD (i := 9) (d := 24) (v := undef) rfl rfl (by kernel_rfl) (by kernel_rfl) (by kernel_rfl) (fun _ _ _ h => h) (.inr ⟨by rfl, rfl⟩) (by assumption) ?_
        simp only [Act.put, List.setIfInBounds_toArray, List.set_cons_zero, List.set_cons_succ]
        refine takeD (i := 10) (d := 25) (v := undef) rfl rfl (by kernel_rfl) (by kernel_rfl) (by kernel_rfl) (fun _ _ _ h => h) (.inr ⟨by rfl, rfl⟩) (by assumption) ?_
        simp only [Act.put, List.setIfInBounds_toArray, List.set_cons_zero, List.set_cons_succ]
        refine takeD (i := 11) (d := 26) (v := undef) rfl rfl (by kernel_rfl) (by kernel_rfl) (by kernel_rfl) (fun _ _ _ h => h) (.inr ⟨by rfl, rfl⟩) (by assumption) ?_
        simp only [Act.put, List.setIfInBounds_toArray, List.set_cons_zero, List.set_cons_succ]
        refine takeD (i := 12) (d := 27) (v := undef) rfl rfl (by kernel_rfl) (by kernel_rfl) (by kernel_rfl) (fun _ _ _ h => h) (.inr ⟨by rfl, rfl⟩) (by assumption) ?_
        simp only [Act.put, List.setIfInBounds_toArray, List.set_cons_zero, List.set_cons_succ]
        refine takeD (i := 13) (d := 28) (v := undef) rfl rfl (by kernel_rfl) (by kernel_rfl) (by kernel_rfl) (fun _ _ _ h => h) (.inr ⟨by rfl, rfl⟩) (by assumption) ?_
        simp only [Act.put, List.setIfInBounds_toArray, List.set_cons_zero, List.set_cons_succ]
        refine takeD (i := 14) (d := 29) (v := undef) rfl rfl (by kernel_rfl) (by kernel_rfl) (by kernel_rfl) (fun _ _ _ h => h) (.inr ⟨by rfl, rfl⟩) (by assumption) ?_
        simp only [Act.put, List.setIfInBounds_toArray, List.set_cons_zero, List.set_cons_succ]
        refine takeD (i := 15) (d := 30) (v := undef) rfl rfl (by kernel_rfl) (by kernel_rfl) (by kernel_rfl) (fun _ _ _ h => h) (.inr ⟨by rfl, rfl⟩) (by assumption) ?_
        simp only [Act.put, List.setIfInBounds_toArray, List.set_cons_zero, List.set_cons_succ]
        refine takeD (i := 16) (d := 31) (v := undef) rfl rfl (by kernel_rfl) (by kernel_rfl) (by kernel_rfl) (fun _ _ _ h => h) (.inr ⟨by rfl, rfl⟩) (by assumption) ?_
        simp only [Act.put, List.setIfInBounds_toArray, List.set_cons_zero, List.set_cons_succ]
        refine takeD (i := 17) (d := 32) (v := undef) rfl rfl (by kernel_rfl) (by kernel_rfl) (by kernel_rfl) (fun _ _ _ h => h) (.inr ⟨by rfl, rfl⟩) (by assumption) ?_
        simp only [Act.put, List.setIfInBounds_toArray, List.set_cons_zero, List.set_cons_succ]
        refine takeD (i := 18) (d := 33) (v := undef) rfl rfl (by kernel_rfl) (by kernel_rfl) (by kernel_rfl) (fun _ _ _ h => h) (.inr ⟨by rfl, rfl⟩) (by assumption) ?_
        simp only [Act.put, List.setIfInBounds_toArray, List.set_cons_zero, List.set_cons_succ]
        refine takeD (i := 19) (d := 34) (v := undef) rfl rfl (by kernel_rfl) (by kernel_rfl) (by kernel_rfl) (fun _ _ _ h => h) (.inr ⟨by rfl, rfl⟩) (by assumption) ?_
        simp only [Act.put, List.setIfInBounds_toArray, List.set_cons_zero, List.set_cons_succ]
        refine takeD (i := 20) (d := 35) (v := .bool true) rfl rfl (by kernel_rfl) (by kernel_rfl) (by kernel_rfl) (fun _ _ _ h => h) (.inl ⟨by rfl, fun w hSw => by dsimp only at hSw; go_simp; try with_reducible rfl⟩) (by assumption) ?_
        simp only [Act.put, List.setIfInBounds_toArray, List.set_cons_zero, List.set_cons_succ]
        refine wpAnyH_done (by kernel_rfl) ?_ _
        have hbf : Below w.heap.size w w2 := (hbw.out.trans (Joins.below_le HBA.out hbw.out.size)).trans (Joins.below_le ((Below.refl _ _).drew.trans hb2) (Nat.le_trans hbw.out.size HBA.out.size))
        have HBF := Lib.hid hbf
        clear hbf hb2 hst hst2
        go_wp2_with fail
        go_ret
        refine ⟨ret_bool (PN.chk_no fun hm => hok (hm.1 i c hil hci).1).symm, HBF.out⟩
    · have a1 : ¬ (i : Int) < (n.cells.length : Int) := by omega
      have hie : i = n.cells.length := by omega
      have hup' : n.upto n.cells.length := hie ▸ hup.out
      have HUP := Lib.hid hup'
      have x2 : wz.cell? ⟨w.heap.size, 2, none⟩ = some (.slice Ak n.kids.length ck) := (row_cells hx.out).1 2
      clear hup hup' hie
      go_wp2_with fail
      go_loopw [2, 6, 40] (fun _ _ s40 wr => ∃ j : Nat, s40 = .int .i64 (j : Int) ∧ j ≤ n.kids.length ∧ Hid (∀ (m : Nat) (k : Int), m < j → n.kids[m]? = some k → isCnt k 0 = true) ∧ wr = wz) (fun _ _ s40 _ => n.kids.length - (intOf s40).toNat)
      case atStart => exact ⟨0, rfl, Nat.zero_le _, Lib.hid (fun m k hm => absurd hm (by omega)), rfl⟩
      case round =>
        obtain ⟨j, rfl, hj, hks, rfl⟩ := hrel
        by_cases hjl : j < n.kids.length
        · have b1 : (j : Int) < (n.kids.length : Int) := by omega
          have b0 : (0 : Int) ≤ (j : Int) := by omega
          obtain ⟨k, hkj⟩ : ∃ k, n.kids[j]? = some k := ⟨_, List.getElem?_eq_getElem hjl⟩
          obtain ⟨b, o, n', k', hv, -, hbs, c0⟩ := (HK.out.grow hbw.out).cell hkj
          injection hv with e1 e2 e3
          subst e1 e2 e3
          have cI := iscount_any k 0
          go_wp2_with fail
          refine (cI _).mono ?_
          rintro e w2 ⟨rfl, rfl⟩
          by_cases hik : isCnt k 0 = true
          · rw [hik]
            go_wp2_with fail
            refine ⟨⟨j + 1, by go_num, hjl, Lib.hid (fun m k' hm hk' => ?_), trivial⟩, by simp [intOf]; omega⟩
            by_cases hmj : m < j
            · exact hks.out m k' hmj hk'
            · have : m = j := by omega
              subst this
              rw [hkj] at hk'
              injection hk' with hk'
              subst hk'
              exact hik
          · have hik' : isCnt k 0 = false := by simpa using hik
            rw [hik']
            go_wp2_with fail
            go_ret
            exact ⟨ret_bool (PN.chk_no fun hm => hik (hm.2.1 k (List.mem_of_getElem? hkj))).symm, hbw.out⟩
        · have b1 : ¬ (j : Int) < (n.kids.length : Int) := by omega
          have hall : ∀ k ∈ n.kids, isCnt k 0 = true := fun k hk => by
            obtain ⟨m, hm, rfl⟩ := List.getElem_of_mem hk
            exact hks.out m _ (by omega) (List.getElem?_eq_getElem hm)
          have HALL := Lib.hid hall
          have x0 : wr.cell? ⟨w.heap.size, 0, none⟩ = some (.bool n.leaf) := (row_cells hx.out).1 0
          have x1 : wr.cell? ⟨w.heap.size, 1, none⟩ = some (.slice Ac n.cells.length cc) := (row_cells hx.out).1 1
          clear hks hall
          cases hlf : n.leaf with
          | true =>
            rw [hlf] at x0
            go_wp2_with fail
            go_ret
            refine ⟨ret_bool ?_, hbw.out⟩
            by_cases h0 : n.kids.length = 0
            · rw [PN.chk_yes ⟨HUP.out, HALL.out, by rw [hlf]; exact h0⟩]
              simp [h0]
            · rw [PN.chk_no fun hm => h0 (by have := hm.2.2; rw [hlf] at this; exact this)]
              simpa using h0
          | false =>
            rw [hlf] at x0
            go_wp2_with fail
            go_ret
            refine ⟨ret_bool ?_, hbw.out⟩
            by_cases h0 : n.kids.length = n.cells.length + 1
            · rw [PN.chk_yes ⟨HUP.out, HALL.out, by rw [hlf]; exact h0⟩]
              simp [h0]
            · rw [PN.chk_no fun hm => h0 (by have := hm.2.2; rw [hlf] at this; exact this)]
              simp
              omega
end Go.Proofs.Ytedcknlafkokkaa
