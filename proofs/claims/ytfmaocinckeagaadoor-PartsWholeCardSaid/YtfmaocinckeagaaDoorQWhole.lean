/-
  PartsWhole walked. No statement is proved here. Condition: the table reads as the program lays it.
-/
import Derived.Test.YtfmaocinckeagaaDoorQNothing
namespace Go.Proofs.YtfmaocinckeagaaDoor
open Go.RowKit

/-- a slice of numbers reads as these -/
def NumAt (w : World) (B : Nat) (v : Value) (zs : List Int) : Prop := ∃ (A : Option Addr) (c : Nat), v = .slice A zs.length c ∧ (∀ n ∈ zs, I64 n) ∧ (zs ≠ [] → ∃ b o, A = some ⟨b, o, none⟩ ∧ b < B ∧ ∀ (i : Nat) (z : Int), zs[i]? = some z → w.cell? ⟨b, o + i, none⟩ = some (.int .i64 z))
theorem mod_of (n mi : Int) (m : Nat) (hmi : mi = (m : Int)) (hm : 0 < m) (hm2 : m < 4294967296) : ∃ N : Nat, N < m ∧ wrap64 ((IntKind.u64.wrap n).tmod mi) = (N : Int) := by
  subst hmi
  have h1 : IntKind.u64.wrap n = n % 18446744073709551616 := IntKind.wrap_u64 n
  have h0 : 0 ≤ n % 18446744073709551616 := by omega
  have h2 : (n % 18446744073709551616).tmod (m : Int) = n % 18446744073709551616 % (m : Int) := Int.tmod_eq_emod_of_nonneg h0
  have h3 := Int.emod_nonneg (n % 18446744073709551616) (show (m : Int) ≠ 0 by omega)
  have h4 := Int.emod_lt_of_pos (n % 18446744073709551616) (show (0 : Int) < (m : Int) by omega)
  rw [h1, h2]
  refine ⟨(n % 18446744073709551616 % (m : Int)).toNat, by omega, ?_⟩
  unfold wrap64
  omega
def cntT (m : Nat) (t : Nat → Bool) : Nat := (List.range m).countP (fun i => !t i)
theorem cnt_pos {l : List UInt8} {t : Nat → Bool} : 0 < cntT (many l) t ↔ allT (many l) t = false := KPof_left (key := (0, 0))
theorem cnt_no (m : Nat) : cntT m noT = m := by
  have := List.countP_eq_length (p := fun i => !noT i) (l := List.range m)
  rw [List.length_range] at this
  exact this.2 fun i _ => rfl
theorem cnt_add {m i : Nat} {t : Nat → Bool} (hi : i < m) (ht : t i = false) : cntT m (addT t i) = cntT m t - 1 := count_set m i t hi ht
theorem addT_there {t : Nat → Bool} {i : Nat} (h : t i = true) : addT t i = t := by
  funext k
  unfold addT
  by_cases hk : k = i
  · subst hk; rw [h]; rfl
  · rw [show (k == i) = false by simpa using hk, Bool.or_false]
def boolR : Rec Bool where
  vals b := [.bool b]
  size := 1
  len _ := rfl
  one b u hu := by simp at hu; rw [hu]; rfl
theorem info_bool : (Tryd.prog.info? 4).map (fun i => (i.zero, i.size, i.bytes)) = some (some (.bool false), 1, 1) := by kernel_rfl
def ths (m : Nat) (t : Nat → Bool) : List Bool := (List.range m).map t
theorem ths_set {m i : Nat} {t : Nat → Bool} (hi : i < m) : (ths m t).set i true = ths m (addT t i) := by
  unfold ths
  apply List.ext_getElem (by simp)
  intro k h1 h2
  simp at h1 h2
  rw [List.getElem_set]
  by_cases hk : i = k
  · subst hk; simp [addT]
  · simp [addT, hk, Ne.symm hk]
/-- which parts are there, in memory at g -/
def ThAt (w : World) (g m : Nat) (t : Nat → Bool) : Prop := boolR.Own w 0 4 (.slice (some ⟨g, 0, none⟩) m m) (ths m t)
theorem ths_len (m : Nat) (t : Nat → Bool) : (ths m t).length = m := by simp [ths]
theorem ThAt.made (w : World) (m : Nat) (hm : m ≤ 100000) : ∃ w', (Instr.makeSlice 52 (.int .i64 (m : Int)) (.int .i64 (m : Int))).run Tryd.prog w = .ok (.slice (some ⟨w.heap.size, 0, none⟩) m m) w' ∧ ThAt w' w.heap.size m noT ∧ Below w.heap.size w w' ∧ w.heap.size < w'.heap.size := by
  obtain ⟨i0, hi, hz0, hz1, hz2⟩ := info_parts info_bool
  obtain ⟨w', h1, h2, h3⟩ := run_make_full (P := Tryd.prog) w 0 52 4 i0 _ 1 Tryd.underlying52 hi hz0 hz1 .i64 .i64 m (by rw [hz2]; omega) (by unfold maxLen; omega) (Nat.zero_le _)
  have hrow : (madeCells (Value.bool false).cells (m * 1)).toList = boolR.row (ths m noT) := by
    show (madeCells #[Value.bool false] (m * 1)).toList = _
    rw [toList_madeCells_one, Nat.mul_one]
    have : ths m noT = List.replicate m false := by
      unfold ths noT
      apply List.ext_getElem (by simp)
      intro k _ _
      simp
    rw [this]
    clear this h1 h2 h3 hm
    induction m with
    | zero => rfl
    | succ m ih => rw [List.replicate_succ, List.replicate_succ, boolR.row_cons, ← ih]; rfl
  rw [hrow] at h2
  refine ⟨w', h1, by unfold ThAt Rec.Own; rw [ths_len]; exact h2, (Below.refl _ _).grown h3 (Nat.le_refl _) (fun k h => by cases h), ?_⟩
  exact (h2.lt w.heap.size rfl).2
theorem ThAt.kept {w w' : World} {G : Nat → Prop} {g m : Nat} {t : Nat → Bool} (h : ThAt w g m t) (hK : Kept w w' G) (hg : ¬ G g) : ThAt w' g m t := row_same h fun p hp => by
  have : g = p := Option.some.inj hp
  subst this
  exact hK.block _ (h.lt _ rfl).2 hg
theorem ThAt.at_ {w : World} {g m i : Nat} {t : Nat → Bool} (h : ThAt w g m t) (hi : i < m) : w.cell? ⟨g, i, none⟩ = some (.bool (t i)) ∧ w.frozen? ⟨g, i, none⟩ = false ∧ ThAt (w.setCell ⟨g, i, none⟩ (.bool true)) g m (addT t i) := by
  have hi2 : i < (ths m t).length := by rw [ths_len]; exact hi
  obtain ⟨g', cap, hv, -, -, -, -, hcell, hfz, hupd⟩ := own_upd h hi2
  injection hv with e1 e2 e3
  injection e1 with e1
  injection e1 with e1
  subst e1
  have hc := hcell 0 _ rfl
  rw [show i * boolR.size + 0 = i by show i * 1 + 0 = i; omega] at hc
  obtain ⟨hu, -⟩ := hupd true
  have hset : w.setCells g (i * boolR.size) (boolR.vals true) = w.setCell ⟨g, i, none⟩ (.bool true) := by
    show w.setCells g (i * 1) [Value.bool true] = _
    rw [Nat.mul_one]
    rfl
  rw [hset, ths_set hi] at hu
  refine ⟨?_, hfz _, hu⟩
  rw [hc]
  simp [ths]
theorem NumAt.kept {w w' : World} {B : Nat} {v : Value} {zs : List Int} (h : NumAt w B v zs) (hb : Below B w w') : NumAt w' B v zs := by
  obtain ⟨A, c, h1, h2, h3⟩ := h
  refine ⟨A, c, h1, h2, fun hne => ?_⟩
  obtain ⟨b, o, e, hb', hc⟩ := h3 hne
  exact ⟨b, o, e, hb', fun i z hz => (hb.cell (p := ⟨b, o + i, none⟩) hb').trans (hc i z hz)⟩
end Go.Proofs.YtfmaocinckeagaaDoor
