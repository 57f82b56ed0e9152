/-
  The program's map of what is kept, by who and which. No statement is proved here. No condition.
-/
import Derived.Test.YtfmaocinckeagaaDoorQRow
import Derived.Maps.OwnSet
import Derived.Maps.Views
import Derived.DeepKeys4
import Derived.WideKeyEntry
namespace Go.Proofs.YtfmaocinckeagaaDoor
open Go.RowKit Go.Maps

theorem laid_out : laidOutB Tryd.prog = true := by kernel_rfl
abbrev Key := Int × Int
/-- a key as a value -/
def Key.v (k : Key) : Value := .agg #[.int .i64 k.1, .int .i64 k.2]
def Key.good (k : Key) : Prop := (Lit.int .i64 k.1).wf = true ∧ (Lit.int .i64 k.2).wf = true
theorem good_of {a b : Int} (ha : I64 a) (hb : I64 b) : Key.good (a, b) := by
  unfold I64 at ha hb
  unfold Key.good
  have e1 : IntKind.i64.min = -9223372036854775808 := rfl
  have e2 : IntKind.i64.max = 9223372036854775807 := rfl
  simp [Lit.wf, e1, e2]
  omega
theorem key_law : WideMaps.KeyLaw Tryd.prog 67 := deep_law_laid laid_out (m := Tryd.prog.types.size + 1) (by decide +kernel) (by decide +kernel) (by kernel_rfl) (by kernel_rfl)
theorem key_keyed : Keyed Tryd.prog 67 := Keyed.of_law key_law
theorem key_type : Tryd.prog.keyType 67 = true := by kernel_rfl
theorem key_cells : Tryd.prog.cellsOf 67 = 2 := by kernel_rfl
theorem lits_int (d : Nat) {n : Int} (h : (Lit.int .i64 n).wf = true) : Tryd.prog.keyLits (d + 1) 3 [.int .i64 n] = some [.int .i64 n] := by
  unfold Program.keyLits
  rw [Tryd.underlying3]
  simp [h]
theorem key_key {k : Key} (h : k.good) : ∃ l, keyOf Tryd.prog 67 k.v = some l := by
  obtain ⟨h1, h2⟩ := h
  obtain ⟨d, hd⟩ : ∃ d, Tryd.prog.types.size = d + 1 := by
    have h0 : 0 < Tryd.prog.types.size := by decide +kernel
    exact ⟨Tryd.prog.types.size - 1, by omega⟩
  have hfm : k.v.formed Tryd.prog 67 = true := by
    unfold Key.v Value.formed
    rw [Tryd.underlying67]
    simp [key_cells]
  have hlits : Tryd.prog.keyLits (Tryd.prog.types.size + 1) 67 k.v.cells.toList = some [.int .i64 k.1, .int .i64 k.2] := by
    rw [hd]
    unfold Program.keyLits
    rw [Tryd.underlying67]
    have hcl : k.v.cells.toList = [.int .i64 k.1, .int .i64 k.2] := rfl
    rw [hcl]
    dsimp only
    have e1 : Tryd.prog.cellsOf 3 = 1 := by kernel_rfl
    simp [e1]
    refine ⟨key_cells.symm, [[.int .i64 k.1], [.int .i64 k.2]], ?_, rfl⟩
    rw [show List.range 2 = [0, 1] from rfl]
    simp [lits_int d h1, lits_int d h2]
  refine ⟨.string (keyBytes [.int .i64 k.1, .int .i64 k.2]), ?_⟩
  unfold keyOf
  rw [Tryd.underlying67]
  dsimp only
  rw [key_type, hfm, hlits]
  rfl
theorem key_inj {a b : Key} (h : a.v = b.v) : a = b := by
  unfold Key.v at h
  injection h with h
  simp at h
  exact Prod.ext h.1 h.2
theorem key_lit {k : Key} {l : Lit} (h : keyOf Tryd.prog 67 k.v = some l) : WideAt.IsKeyLit l := key_keyed.key h
/-- how a pointer reads in the map -/
def Rp : Value → Option (DataW Unit × List MemPlace)
  | .pointer (some ⟨p, 0, none⟩) => some (.lit (.int .i64 (p : Int)), [])
  | .pointer none => some (.lit (.int .i64 (-1)), [])
  | _ => none
theorem Rp_inv {v : Value} {d : DataW Unit} {ps : List MemPlace} (h : Rp v = some (d, ps)) : (∃ p : Nat, v = .pointer (some ⟨p, 0, none⟩) ∧ d = .lit (.int .i64 (p : Int))) ∨ (v = .pointer none ∧ d = .lit (.int .i64 (-1))) := by
  unfold Rp at h
  split at h
  · rename_i p
    injection h with h
    injection h with h1 h2
    exact .inl ⟨p, rfl, h1.symm⟩
  · injection h with h
    injection h with h1 h2
    exact .inr ⟨rfl, h1.symm⟩
  · cases h
theorem zero_ptr (W : World) : (zeroValue 68).run Tryd.prog W = .ok (.pointer none) W := by kernel_rfl
/-- what stands for a key in a list -/
def findA (A : List (Key × Nat)) (k : Key) : Option Nat := (A.find? fun x => decide (x.1 = k)).map (·.2)
def ptrO : Option Nat → Value
  | some p => .pointer (some ⟨p, 0, none⟩)
  | none => .pointer none
theorem findA_snoc {A : List (Key × Nat)} {k j : Key} {p : Nat} (h : findA A k = none) : findA (A ++ [(k, p)]) j = if k = j then some p else findA A j := by
  unfold findA at *
  rw [List.find?_append]
  by_cases hj : k = j
  · subst hj
    rw [if_pos rfl]
    have : A.find? (fun x => decide (x.1 = k)) = none := by simpa using h
    rw [this]
    simp
  · rw [if_neg hj]
    have e : [(k, p)].find? (fun x => decide (x.1 = j)) = none := by simp [hj]
    rw [e]
    cases A.find? (fun x => decide (x.1 = j)) <;> rfl
theorem findA_del {A : List (Key × Nat)} {k j : Key} : findA (A.filter fun x => !decide (x.1 = k)) j = if k = j then none else findA A j := by
  unfold findA
  by_cases hj : k = j
  · subst hj
    rw [if_pos rfl]
    have : (A.filter fun x => !decide (x.1 = k)).find? (fun x => decide (x.1 = k)) = none := by
      rw [List.find?_eq_none]
      intro x hx
      simpa using (List.mem_filter.1 hx).2
    rw [this]
    rfl
  · rw [if_neg hj, List.find?_filter]
    congr 2
    funext x
    by_cases hx : x.1 = j
    · simp [hx, Ne.symm hj]
    · simp [hx]
/-- block b is the map of a list's pairs -/
def MapJ (w : World) (b n : Nat) (A : List (Key × Nat)) : Prop := ∃ D : DataW Unit, w.ownsMap Tryd.prog 67 Rp b n D ∧ (∀ (k : Key) l, k.good → keyOf Tryd.prog 67 k.v = some l → has D l = (findA A k).isSome) ∧ (∀ (k : Key) l p z, k.good → keyOf Tryd.prog 67 k.v = some l → findA A k = some p → D.atKey l z = .lit (.int .i64 (p : Int)))
section
variable {w w' : World} {b n : Nat} {A : List (Key × Nat)}
theorem MapJ.made (w : World) : MapJ (w.alloc (.map #[] 0)) w.heap.size 0 [] := ⟨_, World.ownsMap_made w _ _ _, (fun _ _ _ _ => rfl), (fun _ _ _ _ _ _ h => by cases h)⟩
theorem MapJ.lt (h : MapJ w b n A) : b < w.heap.size := by obtain ⟨D, h, _⟩ := h; exact h.lt
theorem MapJ.same (h : MapJ w b n A) (hk : w'.heap[b]? = w.heap[b]?) : MapJ w' b n A := by
  obtain ⟨D, ⟨es, clock, hb, F, hs, hD⟩, h2⟩ := h
  exact ⟨D, ⟨es, clock, hk.trans hb, F, hs, hD⟩, h2⟩
theorem MapJ.mono {m : Nat} (h : MapJ w b n A) (hm : n ≤ m) : MapJ w b m A := by
  obtain ⟨D, h1, h2⟩ := h
  exact ⟨D, h1.mono hm, h2⟩
theorem MapJ.is_map (h : MapJ w b n A) : ∃ es clock, w.heap[b]? = some (.map es clock) := by
  obtain ⟨D, ⟨es, clock, hb, -⟩, -⟩ := h
  exact ⟨es, clock, hb⟩
theorem MapJ.look (h : MapJ w b n A) {k : Key} (hk : k.good) : (Instr.lookup 60 (.map (some b)) k.v false).run Tryd.prog w = .ok (ptrO (findA A k)) w := by
  obtain ⟨D, h1, h2, h3⟩ := h
  obtain ⟨l, hl⟩ := key_key hk
  obtain ⟨v, ps, hr, hv⟩ := h1.lookup (t := 60) (e := 68) key_keyed Tryd.underlying60 (zero_ptr w) (zd := .lit (.int .i64 (-1))) (zp := []) rfl hl
  rw [hr]
  cases hf : findA A k with
  | none =>
    have hn : has D l = false := by rw [h2 k l hk hl, hf]; rfl
    rw [atKey_of_not_has hn] at hv
    rcases Rp_inv hv with ⟨p, rfl, hd⟩ | ⟨rfl, -⟩
    · simp only [DataW.lit.injEq, Lit.int.injEq, true_and] at hd
      omega
    · rfl
  | some p =>
    rw [h3 k l p _ hk hl hf] at hv
    rcases Rp_inv hv with ⟨q, rfl, hd⟩ | ⟨rfl, hd⟩
    · simp only [DataW.lit.injEq, Lit.int.injEq, true_and] at hd
      have : q = p := by omega
      rw [this]
      rfl
    · simp only [DataW.lit.injEq, Lit.int.injEq, true_and] at hd
      omega
theorem MapJ.put (h : MapJ w b n A) {k : Key} (hk : k.good) (hn : n < maxLen) (hf : findA A k = none) (p : Nat) :
    ∃ w', (Instr.mapUpdate 60 (.map (some b)) k.v (.pointer (some ⟨p, 0, none⟩))).run Tryd.prog w = .ok () w' ∧ MapJ w' b (n + 1) (A ++ [(k, p)]) ∧ w.mapTurned w' b := by
  obtain ⟨D, h1, h2, h3⟩ := h
  obtain ⟨l, hl⟩ := key_key hk
  obtain ⟨w', hr, ho, ht⟩ := h1.store (t := 60) (e := 68) key_keyed Tryd.underlying60 hn (val := .pointer (some ⟨p, 0, none⟩)) (d := .lit (.int .i64 (p : Int))) (ps := []) hl rfl
  refine ⟨w', hr, ⟨_, ho, fun j m hj hm => ?_, fun j m x z hj hm hx => ?_⟩, ht⟩
  · rw [findA_snoc hf]
    by_cases hjk : k = j
    · subst hjk
      have : m = l := Option.some.inj (hm.symm.trans hl)
      rw [this]
      rw [if_pos rfl, has_put_same h1.isMap (key_lit hl)]
      rfl
    · rw [if_neg hjk, has_put_other (fun e => hjk (key_inj (key_keyed.inj hl (by rw [← e]; exact hm)))), h2 j m hj hm]
  · rw [findA_snoc hf] at hx
    by_cases hjk : k = j
    · subst hjk
      have : m = l := Option.some.inj (hm.symm.trans hl)
      rw [this]
      rw [if_pos rfl] at hx
      have hx := Option.some.inj hx
      rw [atKey_put_same h1.isMap (key_lit hl), hx]
    · rw [if_neg hjk] at hx
      rw [atKey_put_other (fun e => hjk (key_inj (key_keyed.inj hl (by rw [← e]; exact hm)))), h3 j m x z hj hm hx]
theorem MapJ.del (h : MapJ w b n A) {k : Key} (hk : k.good) (ty : TypeId) :
    ∃ w', (Builtin.delete_ #[60, 67] ty #[.map (some b), k.v]).run Tryd.prog w = .ok (.tuple #[]) w' ∧ MapJ w' b n (A.filter fun x => !decide (x.1 = k)) ∧ w.mapTurned w' b := by
  obtain ⟨D, h1, h2, h3⟩ := h
  obtain ⟨l, hl⟩ := key_key hk
  obtain ⟨w', hrn, ho, ht⟩ := h1.drop (t := 60) (e := 68) key_keyed Tryd.underlying60 hl ty
  refine ⟨w', hrn, ⟨_, ho, fun j m hj hm => ?_, fun j m x z hj hm hx => ?_⟩, ht⟩
  · rw [findA_del]
    by_cases hjk : k = j
    · subst hjk
      have : m = l := Option.some.inj (hm.symm.trans hl)
      rw [this]
      rw [if_pos rfl, has_del_same]
      rfl
    · rw [if_neg hjk, has_del_other (fun e => hjk (key_inj (key_keyed.inj hl (by rw [← e]; exact hm)))), h2 j m hj hm]
  · rw [findA_del] at hx
    by_cases hjk : k = j
    · rw [if_pos hjk] at hx
      cases hx
    · rw [if_neg hjk] at hx
      rw [atKey_del_other (fun e => hjk (key_inj (key_keyed.inj hl (by rw [← e]; exact hm)))), h3 j m x z hj hm hx]
end
end Go.Proofs.YtfmaocinckeagaaDoor
