/-
  append(s, make([]byte, k)...) of what is owned. No statement is proved here. No condition.
-/
import Derived.Test.YtedcknlafkokkaaNPut
import Derived.Lib.AppendZerosOnto
namespace Go.Proofs.Ytedcknlafkokkaa
open Go.RowKit

def nzs (n : Nat) : List UInt8 := List.replicate n 0
theorem nzs_length (n : Nat) : (nzs n).length = n := by simp [nzs]
theorem zero_cells (k : Nat) : (Builtin.zeroCells (Value.int .u8 0).cells k) = (BS (nzs k)).toArray := by
  apply Array.ext'
  show (Array.map _ (Array.range (k * 1))).toList = _
  simp only [Array.toList_map, Array.toList_range]
  unfold BS nzs
  rw [Nat.mul_one]
  apply List.ext_getElem?
  intro i
  by_cases h : i < k
  · rw [List.getElem?_map, List.getElem?_range h, List.getElem?_map, List.getElem?_replicate, if_pos h]
    show some ((#[Value.int .u8 0] : Array Value)[i % 1]!) = _
    rw [Nat.mod_one]
    rfl
  · rw [List.getElem?_eq_none (by simpa using h), List.getElem?_eq_none (by simpa using h)]
theorem run_append_zeros {P : Program} {w : World} (base : Nat) (t tn ty e : TypeId) (i : TypeInfo) (ht : P.underlying t = some (.slice e)) (htn : P.underlying tn = some (.int .i64)) (hi : P.info? e = some i) (hz : i.zero = some (.int .u8 0))
    (hsize : i.size = 1) (hby : i.bytes = 1) (v : Value) (l : List UInt8) (hown : w.ownsRow base e 1 v l.length (BS l)) (k : Nat) (hbytes : l.length + k ≤ 1000000000) (hbase : base ≤ w.heap.size) :
    ∃ A c w', (Builtin.append_ #[t, tn] ty #[v, .int .i64 (k : Int)]).run P w = .ok (.slice A (l ++ nzs k).length c) w' ∧ w'.ownsRow base e 1 (.slice A (l ++ nzs k).length c) (l ++ nzs k).length (BS (l ++ nzs k)) ∧ w.grownBy w' v.ownBlock := by
  have hlk : (l ++ nzs k).length = l.length + k := by rw [List.length_append, nzs_length]
  rw [hlk]
  have hw : IntKind.i64.wrap (k : Int) = k := by rw [IntKind.wrap_i64]; omega
  have hw0 : IntKind.i64.wrap 0 = 0 := by rw [IntKind.wrap_i64]; omega
  have hneg : ¬ ((k : Int) < 0) := by omega
  have h48i : ¬ (281474976710656 < (k : Int) * (i.bytes : Int)) := by rw [hby]; omega
  by_cases h0 : k = 0
  · subst h0
    have hn : (BS (l ++ nzs 0)) = BS l := by simp [nzs]
    rw [hn]
    rcases hown.2 with ⟨rfl, hl0⟩ | ⟨g, cap, cur, rfl, hbg, hg, hnc, hcm, hcs, htake⟩
    · have hl0' : l = [] := List.eq_nil_of_length_eq_zero hl0
      subst hl0'
      refine ⟨none, 0, w, ?_, hown, ⟨rfl, rfl, rfl, Nat.le_refl _, fun _ _ _ => rfl⟩⟩
      simp [Builtin.append_, run_underlying ht, run_underlying htn, sizeOf, typeInfo, zeroValue, hi, hz, asInt, asIntOf, hw0]
    · refine ⟨_, cap, w, ?_, hown, ⟨rfl, rfl, rfl, Nat.le_refl _, fun _ _ _ => rfl⟩⟩
      have hst := run_storeCells_at P g (l.length * 1) e [] 0 cur w hg (by simp [hcs]; omega) (by simp)
      simp only [Nat.add_zero] at hst
      simp [Builtin.append_, run_underlying ht, run_underlying htn, sizeOf, typeInfo, zeroValue, hi, hz, asInt, asIntOf, hw0, hnc, storeCells]
  · have hns : ¬ (k * i.size = 0) := Nat.mul_ne_zero h0 (by omega)
    have hcells := zero_cells k
    rcases hown.2 with ⟨rfl, hl0⟩ | ⟨g, cap, cur, rfl, hbg, hg, hnc, hcm, hcs, htake⟩
    · have hl0' : l = [] := List.eq_nil_of_length_eq_zero hl0
      subst hl0'
      have hr := Lib.run_append_nil_zeros (P := P) w t tn ty e i (.int .u8 0) .i64 .i64 ht htn hi hz k (by omega) (by omega) (by omega) (by rw [hby]; omega)
      have hge := grownCap_ge w k 0 e
      have hcm : grownCap w k 0 e ≤ maxLen := grownCap_le_maxLen w k 0 e (by unfold maxLen; omega)
      simp only [List.length_nil, Nat.zero_add, List.nil_append]
      refine ⟨_, _, _, hr, ⟨by simp [BS_length, nzs_length], .inr ⟨w.heap.size, _, _, rfl, hbase, heap_alloc_new w.drew _, hge, hcm, ?_, ?_⟩⟩, ⟨rfl, rfl, rfl, by simp, fun b hb _ => heap_alloc_old _ _ hb⟩⟩
      · simp only [Array.size_append, size_zeroCells]
        show k * 1 + (grownCap w k 0 e - k) * 1 = _
        omega
      · rw [hcells]
        simp only [Array.toList_append]
        rw [List.take_append_of_le_length (by simp [BS_length, nzs_length]), List.take_of_length_le (by simp [BS_length, nzs_length])]
    · by_cases hroom : l.length + k ≤ cap
      · have hfit : l.length * 1 + (BS (nzs k)).length ≤ cur.size := by rw [BS_length, nzs_length, hcs]; omega
        have hst := run_storeCells_at P g (l.length * 1) e (BS (nzs k)) 0 cur w hg (by simpa using hfit) (BS_one _)
        simp only [Nat.add_zero] at hst
        have hst' : (storeCells ⟨g, l.length, none⟩ (BS (nzs k))).run P w = .ok () (w.setRow g (cur.toList.take (l.length * 1) ++ BS (nzs k) ++ cur.toList.drop (l.length * 1 + (BS (nzs k)).length)).toArray) := by
          have e1 : (⟨g, l.length, none⟩ : Addr) = ⟨g, l.length * 1, none⟩ := by rw [Nat.mul_one]
          rw [e1]
          exact hst
        refine ⟨_, cap, w.setRow g (cur.toList.take (l.length * 1) ++ BS (nzs k) ++ cur.toList.drop (l.length * 1 + (BS (nzs k)).length)).toArray, ?_, ⟨by simp [BS_length, nzs_length], .inr ⟨g, cap, _, rfl, hbg, setRow_heap w g cur _ e _ hg, hroom, hcm, ?_, ?_⟩⟩, ⟨rfl, rfl, rfl, by simp, fun b hb hn => setRow_other w g b _ (fun e => hn (by simp [Value.ownBlock, e]))⟩⟩
        · simp [Builtin.append_, run_underlying ht, run_underlying htn, sizeOf, typeInfo, zeroValue, hi, hz, hsize, asInt, asIntOf, hw, hneg, h48i, h0, hroom, hcells, Addr.add_lit, hst']
        · simp only [List.size_toArray, List.length_append, List.length_take, List.length_drop, Array.length_toList]
          rw [BS_length, nzs_length] at hfit ⊢
          omega
        · rw [htake]
          simp only
          rw [BS_append, List.take_append_of_le_length (by simp [BS_length, nzs_length]), List.take_of_length_le (by simp [BS_length, nzs_length])]
      · have holds : ∀ j u, (BS l)[j]? = some u → w.drew.cell? ((⟨g, 0, none⟩ : Addr).add j) = some u := hown.cells (g := g) rfl
        have hold := run_firstCells_some (P := P) w.drew i.size l.length ⟨g, 0, none⟩ l.length cap (BS l) (by rw [hsize]; exact hown.1) holds
        have hr := Lib.run_append_grow_zeros (P := P) w t tn ty e i (.int .u8 0) .i64 .i64 ht htn hi hz (some ⟨g, 0, none⟩) l.length cap (BS l) hold k (by omega) (by omega) (by omega) (by omega) (by rw [hby]; omega) (growslice_fits (by omega) (by rw [hby]; omega))
        have hge := grownCap_ge w (l.length + k) cap e
        have hcm' : grownCap w (l.length + k) cap e ≤ maxLen := grownCap_le_maxLen w (l.length + k) cap e (by unfold maxLen; omega)
        refine ⟨_, _, _, hr, ⟨by simp [BS_length, nzs_length], .inr ⟨w.heap.size, _, _, rfl, hbase, heap_alloc_new w.drew _, hge, hcm', ?_, ?_⟩⟩, ⟨rfl, rfl, rfl, by simp, fun b hb _ => heap_alloc_old _ _ hb⟩⟩
        · simp only [Array.size_append, size_zeroCells, List.size_toArray, BS_length]
          show l.length + k * 1 + (grownCap w (l.length + k) cap e - (l.length + k)) * 1 = _
          omega
        · rw [hcells]
          simp only [Array.toList_append]
          rw [BS_append, List.take_append_of_le_length (by simp [BS_length, nzs_length]), List.take_of_length_le (by simp [BS_length, nzs_length])]
end Go.Proofs.Ytedcknlafkokkaa
