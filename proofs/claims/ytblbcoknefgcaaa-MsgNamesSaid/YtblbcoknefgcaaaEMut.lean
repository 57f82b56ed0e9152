/-
  Owned rows of records, changed in place: an element set, one put between, a copy. No statement is proved here. No condition.
-/
import Derived.Test.YtblbcoknefgcaaaRecs
import Derived.Laws.CopyRow
import Derived.Laws.CopyOwn
import Derived.Laws.IdiomCopy
import Derived.Lib.Overlaps
import Derived.Deep.Upon
import Derived.Lib.AppendZerosOnto
namespace Go.Proofs.Ytblbcoknefgcaaa
open Go.RowKit

/-- nothing of what was there has turned, but perhaps the row's own block -/
def Near (v : Value) (w w' : World) : Prop := ∀ b, b < w.heap.size → v.ownBlock ≠ some b → w'.heap[b]? = w.heap[b]?
theorem Near.below {v : Value} {w w' : World} (h : Below w.heap.size w w') : Near v w w' := fun b hb _ => h.block b hb
theorem Near.trans {v : Value} {w w1 w2 : World} (h : Near v w w1) (k : Near v w1 w2) (hs : w.heap.size ≤ w1.heap.size) : Near v w w2 := fun b hb hv => (k b (by omega) hv).trans (h b hb hv)
theorem Near.setRow {w : World} {g n c : Nat} (cs : Array Value) : Near (.slice (some ⟨g, 0, none⟩) n c) w (w.setRow g cs) := fun _ _ hv => setRow_other w g _ cs fun e => hv (by rw [e]; rfl)
theorem Near.setCells {w : World} {g n c : Nat} (vs : List Value) (o : Nat) : Near (.slice (some ⟨g, 0, none⟩) n c) w (w.setCells g o vs) := fun _ hb hv => World.heap_setCells_other w g o vs hb fun e => hv (by rw [e]; rfl)
theorem Near.grown {v : Value} {w w' : World} (h : w.grownBy w' v.ownBlock) : Near v w w' := fun b hb hv => h.block b hb fun e => hv e.symm
theorem Near.len {A : Option Addr} {n m c c' : Nat} {w w' : World} (h : Near (.slice A n c) w w') : Near (.slice A m c') w w' := fun b hb hv => h b hb (by cases A <;> exact hv)

section
variable {α : Type} {R : Rec α} {w : World}
/-- an owned row's block, spelt out -/
theorem own_opened {B : Nat} {T : TypeId} {v : Value} {l : List α} (h : R.Own w B T v l) :
    (v = .slice none 0 0 ∧ l = []) ∨ ∃ g cap rest, v = .slice (some ⟨g, 0, none⟩) l.length cap ∧ B ≤ g ∧ w.heap[g]? = some (.cells (R.row l ++ rest).toArray T (0, 0)) ∧ l.length ≤ cap ∧ cap ≤ maxLen ∧ l.length * R.size + rest.length = cap * R.size := by
  rcases h.2 with ⟨hv, hn⟩ | ⟨g, cap, cur, hv, hb, hg, hnc, hcm, hcs, htk⟩
  · exact .inl ⟨by rw [hv], List.eq_nil_of_length_eq_zero hn⟩
  · have hc : cur = (R.row l ++ cur.toList.drop (l.length * R.size)).toArray := by
      rw [← htk, List.take_append_drop, Array.toArray_toList]
    refine .inr ⟨g, cap, cur.toList.drop (l.length * R.size), hv, hb, by rw [← hc]; exact hg, hnc, hcm, ?_⟩
    rw [List.length_drop]
    have e : cur.toList.length = cap * R.size := hcs
    have := Nat.mul_le_mul_right R.size hnc
    omega
theorem Rec.own_closed {B g cap : Nat} {T : TypeId} {l : List α} {rest : List Value} (hb : B ≤ g) (hg : w.heap[g]? = some (.cells (R.row l ++ rest).toArray T (0, 0))) (hn : l.length ≤ cap) (hc : cap ≤ maxLen) (hr : l.length * R.size + rest.length = cap * R.size) :
    R.Own w B T (.slice (some ⟨g, 0, none⟩) l.length cap) l := by
  refine ⟨R.row_length l, .inr ⟨g, cap, _, rfl, hb, hg, hn, hc, ?_, ?_⟩⟩
  · rw [List.size_toArray, List.length_append, R.row_length, hr]
  · show (R.row l ++ rest).take (l.length * R.size) = R.row l
    rw [List.take_append_of_le_length (by rw [R.row_length]; exact Nat.le_refl _), List.take_of_length_le (by rw [R.row_length]; exact Nat.le_refl _)]
/-- cells set one by one are the row set -/
theorem setCells_setRow {g o : Nat} {T : TypeId} {pre old post vs : List Value} (hg : w.heap[g]? = some (.cells (pre ++ old ++ post).toArray T (0, 0))) (ho : pre.length = o) (hold : old.length = vs.length) (h1 : ∀ v ∈ vs, v.oneCell' = true) :
    w.setCells g o vs = w.setRow g (pre ++ vs ++ post).toArray := by
  have a := run_storeCells_at (default : Program) g o T vs 0 _ w hg (by simp; omega) h1
  have b := run_storeCells_cells (P := (default : Program)) g o vs 0 w (fun j hj => by
    simp only [World.cell?, hg]
    simp
    omega) (fun j hj => by simp [World.frozen?, hg]) h1
  rw [a] at b
  injection b with _ b
  rw [Nat.add_zero] at b
  rw [← b]
  congr 2
  show List.take o (pre ++ old ++ post) ++ vs ++ List.drop (o + vs.length) (pre ++ old ++ post) = _
  rw [← ho, List.append_assoc pre old post, List.take_left, ← hold, List.drop_append, List.drop_of_length_le (by omega), List.nil_append, show pre.length + old.length - pre.length = old.length by omega, List.drop_left]
/-- copy into a row's cells, of whatever size the elements -/
theorem run_copyK {P : Program} (dT sT ty elem : TypeId) {g o dLen dCap : Nat} {a : Addr} {sLen sCap k : Nat} {T : TypeId} {pre old post cs : List Value} (hu : P.underlying dT = some (.slice elem)) (hs : (P.info? elem).map (·.size) = some k)
    (hg : w.heap[g]? = some (.cells (pre ++ old ++ post).toArray T (0, 0))) (ho : pre.length = o) (hold : old.length = cs.length) (hn : cs.length = Nat.min sLen dLen * k)
    (hsrc : ∀ j v, cs[j]? = some v → w.cell? (a.add j) = some v) (h1 : ∀ v ∈ cs, v.oneCell' = true) :
    (Builtin.copy_ #[dT, sT] ty #[.slice (some ⟨g, o, none⟩) dLen dCap, .slice (some a) sLen sCap]).run P w = .ok (goInt (Nat.min sLen dLen)) (w.setRow g (pre ++ cs ++ post).toArray) := by
  have hl := run_loadCells_list (P := P) w a cs hsrc
  have hst := run_storeCells_at P g o T cs 0 _ w hg (by simp; omega) h1
  have hst2 : (storeCells ⟨g, o, none⟩ cs 0).run P w = .ok () (w.setRow g (pre ++ cs ++ post).toArray) := by
    rw [hst]
    congr 3
    show List.take (o + 0) (pre ++ old ++ post) ++ cs ++ List.drop (o + 0 + cs.length) (pre ++ old ++ post) = _
    rw [Nat.add_zero, ← ho, List.append_assoc pre old post, List.take_left, ← hold, List.drop_append, List.drop_of_length_le (by omega), List.nil_append, show pre.length + old.length - pre.length = old.length by omega, List.drop_left]
  cases hq : P.info? elem with
  | none => simp [hq] at hs
  | some i =>
    have hi : i.size = k := by simpa [hq] using hs
    simp [Builtin.copy_, run_underlying hu, Builtin.lenOf, Builtin.firstCells, sizeOf, typeInfo, hq, hi, ← hn, hl, hst2]
theorem Rec.row_take_drop (l : List α) (i : Nat) : R.row l = R.row (l.take i) ++ R.row (l.drop i) := by rw [← R.row_append, List.take_append_drop]
theorem Rec.row_at {l : List α} {i : Nat} (hi : i < l.length) : R.row (l.drop i) = R.vals l[i] ++ R.row (l.drop (i + 1)) := by rw [List.drop_eq_getElem_cons hi, R.row_cons]
theorem Rec.row_set {l : List α} {i : Nat} (hi : i < l.length) (x : α) : R.row (l.set i x) = R.row (l.take i) ++ R.vals x ++ R.row (l.drop (i + 1)) := by
  rw [List.set_eq_take_append_cons_drop, if_pos hi, R.row_append, R.row_cons, List.append_assoc]
/-- an element set -/
theorem own_upd {B : Nat} {T : TypeId} {v : Value} {l : List α} (h : R.Own w B T v l) {i : Nat} (hi : i < l.length) :
    ∃ g cap, v = .slice (some ⟨g, 0, none⟩) l.length cap ∧ B ≤ g ∧ g < w.heap.size ∧ l.length ≤ cap ∧ cap ≤ maxLen ∧ (∀ j u, (R.vals l[i])[j]? = some u → w.cell? ⟨g, i * R.size + j, none⟩ = some u) ∧ (∀ k, w.frozen? ⟨g, k, none⟩ = false) ∧
      ∀ x, R.Own (w.setCells g (i * R.size) (R.vals x)) B T v (l.set i x) ∧ Below B w (w.setCells g (i * R.size) (R.vals x)) := by
  rcases own_opened h with ⟨-, rfl⟩ | ⟨g, cap, rest, rfl, hb, hg, hn, hc, hr⟩
  · simp at hi
  · refine ⟨g, cap, rfl, hb, (Array.getElem?_eq_some_iff.1 hg).1, hn, hc, fun j u hu => ?_, (blk_cells hg).2, fun x => ?_⟩
    · rw [(blk_cells hg).1, List.getElem?_toArray, List.getElem?_append_left]
      · exact R.row_get (List.getElem?_eq_getElem hi) hu
      · have hj := (List.getElem?_eq_some_iff.1 hu).1
        rw [R.len] at hj
        rw [R.row_length]
        have := Nat.mul_le_mul_right R.size (show i + 1 ≤ l.length by omega)
        rw [Nat.succ_mul] at this
        omega
    · have hlen : (R.row (l.take i)).length = i * R.size := by rw [R.row_length, List.length_take, Nat.min_eq_left (by omega)]
      rw [R.row_take_drop l i, R.row_at hi] at hg
      have hg2 : w.heap[g]? = some (.cells (R.row (l.take i) ++ R.vals l[i] ++ (R.row (l.drop (i + 1)) ++ rest)).toArray T (0, 0)) := by rw [hg]; simp
      have e := setCells_setRow (vs := R.vals x) hg2 hlen (by rw [R.len, R.len]) (R.one x)
      have hg3 := setRow_heap w g _ (R.row (l.take i) ++ R.vals x ++ (R.row (l.drop (i + 1)) ++ rest)).toArray T _ hg2
      rw [e]
      refine ⟨?_, below_setRow (Below.refl _ _) hb _⟩
      have := Rec.own_closed (T := T) (R := R) (l := l.set i x) (rest := rest) (cap := cap) hb (by rw [hg3, R.row_set hi]; simp) (by simpa using hn) hc (by simpa using hr)
      simpa using this
/-- a row that has no room is laid anew, cut at i, with noughts behind -/
theorem run_grow_zeros {P : Program} {B g cap : Nat} {t tn ty e : TypeId} {inf : TypeInfo} {z : Value} {l : List α} {rest : List Value} {i : Nat} {bytes : Nat} (ht : P.underlying t = some (.slice e)) (htn : P.underlying tn = some (.int .i64)) (hi : P.info? e = some inf) (hz : inf.zero = some z) (hsize : inf.size = R.size) (hby : inf.bytes = bytes) (hzs : z.cells.size = R.size) (hsz : 0 < R.size)
    (hB : B ≤ w.heap.size) (hg : w.heap[g]? = some (.cells (R.row l ++ rest).toArray e (0, 0))) (hn : l.length ≤ cap) (hroom : cap < l.length + 1) (hil : i < l.length) (hlen : l.length + 1 ≤ maxLen) (hbytes : (l.length + 1) * bytes ≤ 140737488355328) :
    ∃ c' Z w2, (Builtin.append_ #[t, tn] ty #[.slice (some ⟨g, 0, none⟩) i cap, .int .i64 ((l.length : Int) + 1 - (i : Int))]).run P w = .ok (.slice (some ⟨w.heap.size, 0, none⟩) (l.length + 1) c') w2 ∧
      w2.heap[w.heap.size]? = some (.cells (R.row (l.take i) ++ Z).toArray e (0, 0)) ∧ i * R.size + Z.length = c' * R.size ∧ l.length + 1 ≤ c' ∧ c' ≤ maxLen ∧ Below w.heap.size w w2 ∧ w2.heap.size = w.heap.size + 1 := by
  have hold : (Builtin.firstCells inf.size i (.slice (some ⟨g, 0, none⟩) i cap)).run P w.drew = .ok (R.row (l.take i)).toArray w.drew := by
    refine run_firstCells_some w.drew inf.size i ⟨g, 0, none⟩ i cap (R.row (l.take i)) (by rw [R.row_length, hsize, List.length_take, Nat.min_eq_left (by omega)]) fun j u hu => ?_
    have e1 : w.drew.heap[g]? = _ := hg
    rw [plus_zero, (blk_cells e1).1, Nat.zero_add, List.getElem?_toArray, R.row_take_drop l i, List.append_assoc, List.getElem?_append_left (List.getElem?_eq_some_iff.1 hu).1]
    exact hu
  have hm := hlen
  unfold maxLen at hlen
  have hkk : (l.length : Int) + 1 - (i : Int) = ((l.length + 1 - i : Nat) : Int) := by omega
  have hik : i + (l.length + 1 - i) = l.length + 1 := by omega
  have hkb : (l.length + 1 - i) * inf.bytes ≤ (l.length + 1) * bytes := by rw [hby]; exact Nat.mul_le_mul_right _ (by omega)
  have h := Lib.run_append_grow_zeros w t tn ty e inf z .i64 .i64 ht htn hi hz (some ⟨g, 0, none⟩) i cap (R.row (l.take i)) hold (l.length + 1 - i) (by omega) (by omega) (by omega) (by omega) (by omega) (by rw [hby, hik]; exact growslice_fits hroom hbytes)
  rw [hik] at h
  rw [hkk]
  refine ⟨_, (Builtin.zeroCells z.cells (l.length + 1 - i)).toList ++ (Builtin.zeroCells z.cells (grownCap w (l.length + 1) cap e - (l.length + 1))).toList, _, h, ?_, ?_, grownCap_ge w _ _ _, grownCap_le_maxLen w _ _ _ hm, ?_, by simp⟩
  · have e2 := heap_alloc_new w.drew (.cells ((R.row (l.take i)).toArray ++ Builtin.zeroCells z.cells (l.length + 1 - i) ++ Builtin.zeroCells z.cells (grownCap w (l.length + 1) cap e - (l.length + 1))) e)
    refine Eq.trans e2 ?_
    congr 2
    apply Array.toList_inj.1
    simp
  · have h1 := grownCap_ge w (l.length + 1) cap e
    have e3 : ∀ k, (Builtin.zeroCells z.cells k).toList.length = k * R.size := fun k => (size_zeroCells _ _).trans (by rw [hzs])
    rw [List.length_append, e3, e3, ← Nat.add_mul, ← Nat.add_mul]
    congr 1
    omega
  · exact (Below.refl _ _).drew.alloc (Nat.le_refl _) _
/-- clear of a row's end -/
theorem run_clearK {P : Program} (t ty elem : TypeId) {inf : TypeInfo} {z : Value} {g o m c : Nat} {T : TypeId} {pre old post : List Value} (hu : P.underlying t = some (.slice elem)) (hi : P.info? elem = some inf) (hz : inf.zero = some z) (hm : 0 < m)
    (hg : w.heap[g]? = some (.cells (pre ++ old ++ post).toArray T (0, 0))) (ho : pre.length = o) (hold : old.length = m * z.cells.size) (h1 : z.cells.all (·.oneCell') = true) :
    (Builtin.clear_ #[t] ty #[.slice (some ⟨g, o, none⟩) m c]).run P w = .ok (.tuple #[]) (w.setRow g (pre ++ (Builtin.zeroCells z.cells m).toList ++ post).toArray) := by
  have hl : (Builtin.zeroCells z.cells m).toList.length = m * z.cells.size := size_zeroCells _ _
  have hone : ∀ v ∈ (Builtin.zeroCells z.cells m).toList, v.oneCell' = true := by
    intro v hv
    have h2 : v ∈ z.cells := by
      have := hv
      simp [Builtin.zeroCells] at this
      obtain ⟨a, ha, rfl⟩ := this
      have hs : 0 < z.cells.size := Nat.pos_of_ne_zero fun e => by rw [e] at ha; omega
      rw [getElem!_pos z.cells (a % z.cells.size) (Nat.mod_lt _ hs)]
      exact Array.getElem_mem _
    exact (Array.all_eq_true_iff_forall_mem.1 h1) v h2
  have hst := run_storeCells_at P g o T (Builtin.zeroCells z.cells m).toList 0 _ w hg (by rw [List.size_toArray, List.length_append, List.length_append, hl]; omega) hone
  have hst2 : (storeCells ⟨g, o, none⟩ (Builtin.zeroCells z.cells m).toList 0).run P w = .ok () (w.setRow g (pre ++ (Builtin.zeroCells z.cells m).toList ++ post).toArray) := by
    rw [hst]
    congr 3
    show List.take (o + 0) (pre ++ old ++ post) ++ _ ++ List.drop (o + 0 + _) (pre ++ old ++ post) = _
    rw [Nat.add_zero, ← ho, hl, ← hold, List.append_assoc pre old post, List.take_left, List.drop_append, List.drop_of_length_le (by omega), List.nil_append, show pre.length + old.length - pre.length = old.length by omega, List.drop_left]
  cases m with
  | zero => omega
  | succ m => simp [Builtin.clear_, run_underlying hu, zeroValue, typeInfo, hi, hz, hst2]
end
end Go.Proofs.Ytblbcoknefgcaaa
