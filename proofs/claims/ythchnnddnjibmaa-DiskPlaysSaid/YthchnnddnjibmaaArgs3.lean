/-
  How an argument of structs, or of truth values, as the statements' form reads it, reads as a list. No statement is proved here. No condition.
-/
import Derived.Test.YthchnnddnjibmaaPuts
import Derived.Test.YthchnnddnjibmaaArgs
import Derived.Deep.SlicePairs
namespace Go.Proofs.Ythchnnddnjibmaa
open Go.ChangeShapes Go.WideShapes Go.ChangeAt Go.RowKit

section
variable {H : Type} {enc : TypeId × Value → H} {P : Program} {w : World} {base : Nat} {spare : Nat → Bool} {held : Bool}
theorem open_struct {t e : TypeId} {fs : Array Field} {fuel k : Nat} {cs : List Value} {x : DataW H × List MemPlace} (ht : P.underlying t = some (.slice e)) (he : P.underlying e = some (.struct fs)) (ce : P.cellsOf e = k)
    (hfs : ∀ (j : Nat) (f : Field), fs[j]? = some f → f.offset = j ∧ P.cellsOf f.type = 1 ∧ j < k) (h : DataW.trod enc P w base spare held fuel t cs = some x) :
    (cs = [.slice none 0 0] ∧ x = (.nil, [])) ∨
    ∃ (a : Addr) (len cap n : Nat) (elems rest : List (DataW H)) (pl : List MemPlace), cs = [.slice (some a) len cap] ∧ len ≤ cap ∧ cap ≤ maxLen ∧ x = (.slice elems rest, pl) ∧ elems.length = len ∧
      ∀ i, i < len → ∀ (j : Nat) (f : Field), fs[j]? = some f → ∃ v y, w.cell? (a.add (i * k + j)) = some v ∧ DataW.trod enc P w base spare held n f.type [v] = some y := by
  rcases Deep.open_slice ht h with h0 | ⟨a, len, cap, m, n, D, Pl, rfl, hb, hl, hm, hmm, rfl, hx⟩
  · exact Or.inl h0
  right
  have hlm : len ≤ m := by rw [hmm]; split <;> omega
  refine ⟨a, len, cap, n - 1, _, _, _, rfl, hl, hm, rfl, by simp, fun i hi j f hf => ?_⟩
  obtain ⟨cs', h1, h2⟩ := hx i (by omega)
  rw [ce] at h1
  obtain ⟨_, hlen, hcell⟩ := World.cells?_some h1
  obtain ⟨xs, k', hk, _, _, hxl, hff⟩ := DataW.trod_struct he h2
  have hk' : k' = n - 1 := by omega
  subst hk'
  obtain ⟨o1, o2, o3⟩ := hfs j f hf
  have g := hff j f hf
  have hj : j < fs.size := (Array.getElem?_eq_some_iff.1 hf).1
  have hxs : xs[j]? = some (xs[j]'(by omega)) := List.getElem?_eq_getElem (by omega)
  have hcs : cs'[j]? = some (cs'[j]'(by omega)) := List.getElem?_eq_getElem (by omega)
  rw [o1, o2, hxs] at g
  have hone : (cs'.drop j).take 1 = [cs'[j]'(by omega)] := by
    rw [List.drop_eq_getElem_cons (by omega : j < cs'.length)]
    rfl
  rw [hone] at g
  refine ⟨_, _, ?_, g⟩
  have := hcell j o3
  rw [Deep.add_add] at this
  rw [this, hcs]
end

theorem cells_put : Try.prog.cellsOf 56 = 3 := by kernel_rfl
theorem put_struct : ∃ fs : Array Field, Try.prog.underlying 56 = some (.struct fs) ∧ fs.toList.map (fun f => (f.offset, f.type)) = [(0, 5), (1, 5), (2, 4)] := ⟨_, Try.underlying56, rfl⟩
theorem cells_1 : Try.prog.cellsOf 5 = 1 ∧ Try.prog.cellsOf 4 = 1 ∧ Try.prog.cellsOf 3 = 1 ∧ Try.prog.cellsOf 31 = 1 := ⟨by kernel_rfl, by kernel_rfl, by kernel_rfl, by kernel_rfl⟩
theorem field_at {fs : Array Field} {ts : List (Nat × TypeId)} (hts : fs.toList.map (fun f => (f.offset, f.type)) = ts) {j o : Nat} {t : TypeId} (h : ts[j]? = some (o, t)) : ∃ f, fs[j]? = some f ∧ f.type = t := by
  rw [← hts, List.getElem?_map] at h
  cases hf : fs.toList[j]? with
  | none => rw [hf] at h; cases h
  | some f =>
    rw [hf] at h
    simp at h
    exact ⟨f, by rw [← Array.getElem?_toList]; exact hf, h.2⟩
/-- fields of one cell, one behind the other -/
theorem fields_one {fs : Array Field} {ts : List (Nat × TypeId)} (hts : fs.toList.map (fun f => (f.offset, f.type)) = ts) (h : ∀ (j : Nat) (y : Nat × TypeId), ts[j]? = some y → y.1 = j ∧ Try.prog.cellsOf y.2 = 1) (j : Nat) (f : Field) (hf : fs[j]? = some f) : f.offset = j ∧ Try.prog.cellsOf f.type = 1 ∧ j < ts.length := by
  have h1 : ts[j]? = some (f.offset, f.type) := by rw [← hts, List.getElem?_map, Array.getElem?_toList, hf]; rfl
  exact ⟨(h j _ h1).1, (h j _ h1).2, (List.getElem?_eq_some_iff.1 h1).1⟩
theorem put_ones (j : Nat) (y : Nat × TypeId) (h : [(0, 5), (1, 5), (2, 4)][j]? = some y) : y.1 = j ∧ Try.prog.cellsOf y.2 = 1 := by
  match j, h with
  | 0, h => simp at h; subst h; exact ⟨rfl, cells_1.1⟩
  | 1, h => simp at h; subst h; exact ⟨rfl, cells_1.1⟩
  | 2, h => simp at h; subst h; exact ⟨rfl, cells_1.2.1⟩
  | n + 3, h => simp at h

theorem u8_cell {n : Int} (h : (Lit.int .u8 n).wf = true) : Value.int .u8 n = .int .u8 ((UInt8.ofNat n.toNat).toNat : Int) := by rw [u8_back h]

/-- An argument of writes: what it reads as. -/
theorem open_puts {H : Type} {enc : TypeId × Value → H} {W : World} {spare : Nat → Bool} {held : Bool} {a : Option Addr} {len cap : Nat} {d : DataW H} {p : List MemPlace}
    (h : DataW.Trod enc Try.prog W 0 spare held 54 (.slice a len cap) d p) : ∃ l : List PutT, l.length ≤ 9223372036854775807 ∧ RdP W W.heap.size (.slice a len cap) l := by
  obtain ⟨fuel, hf⟩ := h
  obtain ⟨fs, hfs, hts⟩ := put_struct
  rcases open_struct (k := 3) Try.underlying54 hfs cells_put (fun j f hf => fields_one hts put_ones j f hf) hf with ⟨hcs, _⟩ | ⟨x, l, c, n, elems, rest, pl, hcs, hl, hm, _, _, hcell⟩
  · simp [Value.cells] at hcs
    obtain ⟨rfl, rfl, rfl⟩ := hcs
    exact ⟨[], by simp, none, 0, rfl, fun h => absurd rfl h⟩
  · simp [Value.cells] at hcs
    obtain ⟨rfl, rfl, rfl⟩ := hcs
    unfold maxLen at hm
    obtain ⟨f0, hf0, ht0⟩ := field_at hts (j := 0) (o := 0) (t := 5) rfl
    obtain ⟨f1, hf1, ht1⟩ := field_at hts (j := 1) (o := 1) (t := 5) rfl
    obtain ⟨f2, hf2, ht2⟩ := field_at hts (j := 2) (o := 2) (t := 4) rfl
    have each : ∀ i, i < len → ∃ y : PutT, W.cell? (x.add (i * 3)) = some (.int .u8 (y.1.toNat : Int)) ∧ W.cell? (x.add (i * 3 + 1)) = some (.int .u8 (y.2.1.toNat : Int)) ∧ W.cell? (x.add (i * 3 + 2)) = some (.bool y.2.2) := by
      intro i hi
      obtain ⟨v0, y0, c0, t0⟩ := hcell i hi 0 f0 hf0
      obtain ⟨v1, y1, c1, t1⟩ := hcell i hi 1 f1 hf1
      obtain ⟨v2, y2, c2, t2⟩ := hcell i hi 2 f2 hf2
      rw [ht0] at t0
      rw [ht1] at t1
      rw [ht2] at t2
      obtain ⟨z0, e0, _, w0⟩ := DataW.trod_int Try.underlying5 t0
      obtain ⟨z1, e1, _, w1⟩ := DataW.trod_int Try.underlying5 t1
      obtain ⟨z2, e2, _⟩ := DataW.trod_bool Try.underlying4 t2
      simp at e0 e1 e2
      rw [e0, u8_cell w0] at c0
      rw [e1, u8_cell w1] at c1
      rw [e2] at c2
      exact ⟨(UInt8.ofNat z0.toNat, UInt8.ofNat z1.toNat, z2), c0, c1, c2⟩
    obtain ⟨y, hy⟩ := Deep.choose_lt each
    have hlen : ((List.range len).map y).length = len := by simp
    refine ⟨(List.range len).map y, by rw [hlen]; omega, _, _, by rw [hlen], fun hne => ?_⟩
    have h0 : 0 < len := by
      rcases Nat.eq_zero_or_pos len with h0 | h0
      · exact absurd (List.eq_nil_of_length_eq_zero (hlen.trans h0)) hne
      · exact h0
    obtain ⟨b, o, sp⟩ := x
    have hc0 := (hy 0 h0).1
    have hsp : sp = none := by simpa [Addr.add] using World.cell?_spot hc0
    subst hsp
    have hb := World.block_lt_of_cell? W _ hc0
    rw [plus_zero] at hb
    refine ⟨b, o, rfl, hb, fun i z hz => ?_⟩
    have hi : i < len := by
      have := (List.getElem?_eq_some_iff.1 hz).1
      omega
    rw [List.getElem?_map, List.getElem?_range hi] at hz
    simp at hz
    subst hz
    obtain ⟨c0, c1, c2⟩ := hy i hi
    rw [plus_zero] at c0 c1 c2
    exact ⟨c0, by rw [Nat.add_assoc]; exact c1, by rw [Nat.add_assoc]; exact c2⟩
end Go.Proofs.Ythchnnddnjibmaa
