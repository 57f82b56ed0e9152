/-
  PROVED HERE: RingPlays: records are appended, told again and forgotten as the document says, sector by sector: for any numbers and any row of steps, in whatever memory the law is called, it returns true, its arguments read as they did, and nothing that was there has turned. No condition.
-/
import Derived.Test.YtlokehekkllbeaaGPlays
import Derived.ProofKit
import Derived.OpenShut
import Derived.ChangeOld
import Derived.SizedLaws
import Derived.Deep.SlicePairs
namespace Go.Proofs.Ytlokehekkllbeaa
open Go.ChangeShapes Go.WideShapes Go.ChangeAt Go.RowKit

theorem rp_knob : ownKnob Try.prog.godebug = none := by kernel_rfl
theorem rp_laid : laidOutB Try.prog = true := by kernel_rfl
theorem rp_cells : Try.prog.cellsOf 3 = 1 ∧ Try.prog.cellsOf 5 = 1 ∧ Try.prog.cellsOf 38 = 4 := ⟨by kernel_rfl, by kernel_rfl, by kernel_rfl⟩
theorem rp_u8 {n : Int} (h : (Lit.int .u8 n).wf = true) : Value.int .u8 n = .int .u8 ((UInt8.ofNat n.toNat).toNat : Int) := by
  have := bounds_u8 h
  congr 1
  rw [UInt8.toNat_ofNat']
  omega
section
variable {H : Type} {enc : TypeId × Value → H} {P : Program} {w : World} {base : Nat} {spare : Nat → Bool} {held : Bool}
theorem rp_open_struct {t e : TypeId} {fs : Array Field} {fuel k : Nat} {cs : List Value} {x : DataW H × List MemPlace} (ht : P.underlying t = some (.slice e)) (he : P.underlying e = some (.struct fs)) (ce : P.cellsOf e = k)
    (hfs : ∀ (j : Nat) (f : Field), fs[j]? = some f → f.offset = j ∧ P.cellsOf f.type = 1 ∧ j < k) (h : DataW.trod enc P w base spare held fuel t cs = some x) :
    (cs = [.slice none 0 0] ∧ x = (.nil, [])) ∨
    ∃ (a : Addr) (len cap n : Nat) (elems rest : List (DataW H)) (pl : List MemPlace), cs = [.slice (some a) len cap] ∧ len ≤ cap ∧ cap ≤ maxLen ∧ x = (.slice elems rest, pl) ∧ elems.length = len ∧
      ∀ i, i < len → ∀ (j : Nat) (f : Field), fs[j]? = some f → ∃ v y, w.cell? (a.add (i * k + j)) = some v ∧ DataW.trod enc P w base spare held n f.type [v] = some y := by
  rcases Deep.open_slice ht h with h0 | ⟨a, len, cap, m, n, D, Pl, rfl, hb, hl, hm, hmm, rfl, hx⟩
  · exact Or.inl h0
  right
  have hlm : len ≤ m := by rw [hmm]; split <;> omega
  refine ⟨a, len, cap, n - 1, _, _, _, rfl, hl, hm, rfl, by simp, fun i hi j f hf => ?_⟩
  obtain ⟨cs', h1, h2⟩ := hx i (by omega)
  rw [ce] at h1
  obtain ⟨_, hlen, hcell⟩ := World.cells?_some h1
  obtain ⟨xs, k', hk, _, _, hxl, hff⟩ := DataW.trod_struct he h2
  have hk' : k' = n - 1 := by omega
  subst hk'
  obtain ⟨o1, o2, o3⟩ := hfs j f hf
  have g := hff j f hf
  have hj : j < fs.size := (Array.getElem?_eq_some_iff.1 hf).1
  have hxs : xs[j]? = some (xs[j]'(by omega)) := List.getElem?_eq_getElem (by omega)
  have hcs : cs'[j]? = some (cs'[j]'(by omega)) := List.getElem?_eq_getElem (by omega)
  rw [o1, o2, hxs] at g
  have hone : (cs'.drop j).take 1 = [cs'[j]'(by omega)] := by
    rw [List.drop_eq_getElem_cons (by omega : j < cs'.length)]
    rfl
  rw [hone] at g
  refine ⟨_, _, ?_, g⟩
  have := hcell j o3
  rw [Deep.add_add] at this
  rw [this, hcs]
end

theorem rp_field_at {fs : Array Field} {ts : List (Nat × TypeId)} (hts : fs.toList.map (fun f => (f.offset, f.type)) = ts) {j o : Nat} {t : TypeId} (h : ts[j]? = some (o, t)) : ∃ f, fs[j]? = some f ∧ f.type = t := by
  rw [← hts, List.getElem?_map] at h
  cases hf : fs.toList[j]? with
  | none => rw [hf] at h; cases h
  | some f =>
    rw [hf] at h
    simp at h
    exact ⟨f, by rw [← Array.getElem?_toList]; exact hf, h.2⟩
/-- fields of one cell, one behind the other -/
theorem rp_fields_one {fs : Array Field} {ts : List (Nat × TypeId)} (hts : fs.toList.map (fun f => (f.offset, f.type)) = ts) (h : ∀ (j : Nat) (y : Nat × TypeId), ts[j]? = some y → y.1 = j ∧ Try.prog.cellsOf y.2 = 1) (j : Nat) (f : Field) (hf : fs[j]? = some f) : f.offset = j ∧ Try.prog.cellsOf f.type = 1 ∧ j < ts.length := by
  have h1 : ts[j]? = some (f.offset, f.type) := by rw [← hts, List.getElem?_map, Array.getElem?_toList, hf]; rfl
  exact ⟨(h j _ h1).1, (h j _ h1).2, (List.getElem?_eq_some_iff.1 h1).1⟩
theorem rp_struct : ∃ fs : Array Field, Try.prog.underlying 38 = some (.struct fs) ∧ fs.toList.map (fun f => (f.offset, f.type)) = [(0, 5), (1, 3), (2, 5), (3, 3)] := ⟨_, Try.underlying38, rfl⟩
theorem rp_ones (j : Nat) (y : Nat × TypeId) (h : [(0, 5), (1, 3), (2, 5), (3, 3)][j]? = some y) : y.1 = j ∧ Try.prog.cellsOf y.2 = 1 := by
  match j, h with
  | 0, h => simp at h; subst h; exact ⟨rfl, rp_cells.2.1⟩
  | 1, h => simp at h; subst h; exact ⟨rfl, rp_cells.1⟩
  | 2, h => simp at h; subst h; exact ⟨rfl, rp_cells.2.1⟩
  | 3, h => simp at h; subst h; exact ⟨rfl, rp_cells.1⟩
  | n + 4, h => simp at h
instance : Inhabited StepP := ⟨⟨0, 0, 0, 0⟩⟩

/-- An argument of steps: what it reads as. -/
theorem rp_open {H : Type} {enc : TypeId × Value → H} {W : World} {spare : Nat → Bool} {held : Bool} {a : Option Addr} {len cap : Nat} {d : DataW H} {p : List MemPlace}
    (h : DataW.Trod enc Try.prog W 0 spare held 22 (.slice a len cap) d p) : ∃ l : List StepP, l.length ≤ 9223372036854775807 ∧ RdP W (.slice a len cap) l := by
  obtain ⟨fuel, hf⟩ := h
  obtain ⟨fs, hfs, hts⟩ := rp_struct
  rcases rp_open_struct (k := 4) Try.underlying22 hfs rp_cells.2.2 (fun j f hf => rp_fields_one hts rp_ones j f hf) hf with ⟨hcs, _⟩ | ⟨x, l, c, n, elems, rest, pl, hcs, hl, hm, _, _, hcell⟩
  · simp [Value.cells] at hcs
    obtain ⟨rfl, rfl, rfl⟩ := hcs
    exact ⟨[], by simp, none, 0, rfl, fun h => absurd rfl h⟩
  · simp [Value.cells] at hcs
    obtain ⟨rfl, rfl, rfl⟩ := hcs
    unfold maxLen at hm
    obtain ⟨f0, hf0, ht0⟩ := rp_field_at hts (j := 0) (o := 0) (t := 5) rfl
    obtain ⟨f1, hf1, ht1⟩ := rp_field_at hts (j := 1) (o := 1) (t := 3) rfl
    obtain ⟨f2, hf2, ht2⟩ := rp_field_at hts (j := 2) (o := 2) (t := 5) rfl
    obtain ⟨f3, hf3, ht3⟩ := rp_field_at hts (j := 3) (o := 3) (t := 3) rfl
    have each : ∀ i, i < len → ∃ y : StepP, W.cell? (x.add (i * 4)) = some (.int .u8 (y.k.toNat : Int)) ∧ W.cell? (x.add (i * 4 + 1)) = some (.int .i64 y.len) ∧ W.cell? (x.add (i * 4 + 2)) = some (.int .u8 (y.c.toNat : Int)) ∧ W.cell? (x.add (i * 4 + 3)) = some (.int .i64 y.n) := by
      intro i hi
      obtain ⟨v0, y0, c0, t0⟩ := hcell i hi 0 f0 hf0
      obtain ⟨v1, y1, c1, t1⟩ := hcell i hi 1 f1 hf1
      obtain ⟨v2, y2, c2, t2⟩ := hcell i hi 2 f2 hf2
      obtain ⟨v3, y3, c3, t3⟩ := hcell i hi 3 f3 hf3
      rw [ht0] at t0
      rw [ht1] at t1
      rw [ht2] at t2
      rw [ht3] at t3
      obtain ⟨z0, e0, _, w0⟩ := DataW.trod_int Try.underlying5 t0
      obtain ⟨z1, e1, _, w1⟩ := DataW.trod_int Try.underlying3 t1
      obtain ⟨z2, e2, _, w2⟩ := DataW.trod_int Try.underlying5 t2
      obtain ⟨z3, e3, _, w3⟩ := DataW.trod_int Try.underlying3 t3
      simp at e0 e1 e2 e3
      rw [e0, rp_u8 w0] at c0
      rw [e1] at c1
      rw [e2, rp_u8 w2] at c2
      rw [e3] at c3
      exact ⟨⟨UInt8.ofNat z0.toNat, z1, UInt8.ofNat z2.toNat, z3⟩, c0, c1, c2, c3⟩
    obtain ⟨y, hy⟩ := Deep.choose_lt each
    have hlen : ((List.range len).map y).length = len := by simp
    refine ⟨(List.range len).map y, by rw [hlen]; omega, _, _, by rw [hlen], fun hne => ?_⟩
    have h0 : 0 < len := by
      rcases Nat.eq_zero_or_pos len with h0 | h0
      · exact absurd (List.eq_nil_of_length_eq_zero (hlen.trans h0)) hne
      · exact h0
    obtain ⟨b, o, sp⟩ := x
    have hc0 := (hy 0 h0).1
    have hsp : sp = none := by simpa [Addr.add] using World.cell?_spot hc0
    subst hsp
    have hb := World.block_lt_of_cell? W _ hc0
    rw [plus_zero] at hb
    refine ⟨b, o, rfl, hb, fun i z hz => ?_⟩
    have hi : i < len := by
      have := (List.getElem?_eq_some_iff.1 hz).1
      omega
    rw [List.getElem?_map, List.getElem?_range hi] at hz
    simp at hz
    subst hz
    obtain ⟨c0, c1, c2, c3⟩ := hy i hi
    rw [plus_zero] at c0 c1 c2 c3
    exact ⟨c0, by rw [Nat.add_assoc]; exact c1, by rw [Nat.add_assoc]; exact c2, by rw [Nat.add_assoc]; exact c3⟩
set_option maxRecDepth 100000 in
theorem ringplays_lifted (os : Os) (started : os.Started) (H : Type) (enc : TypeId × Value → H) :
    ReturnsInHanded {} Try.checked os 3 .any (Rows.ringPlaysSpec.pre6 enc Try.prog Try.f3 Rows.ringPlaysRow.domain false) (Rows.ringPlaysSpec.post enc Try.prog Try.f3 false true false false) := by
  refine returnsInHanded_of_change (C := Try.checked) rp_knob started (by kernel_rfl) Try.func3
    (ChangeSpec.witness6 (enc := enc) (C := Try.checked) false ⟨#[], #[.int .i64 0, .int .i64 0, .int .i64 0, .slice none 0 0], []⟩ 8 (by kernel_rfl) (by kernel_rfl) (by kernel_rfl) (by kernel_rfl)) ?_
  intro W base args ds gs before hval0 hW _ _
  have hval : ∀ (j : Nat) t v, Try.f3.params[j]? = some t → args[j]? = some v → Value.okWide Try.prog W .any base t v := hval0
  have hW' := hW
  obtain ⟨p, q, hA0, hV, rfl, _, _⟩ := hW
  have hA : DataW.TrodAll enc Try.prog W 0 (fun _ => true) true Try.f3.params.toList args.toList ds p := hA0
  rw [Try.params3] at hA hval
  obtain ⟨v0, vs0, d0, ds0, p0, q0, hargs, rfl, rfl, h0, r0⟩ := trodAll_cons hA
  obtain ⟨v1, vs1, d1, ds1, p1, q1, rfl, rfl, rfl, h1, r1⟩ := trodAll_cons r0
  obtain ⟨v2, vs2, d2, ds2, p2, q2, rfl, rfl, rfl, h2, r2⟩ := trodAll_cons r1
  obtain ⟨v3, vs3, d3, ds3, p3, q3, rfl, rfl, rfl, h3, r3⟩ := trodAll_cons r2
  obtain ⟨rfl, rfl, rfl⟩ := trodAll_nil r3
  obtain rfl : args = #[v0, v1, v2, v3] := by cases args; simp_all
  obtain ⟨rfl, rfl⟩ := trodVars_none hV
  obtain ⟨n0, rfl, rfl, rfl, z0⟩ := open_int Try.underlying3 (hval 0 3 v0 rfl rfl) h0
  obtain ⟨n1, rfl, rfl, rfl, z1⟩ := open_int Try.underlying3 (hval 1 3 v1 rfl rfl) h1
  obtain ⟨n2, rfl, rfl, rfl, z2⟩ := open_int Try.underlying3 (hval 2 3 v2 rfl rfl) h2
  obtain ⟨a3, len3, cap3, rfl⟩ := okWide_slice Try.underlying22 (hval 3 22 v3 rfl rfl)
  have lt3 : ∀ x ∈ p3, x.block < W.heap.size := by obtain ⟨m, hm⟩ := h3; exact DataW.trod_lt m _ _ _ hm
  obtain ⟨l, hl, hlr⟩ := rp_open h3
  have hb0 := bounds_i64 z0
  clear hA0 hval0
  refine (ringplays_walk n0 n1 n2 l (.slice a3 len3 cap3) W hlr hl (by omega)).mono fun e W' ⟨he, bel⟩ => ?_
  subst he
  exact ⟨_, rfl, _, _, _, [], _, [], hW', trodAll_mk1 (shut_bool Try.underlying4 _), (trodAll_cons_mk (shut_int Try.underlying3 z0) (trodAll_cons_mk (shut_int Try.underlying3 z1) (trodAll_cons_mk (shut_int Try.underlying3 z2) (trodAll_cons_mk (Below.trod rp_laid (by kernel_rfl) (of_decide_eq_true (by kernel_rfl)) h3 bel lt3) trodAll_mk0)))), rfl, bel.frame _, fun h => by cases h⟩

theorem ringplays_holds : Rows.RingPlaysSaid :=
  OpenClaim.holds_of_wide 3 Try.f3 rfl rfl rfl rfl rfl rfl rfl ⟨rfl, rfl, rfl, rfl, rfl⟩ rfl rfl rfl rfl rfl (by kernel_rfl) Try.func3 (by kernel_rfl)
    (of_decide_eq_true (by kernel_rfl)) (by unfold Func.isWrapper; first | (rw [if_pos (by decide +kernel)]; kernel_rfl) | (rw [if_neg (by decide +kernel)]; exact ⟨rfl, rfl⟩))
    (fun os started H enc _ => ringplays_lifted os started H enc)
end Go.Proofs.Ytlokehekkllbeaa
