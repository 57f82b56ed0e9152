/-
  PROVED HERE: RingCrashes: behind a crash, wherever, whatever is kept, all records are there that were appended ahead of a sync, and of those behind some beginning, each whole; and so on, round by round: for any number and any rounds, in whatever memory the law is called, it returns true, its arguments read as they did, and nothing that was there has turned. No condition.
-/
import Derived.Test.YtplpfhgdanclhaaRCrash
import Derived.ProofKit
import Derived.OpenShut
import Derived.ChangeOld
import Derived.SizedLaws
import Derived.Deep.SlicePairs
namespace Go.Proofs.Ytplpfhgdanclhaa
open Go.ChangeShapes Go.WideShapes Go.ChangeAt Go.RowKit

theorem rd_knob : ownKnob Try.prog.godebug = none := by kernel_rfl
theorem rd_laid : laidOutB Try.prog = true := by kernel_rfl
theorem rd_cells_int : Try.prog.cellsOf 3 = 1 := by kernel_rfl
theorem rd_fits {n : Int} (h : (Lit.int .i64 n).wf = true) : I64 n := by
  have := bounds_i64 h
  unfold I64
  omega

/-- An argument of numbers: what it reads as. -/
theorem rd_lens {H : Type} {enc : TypeId × Value → H} {W : World} {spare : Nat → Bool} {held : Bool} {a : Option Addr} {len cap : Nat} {d : DataW H} {p : List MemPlace}
    (h : DataW.Trod enc Try.prog W 0 spare held 56 (.slice a len cap) d p) : ∃ zs : List Int, zs.length ≤ 9223372036854775807 ∧ NumAt W W.heap.size (.slice a len cap) zs := by
  obtain ⟨fuel, hf⟩ := h
  rcases open_ints Try.underlying56 Try.underlying3 rd_cells_int hf with ⟨hcs, _⟩ | ⟨x, l, c, zs, hcs, _, hl, hm, hz, _, hcell, hwz⟩
  · simp [Value.cells] at hcs
    obtain ⟨rfl, rfl, rfl⟩ := hcs
    exact ⟨[], by simp, none, 0, rfl, by simp, fun h => absurd rfl h⟩
  · simp [Value.cells] at hcs
    obtain ⟨rfl, rfl, rfl⟩ := hcs
    have hzl : len ≤ zs.length := by rw [hz]; split <;> omega
    have hlen : (zs.take len).length = len := by rw [List.length_take]; omega
    unfold maxLen at hm
    refine ⟨zs.take len, by rw [hlen]; omega, _, _, by rw [hlen], fun n hn => rd_fits (hwz n (List.mem_of_mem_take hn)), fun hne => ?_⟩
    have h0 : 0 < len := by
      rcases Nat.eq_zero_or_pos len with h0 | h0
      · exact absurd (List.eq_nil_of_length_eq_zero (hlen.trans h0)) hne
      · exact h0
    obtain ⟨b, o, sp⟩ := x
    have hc0 := hcell 0 (by omega)
    have hsp : sp = none := by simpa [Addr.add] using World.cell?_spot hc0
    subst hsp
    have hb := World.block_lt_of_cell? W _ hc0
    rw [plus_zero] at hb
    refine ⟨b, o, rfl, hb, fun i y hy => ?_⟩
    have hi : i < len := by
      have := (List.getElem?_eq_some_iff.1 hy).1
      omega
    have hci := hcell i (by omega)
    rw [plus_zero] at hci
    rw [hci]
    rw [List.getElem?_take_of_lt hi] at hy
    simp [List.getD, hy]

theorem rd_cells : Try.prog.cellsOf 4 = 1 ∧ Try.prog.cellsOf 57 = 1 ∧ Try.prog.cellsOf 56 = 1 ∧ Try.prog.cellsOf 59 = 5 := ⟨by kernel_rfl, by kernel_rfl, by kernel_rfl, by kernel_rfl⟩
section
variable {H : Type} {enc : TypeId × Value → H} {P : Program} {w : World} {base : Nat} {spare : Nat → Bool} {held : Bool}
theorem rd_open_struct {t e : TypeId} {fs : Array Field} {fuel k : Nat} {cs : List Value} {x : DataW H × List MemPlace} (ht : P.underlying t = some (.slice e)) (he : P.underlying e = some (.struct fs)) (ce : P.cellsOf e = k)
    (hfs : ∀ (j : Nat) (f : Field), fs[j]? = some f → f.offset = j ∧ P.cellsOf f.type = 1 ∧ j < k) (h : DataW.trod enc P w base spare held fuel t cs = some x) :
    (cs = [.slice none 0 0] ∧ x = (.nil, [])) ∨
    ∃ (a : Addr) (len cap n : Nat) (elems rest : List (DataW H)) (pl : List MemPlace), cs = [.slice (some a) len cap] ∧ len ≤ cap ∧ cap ≤ maxLen ∧ x = (.slice elems rest, pl) ∧ elems.length = len ∧
      ∀ i, i < len → ∀ (j : Nat) (f : Field), fs[j]? = some f → ∃ v y, w.cell? (a.add (i * k + j)) = some v ∧ DataW.trod enc P w base spare held n f.type [v] = some y := by
  rcases Deep.open_slice ht h with h0 | ⟨a, len, cap, m, n, D, Pl, rfl, hb, hl, hm, hmm, rfl, hx⟩
  · exact Or.inl h0
  right
  have hlm : len ≤ m := by rw [hmm]; split <;> omega
  refine ⟨a, len, cap, n - 1, _, _, _, rfl, hl, hm, rfl, by simp, fun i hi j f hf => ?_⟩
  obtain ⟨cs', h1, h2⟩ := hx i (by omega)
  rw [ce] at h1
  obtain ⟨_, hlen, hcell⟩ := World.cells?_some h1
  obtain ⟨xs, k', hk, _, _, hxl, hff⟩ := DataW.trod_struct he h2
  have hk' : k' = n - 1 := by omega
  subst hk'
  obtain ⟨o1, o2, o3⟩ := hfs j f hf
  have g := hff j f hf
  have hj : j < fs.size := (Array.getElem?_eq_some_iff.1 hf).1
  have hxs : xs[j]? = some (xs[j]'(by omega)) := List.getElem?_eq_getElem (by omega)
  have hcs : cs'[j]? = some (cs'[j]'(by omega)) := List.getElem?_eq_getElem (by omega)
  rw [o1, o2, hxs] at g
  have hone : (cs'.drop j).take 1 = [cs'[j]'(by omega)] := by
    rw [List.drop_eq_getElem_cons (by omega : j < cs'.length)]
    rfl
  rw [hone] at g
  refine ⟨_, _, ?_, g⟩
  have := hcell j o3
  rw [Deep.add_add] at this
  rw [this, hcs]
end

theorem rd_field_at {fs : Array Field} {ts : List (Nat × TypeId)} (hts : fs.toList.map (fun f => (f.offset, f.type)) = ts) {j o : Nat} {t : TypeId} (h : ts[j]? = some (o, t)) : ∃ f, fs[j]? = some f ∧ f.type = t := by
  rw [← hts, List.getElem?_map] at h
  cases hf : fs.toList[j]? with
  | none => rw [hf] at h; cases h
  | some f =>
    rw [hf] at h
    simp at h
    exact ⟨f, by rw [← Array.getElem?_toList]; exact hf, h.2⟩
/-- fields of one cell, one behind the other -/
theorem rd_fields_one {fs : Array Field} {ts : List (Nat × TypeId)} (hts : fs.toList.map (fun f => (f.offset, f.type)) = ts) (h : ∀ (j : Nat) (y : Nat × TypeId), ts[j]? = some y → y.1 = j ∧ Try.prog.cellsOf y.2 = 1) (j : Nat) (f : Field) (hf : fs[j]? = some f) : f.offset = j ∧ Try.prog.cellsOf f.type = 1 ∧ j < ts.length := by
  have h1 : ts[j]? = some (f.offset, f.type) := by rw [← hts, List.getElem?_map, Array.getElem?_toList, hf]; rfl
  exact ⟨(h j _ h1).1, (h j _ h1).2, (List.getElem?_eq_some_iff.1 h1).1⟩
/-- cells of truth values, wherever they lie -/
theorem rd_keep_at {H : Type} {enc : TypeId × Value → H} {W : World} {spare : Nat → Bool} {held : Bool} {fuel : Nat} {a : Option Addr} {len cap : Nat} {x : DataW H × List MemPlace}
    (hf : DataW.trod enc Try.prog W 0 spare held fuel 57 [.slice a len cap] = some x) :
    ∃ l : List Bool, l.length = len ∧ RowAt W (.slice a len cap) l.length 1 (KS l) ∧ (x.1 = .nil ∨ ∃ elems sp, x.1 = .slice elems sp ∧ elems.length = len) ∧ (x.1 = .nil → len = 0) ∧ (∀ b, (Value.slice a len cap).ownBlock = some b → 0 < len → b < W.heap.size) := by
  rcases Deep.open_slice Try.underlying57 hf with ⟨hcs, hx⟩ | ⟨ad, l, c, m, n, D, Pl, hcs, hb, hl, hm, hmm, hx, hcell⟩
  · simp at hcs
    obtain ⟨rfl, rfl, rfl⟩ := hcs
    subst hx
    exact ⟨[], rfl, ⟨none, 0, rfl, rfl, Nat.le_refl _, by unfold maxLen; omega, fun _ => rfl, fun h => absurd h (Nat.lt_irrefl _)⟩, .inl rfl, fun _ => rfl, fun b hb => by cases hb⟩
  · simp at hcs
    obtain ⟨rfl, rfl, rfl⟩ := hcs
    subst hx
    have hlm : len ≤ m := by rw [hmm]; split <;> omega
    have each : ∀ i, i < len → ∃ y : Bool, W.cell? (ad.add i) = some (.bool y) := by
      intro i hi
      obtain ⟨cs', c1, c2⟩ := hcell i (by omega)
      rw [rd_cells.1] at c1
      obtain ⟨_, hlen, hc⟩ := World.cells?_some c1
      obtain ⟨y, rfl, _⟩ := DataW.trod_bool Try.underlying4 c2
      refine ⟨y, ?_⟩
      have := hc 0 (by omega)
      rw [Deep.add_add] at this
      simpa using this
    obtain ⟨y, hy⟩ := Deep.choose_lt each
    have hlen : ((List.range len).map y).length = len := by simp
    have hKS : (KS ((List.range len).map y)).length = len * 1 := by unfold KS; simp
    have hblk : 0 < len → ∃ b o, ad = ⟨b, o, none⟩ ∧ b < W.heap.size := fun h0 => by
      obtain ⟨b, o, sp⟩ := ad
      have hc0 := hy 0 h0
      have hsp : sp = none := by simpa [Addr.add] using World.cell?_spot hc0
      subst hsp
      have hb := World.block_lt_of_cell? W _ hc0
      rw [plus_zero] at hb
      exact ⟨b, o, rfl, hb⟩
    refine ⟨(List.range len).map y, hlen, ?_, .inr ⟨_, _, rfl, by simp⟩, (fun h => by simp at h), fun b hb h0 => ?_⟩
    · rw [hlen]
      refine ⟨_, cap, rfl, hKS, hl, hm, (fun h => by cases h), fun h0 => ?_⟩
      obtain ⟨b, o, rfl, _⟩ := hblk h0
      refine ⟨b, o, rfl, fun j u hu => ?_⟩
      have hj : j < len := by
        have := (List.getElem?_eq_some_iff.1 hu).1
        omega
      unfold KS at hu
      rw [List.getElem?_map, List.getElem?_map, List.getElem?_range hj] at hu
      simp at hu
      subst hu
      have := hy j hj
      rw [plus_zero] at this
      exact this
    · obtain ⟨b', o, rfl, h⟩ := hblk h0
      injection hb with hb
      subst hb
      exact h


theorem round_struct : ∃ fs : Array Field, Try.prog.underlying 59 = some (.struct fs) ∧ fs.toList.map (fun f => (f.offset, f.type)) = [(0, 56), (1, 57), (2, 3), (3, 57), (4, 4)] := ⟨_, Try.underlying59, rfl⟩
theorem round_ones (j : Nat) (y : Nat × TypeId) (h : [(0, 56), (1, 57), (2, 3), (3, 57), (4, 4)][j]? = some y) : y.1 = j ∧ Try.prog.cellsOf y.2 = 1 := by
  match j, h with
  | 0, h => simp at h; subst h; exact ⟨rfl, rd_cells.2.2.1⟩
  | 1, h => simp at h; subst h; exact ⟨rfl, rd_cells.2.1⟩
  | 2, h => simp at h; subst h; exact ⟨rfl, rd_cells_int⟩
  | 3, h => simp at h; subst h; exact ⟨rfl, rd_cells.2.1⟩
  | 4, h => simp at h; subst h; exact ⟨rfl, rd_cells.1⟩
  | n + 5, h => simp at h
theorem rd_form {H : Type} {enc : TypeId × Value → H} {W : World} {spare : Nat → Bool} {held : Bool} {fuel : Nat} {t e : TypeId} {v : Value} {x : DataW H × List MemPlace} (ht : Try.prog.underlying t = some (.slice e))
    (hf : DataW.trod enc Try.prog W 0 spare held fuel t [v] = some x) : ∃ a len cap, v = .slice a len cap := by
  rcases Deep.open_slice ht hf with ⟨hcs, _⟩ | ⟨a, len, cap, _, _, _, _, hcs, _⟩
  · simp at hcs
    exact ⟨_, _, _, hcs⟩
  · simp at hcs
    exact ⟨_, _, _, hcs⟩
instance : Inhabited RoundT := ⟨⟨.slice none 0 0, [], .slice none 0 0, [], 0, .slice none 0 0, [], false⟩⟩

/-- An argument of rounds: what it reads as. -/
theorem open_rounds {H : Type} {enc : TypeId × Value → H} {W : World} {spare : Nat → Bool} {held : Bool} {a : Option Addr} {len cap : Nat} {d : DataW H} {p : List MemPlace}
    (h : DataW.Trod enc Try.prog W 0 spare held 55 (.slice a len cap) d p) : ∃ l : List RoundT, l.length ≤ 9223372036854775807 ∧ RdR W (.slice a len cap) l := by
  obtain ⟨fuel, hf⟩ := h
  obtain ⟨fs, hfs, hts⟩ := round_struct
  rcases rd_open_struct (k := 5) Try.underlying55 hfs rd_cells.2.2.2 (fun j f hf => rd_fields_one hts round_ones j f hf) hf with ⟨hcs, _⟩ | ⟨x, l, c, n, elems, rest, pl, hcs, hl, hm, _, _, hcell⟩
  · simp [Value.cells] at hcs
    obtain ⟨rfl, rfl, rfl⟩ := hcs
    exact ⟨[], by simp, none, 0, rfl, fun x hx => by simp at hx, fun h => absurd rfl h⟩
  · simp [Value.cells] at hcs
    obtain ⟨rfl, rfl, rfl⟩ := hcs
    unfold maxLen at hm
    obtain ⟨f0, hf0, ht0⟩ := rd_field_at hts (j := 0) (o := 0) (t := 56) rfl
    obtain ⟨f1, hf1, ht1⟩ := rd_field_at hts (j := 1) (o := 1) (t := 57) rfl
    obtain ⟨f2, hf2, ht2⟩ := rd_field_at hts (j := 2) (o := 2) (t := 3) rfl
    obtain ⟨f3, hf3, ht3⟩ := rd_field_at hts (j := 3) (o := 3) (t := 57) rfl
    obtain ⟨f4, hf4, ht4⟩ := rd_field_at hts (j := 4) (o := 4) (t := 4) rfl
    have each : ∀ i, i < len → ∃ y : RoundT, RoundOk W y ∧ W.cell? (x.add (i * 5)) = some y.vl ∧ W.cell? (x.add (i * 5 + 1)) = some y.vs ∧ W.cell? (x.add (i * 5 + 2)) = some (.int .i64 y.fuse) ∧ W.cell? (x.add (i * 5 + 3)) = some y.vk ∧ W.cell? (x.add (i * 5 + 4)) = some (.bool y.empty) := by
      intro i hi
      obtain ⟨v0, y0, c0, t0⟩ := hcell i hi 0 f0 hf0
      obtain ⟨v1, y1, c1, t1⟩ := hcell i hi 1 f1 hf1
      obtain ⟨v2, y2, c2, t2⟩ := hcell i hi 2 f2 hf2
      obtain ⟨v3, y3, c3, t3⟩ := hcell i hi 3 f3 hf3
      obtain ⟨v4, y4, c4, t4⟩ := hcell i hi 4 f4 hf4
      rw [ht0] at t0
      rw [ht1] at t1
      rw [ht2] at t2
      rw [ht3] at t3
      rw [ht4] at t4
      obtain ⟨a0, l0, k0, rfl⟩ := rd_form Try.underlying56 t0
      obtain ⟨a1, l1, k1, rfl⟩ := rd_form Try.underlying57 t1
      obtain ⟨z2, e2, _, w2⟩ := DataW.trod_int Try.underlying3 t2
      obtain ⟨a3, l3, k3, rfl⟩ := rd_form Try.underlying57 t3
      obtain ⟨z4, e4, _⟩ := DataW.trod_bool Try.underlying4 t4
      obtain ⟨zs, hz1, hz2⟩ := rd_lens (d := y0.1) (p := y0.2) ⟨_, t0⟩
      obtain ⟨sl, hs1, hs2, -⟩ := rd_keep_at t1
      obtain ⟨kl, hk1, hk2, -⟩ := rd_keep_at t3
      simp at e2 e4
      rw [e2] at c2
      rw [e4] at c4
      exact ⟨⟨.slice a0 l0 k0, zs, .slice a1 l1 k1, sl, z2, .slice a3 l3 k3, kl, z4⟩, ⟨hz2, hz1, hs2, hk2⟩, c0, c1, c2, c3, c4⟩
    obtain ⟨y, hy⟩ := Deep.choose_lt each
    have hlen : ((List.range len).map y).length = len := by simp
    refine ⟨(List.range len).map y, by rw [hlen]; omega, _, _, by rw [hlen], fun z hz => ?_, fun hne => ?_⟩
    · obtain ⟨i, hi, rfl⟩ := List.mem_map.1 hz
      exact (hy i (List.mem_range.1 hi)).1
    have h0 : 0 < len := by
      rcases Nat.eq_zero_or_pos len with h0 | h0
      · exact absurd (List.eq_nil_of_length_eq_zero (hlen.trans h0)) hne
      · exact h0
    obtain ⟨b, o, sp⟩ := x
    have hc0 := (hy 0 h0).2.1
    have hsp : sp = none := by simpa [Addr.add] using World.cell?_spot hc0
    subst hsp
    have hb := World.block_lt_of_cell? W _ hc0
    rw [plus_zero] at hb
    refine ⟨b, o, rfl, hb, fun i z hz => ?_⟩
    have hi : i < len := by
      have := (List.getElem?_eq_some_iff.1 hz).1
      omega
    rw [List.getElem?_map, List.getElem?_range hi] at hz
    simp at hz
    subst hz
    obtain ⟨_, c0, c1, c2, c3, c4⟩ := hy i hi
    rw [plus_zero] at c0 c1 c2 c3 c4
    exact ⟨c0, by rw [Nat.add_assoc]; exact c1, by rw [Nat.add_assoc]; exact c2, by rw [Nat.add_assoc]; exact c3, by rw [Nat.add_assoc]; exact c4⟩
set_option maxRecDepth 100000 in
theorem crashes_lifted (os : Os) (started : os.Started) (H : Type) (enc : TypeId × Value → H) :
    ReturnsInHanded {} Try.checked os 5 .any (Rows.ringCrashesSpec.pre6 enc Try.prog Try.f5 Rows.ringCrashesRow.domain false) (Rows.ringCrashesSpec.post enc Try.prog Try.f5 false true false false) := by
  refine returnsInHanded_of_change (C := Try.checked) rd_knob started (by kernel_rfl) Try.func5
    (ChangeSpec.witness6 (enc := enc) (C := Try.checked) false ⟨#[], #[.int .i64 0, .slice none 0 0], []⟩ 8 (by kernel_rfl) (by kernel_rfl) (by kernel_rfl) (by kernel_rfl)) ?_
  intro W base args ds gs before hval0 hW _ _
  have hval : ∀ (j : Nat) t v, Try.f5.params[j]? = some t → args[j]? = some v → Value.okWide Try.prog W .any base t v := hval0
  have hW' := hW
  obtain ⟨p, q, hA0, hV, rfl, _, _⟩ := hW
  have hA : DataW.TrodAll enc Try.prog W 0 (fun _ => true) true Try.f5.params.toList args.toList ds p := hA0
  rw [Try.params5] at hA hval
  obtain ⟨v0, vs0, d0, ds0, p0, q0, hargs, rfl, rfl, h0, r0⟩ := trodAll_cons hA
  obtain ⟨v1, vs1, d1, ds1, p1, q1, rfl, rfl, rfl, h1, r1⟩ := trodAll_cons r0
  obtain ⟨rfl, rfl, rfl⟩ := trodAll_nil r1
  obtain rfl : args = #[v0, v1] := by cases args; simp_all
  obtain ⟨rfl, rfl⟩ := trodVars_none hV
  obtain ⟨n0, rfl, rfl, rfl, z0⟩ := open_int Try.underlying3 (hval 0 3 v0 rfl rfl) h0
  obtain ⟨a1, len1, cap1, rfl⟩ := okWide_slice Try.underlying55 (hval 1 55 v1 rfl rfl)
  have lt1 : ∀ x ∈ p1, x.block < W.heap.size := by obtain ⟨m, hm⟩ := h1; exact DataW.trod_lt m _ _ _ hm
  obtain ⟨l, hl, hlr⟩ := open_rounds h1
  clear hA0 hval0
  refine (crashes_walk n0 l (.slice a1 len1 cap1) W hlr hl).mono fun e W' ⟨he, bel⟩ => ?_
  subst he
  exact ⟨_, rfl, _, _, _, [], _, [], hW', trodAll_mk1 (shut_bool Try.underlying4 _), (trodAll_cons_mk (shut_int Try.underlying3 z0) (trodAll_cons_mk (Below.trod rd_laid (by kernel_rfl) (of_decide_eq_true (by kernel_rfl)) h1 bel lt1) trodAll_mk0)), rfl, bel.frame _, fun h => by cases h⟩

theorem crashes_holds : Rows.RingCrashesSaid :=
  OpenClaim.holds_of_wide 5 Try.f5 rfl rfl rfl rfl rfl rfl rfl ⟨rfl, rfl, rfl, rfl, rfl⟩ rfl rfl rfl rfl rfl (by kernel_rfl) Try.func5 (by kernel_rfl)
    (of_decide_eq_true (by kernel_rfl)) (by unfold Func.isWrapper; first | (rw [if_pos (by decide +kernel)]; kernel_rfl) | (rw [if_neg (by decide +kernel)]; exact ⟨rfl, rfl⟩))
    (fun os started H enc _ => crashes_lifted os started H enc)
end Go.Proofs.Ytplpfhgdanclhaa
