/-
  How an argument of steps, as the statements' form reads it, reads as a list. No statement is proved here. No condition.
-/
import Derived.Test.YthchnnddnjibmaaTri
import Derived.Test.YthchnnddnjibmaaKeeps
namespace Go.Proofs.Ythchnnddnjibmaa
open Go.ChangeShapes Go.WideShapes Go.ChangeAt Go.RowKit

theorem cells_step : Try.prog.cellsOf 47 = 5 := by kernel_rfl
theorem step_struct : ∃ fs : Array Field, Try.prog.underlying 47 = some (.struct fs) ∧ fs.toList.map (fun f => (f.offset, f.type)) = [(0, 3), (1, 3), (2, 5), (3, 4), (4, 31)] := ⟨_, Try.underlying47, rfl⟩
theorem step_ones (j : Nat) (y : Nat × TypeId) (h : [(0, 3), (1, 3), (2, 5), (3, 4), (4, 31)][j]? = some y) : y.1 = j ∧ Try.prog.cellsOf y.2 = 1 := by
  match j, h with
  | 0, h => simp at h; subst h; exact ⟨rfl, cells_1.2.2.1⟩
  | 1, h => simp at h; subst h; exact ⟨rfl, cells_1.2.2.1⟩
  | 2, h => simp at h; subst h; exact ⟨rfl, cells_1.1⟩
  | 3, h => simp at h; subst h; exact ⟨rfl, cells_1.2.1⟩
  | 4, h => simp at h; subst h; exact ⟨rfl, cells_1.2.2.2⟩
  | n + 5, h => simp at h

section
variable {H : Type} {enc : TypeId × Value → H} {P : Program} {w : World} {base : Nat} {spare : Nat → Bool} {held : Bool}
/-- .. and what each element's datum is. -/
theorem open_structD {t e : TypeId} {fs : Array Field} {fuel k : Nat} {cs : List Value} {x : DataW H × List MemPlace} (ht : P.underlying t = some (.slice e)) (he : P.underlying e = some (.struct fs)) (ce : P.cellsOf e = k)
    (hfs : ∀ (j : Nat) (f : Field), fs[j]? = some f → f.offset = j ∧ P.cellsOf f.type = 1 ∧ j < k) (h : DataW.trod enc P w base spare held fuel t cs = some x) :
    (cs = [.slice none 0 0] ∧ x = (.nil, [])) ∨
    ∃ (a : Addr) (len cap n : Nat) (D : Nat → DataW H) (rest : List (DataW H)) (pl : List MemPlace), cs = [.slice (some a) len cap] ∧ len ≤ cap ∧ cap ≤ maxLen ∧ x = (.slice ((List.range len).map D) rest, pl) ∧
      ∀ i, i < len → ∃ parts : List (DataW H), D i = .agg parts ∧ ∀ (j : Nat) (f : Field), fs[j]? = some f → ∃ v y, w.cell? (a.add (i * k + j)) = some v ∧ DataW.trod enc P w base spare held n f.type [v] = some y ∧ parts[j]? = some y.1 := by
  rcases Deep.open_slice ht h with h0 | ⟨a, len, cap, m, n, D, Pl, rfl, hb, hl, hm, hmm, rfl, hx⟩
  · exact Or.inl h0
  right
  have hlm : len ≤ m := by rw [hmm]; split <;> omega
  refine ⟨a, len, cap, n - 1, D, _, _, rfl, hl, hm, rfl, fun i hi => ?_⟩
  obtain ⟨cs', h1, h2⟩ := hx i (by omega)
  rw [ce] at h1
  obtain ⟨_, hlen, hcell⟩ := World.cells?_some h1
  obtain ⟨xs, k', hk, hxy, _, hxl, hff⟩ := DataW.trod_struct he h2
  have hk' : k' = n - 1 := by omega
  subst hk'
  simp only [Prod.mk.injEq] at hxy
  refine ⟨_, hxy.1, fun j f hf => ?_⟩
  obtain ⟨o1, o2, o3⟩ := hfs j f hf
  have g := hff j f hf
  have hj : j < fs.size := (Array.getElem?_eq_some_iff.1 hf).1
  have hxs : xs[j]? = some (xs[j]'(by omega)) := List.getElem?_eq_getElem (by omega)
  have hcs : cs'[j]? = some (cs'[j]'(by omega)) := List.getElem?_eq_getElem (by omega)
  rw [o1, o2, hxs] at g
  have hone : (cs'.drop j).take 1 = [cs'[j]'(by omega)] := by
    rw [List.drop_eq_getElem_cons (by omega : j < cs'.length)]
    rfl
  rw [hone] at g
  refine ⟨_, _, ?_, g, by rw [List.getElem?_map, hxs]; rfl⟩
  have := hcell j o3
  rw [Deep.add_add] at this
  rw [this, hcs]
theorem weights_all {e : TypeId} {d : DataW H} {n : Nat} : ∀ {l : List (DataW H)}, d ∈ l → n ∈ d.weights P e → n ∈ DataW.weightsAll P e l := by
  intro l
  induction l with
  | nil => intro h; cases h
  | cons x l ih =>
    intro h hn
    unfold DataW.weightsAll
    rcases List.mem_cons.1 h with rfl | h
    · exact List.mem_append_left _ hn
    · exact List.mem_append_right _ (ih h hn)
end

instance : Inhabited StepT := ⟨⟨0, 0, 0, false, .slice none 0 0, []⟩⟩

theorem keep_form {H : Type} {enc : TypeId × Value → H} {W : World} {spare : Nat → Bool} {held : Bool} {fuel : Nat} {v : Value} {x : DataW H × List MemPlace}
    (hf : DataW.trod enc Try.prog W 0 spare held fuel 31 [v] = some x) : ∃ a len cap, v = .slice a len cap := by
  rcases Deep.open_slice Try.underlying31 hf with ⟨hcs, _⟩ | ⟨a, len, cap, _, _, _, _, hcs, _⟩
  · simp at hcs
    exact ⟨_, _, _, hcs⟩
  · simp at hcs
    exact ⟨_, _, _, hcs⟩

/-- An argument of steps: what it reads as. -/
theorem open_steps {H : Type} {enc : TypeId × Value → H} {W : World} {spare : Nat → Bool} {held : Bool} {a : Option Addr} {len cap : Nat} {d : DataW H} {p : List MemPlace} {ts : List TypeId} {ds : List (DataW H)} {jj : Nat}
    (h : DataW.Trod enc Try.prog W 0 spare held 39 (.slice a len cap) d p) (hsz : (DataW.weightsEach Try.prog ts ds).all (· ≤ reachBytes) = true) (htj : ts[jj]? = some 39) (hdj : ds[jj]? = some d) :
    ∃ l : List StepT, l.length ≤ 9223372036854775807 ∧ RdS W W.heap.size (.slice a len cap) l := by
  obtain ⟨fuel, hf⟩ := h
  obtain ⟨fs, hfs, hts⟩ := step_struct
  rcases open_structD (k := 5) Try.underlying39 hfs cells_step (fun j f hf => fields_one hts step_ones j f hf) hf with ⟨hcs, _⟩ | ⟨x, l, c, n, D, rest, pl, hcs, hl, hm, hx, hcell⟩
  · simp [Value.cells] at hcs
    obtain ⟨rfl, rfl, rfl⟩ := hcs
    exact ⟨[], by simp, none, 0, rfl, fun x hx => by simp at hx, fun h => absurd rfl h⟩
  · simp [Value.cells] at hcs
    obtain ⟨rfl, rfl, rfl⟩ := hcs
    unfold maxLen at hm
    simp only [Prod.mk.injEq] at hx
    obtain ⟨rfl, _⟩ := hx
    obtain ⟨f0, hf0, ht0⟩ := field_at hts (j := 0) (o := 0) (t := 3) rfl
    obtain ⟨f1, hf1, ht1⟩ := field_at hts (j := 1) (o := 1) (t := 3) rfl
    obtain ⟨f2, hf2, ht2⟩ := field_at hts (j := 2) (o := 2) (t := 5) rfl
    obtain ⟨f3, hf3, ht3⟩ := field_at hts (j := 3) (o := 3) (t := 4) rfl
    obtain ⟨f4, hf4, ht4⟩ := field_at hts (j := 4) (o := 4) (t := 31) rfl
    have hfl : fs.toList.map (·.type) = [3, 3, 5, 4, 31] := by
      have := congrArg (List.map Prod.snd) hts
      rw [List.map_map] at this
      exact this
    have each : ∀ i, i < len → ∃ y : StepT, StepOk W W.heap.size y ∧ W.cell? (x.add (i * 5)) = some (.int .i64 y.k) ∧ W.cell? (x.add (i * 5 + 1)) = some (.int .i64 y.a) ∧ W.cell? (x.add (i * 5 + 2)) = some (.int .u8 (y.c.toNat : Int)) ∧ W.cell? (x.add (i * 5 + 3)) = some (.bool y.f) ∧ W.cell? (x.add (i * 5 + 4)) = some y.v := by
      intro i hi
      obtain ⟨parts, hD, hparts⟩ := hcell i hi
      obtain ⟨v0, y0, c0, t0, _⟩ := hparts 0 f0 hf0
      obtain ⟨v1, y1, c1, t1, _⟩ := hparts 1 f1 hf1
      obtain ⟨v2, y2, c2, t2, _⟩ := hparts 2 f2 hf2
      obtain ⟨v3, y3, c3, t3, _⟩ := hparts 3 f3 hf3
      obtain ⟨v4, y4, c4, t4, hp4⟩ := hparts 4 f4 hf4
      rw [ht0] at t0
      rw [ht1] at t1
      rw [ht2] at t2
      rw [ht3] at t3
      rw [ht4] at t4
      obtain ⟨z0, e0, _, w0⟩ := DataW.trod_int Try.underlying3 t0
      obtain ⟨z1, e1, _, w1⟩ := DataW.trod_int Try.underlying3 t1
      obtain ⟨z2, e2, _, w2⟩ := DataW.trod_int Try.underlying5 t2
      obtain ⟨z3, e3, _⟩ := DataW.trod_bool Try.underlying4 t3
      obtain ⟨a4, l4, k4, rfl⟩ := keep_form t4
      obtain ⟨kl, hk1, hk2, hk3, hk4, hk5⟩ := keep_at t4
      simp at e0 e1 e2 e3
      rw [e0] at c0
      rw [e1] at c1
      rw [e2, u8_cell w2] at c2
      rw [e3] at c3
      refine ⟨⟨z0, z1, UInt8.ofNat z2.toNat, z3, .slice a4 l4 k4, kl⟩, ⟨hk2, fun h0 b hb => hk5 b hb (by have h0' : 0 < kl.length := h0; omega), ?_, ?_⟩, c0, c1, c2, c3, c4⟩
      · show kl.length ≤ 140737488355328
        rw [hk1]
        rcases hk3 with hn | ⟨elems, sp, he, hel⟩
        · have := hk4 hn
          omega
        · have hw4 : (elems.length + sp.length) * 1 ∈ (y4.1).weights Try.prog 31 := by
            rw [he]
            simp [DataW.weights, Try.underlying31, bytes_bool]
          have hwD : (elems.length + sp.length) * 1 ∈ (D i).weights Try.prog 47 := by
            rw [hD]
            simp only [DataW.weights, hfs, hfl]
            exact DataW.weights_mem_each (j := 4) rfl hp4 _ hw4
          have hwS : (elems.length + sp.length) * 1 ∈ (DataW.slice ((List.range len).map D) rest).weights Try.prog 39 := by
            simp only [DataW.weights, Try.underlying39]
            refine List.mem_cons_of_mem _ (List.mem_append_left _ (weights_all (List.mem_map.2 ⟨i, List.mem_range.2 hi, rfl⟩) hwD))
          have hle := List.all_eq_true.1 hsz _ (DataW.weights_mem_each htj hdj _ hwS)
          have hle' : (elems.length + sp.length) * 1 ≤ reachBytes := by simpa using hle
          unfold reachBytes at hle'
          omega
      · show z1 ≤ 9223372036854775807
        have := bounds_i64 w1
        omega
    obtain ⟨y, hy⟩ := Deep.choose_lt each
    have hlen : ((List.range len).map y).length = len := by simp
    refine ⟨(List.range len).map y, by rw [hlen]; omega, _, _, by rw [hlen], fun z hz => ?_, fun hne => ?_⟩
    · obtain ⟨i, hi, rfl⟩ := List.mem_map.1 hz
      exact (hy i (List.mem_range.1 hi)).1
    have h0 : 0 < len := by
      rcases Nat.eq_zero_or_pos len with h0 | h0
      · exact absurd (List.eq_nil_of_length_eq_zero (hlen.trans h0)) hne
      · exact h0
    obtain ⟨b, o, sp⟩ := x
    have hc0 := (hy 0 h0).2.1
    have hsp : sp = none := by simpa [Addr.add] using World.cell?_spot hc0
    subst hsp
    have hb := World.block_lt_of_cell? W _ hc0
    rw [plus_zero] at hb
    refine ⟨b, o, rfl, hb, fun i z hz => ?_⟩
    have hi : i < len := by
      have := (List.getElem?_eq_some_iff.1 hz).1
      omega
    rw [List.getElem?_map, List.getElem?_range hi] at hz
    simp at hz
    subst hz
    obtain ⟨_, c0, c1, c2, c3, c4⟩ := hy i hi
    rw [plus_zero] at c0 c1 c2 c3 c4
    exact ⟨c0, by rw [Nat.add_assoc]; exact c1, by rw [Nat.add_assoc]; exact c2, by rw [Nat.add_assoc]; exact c3, by rw [Nat.add_assoc]; exact c4⟩
end Go.Proofs.Ythchnnddnjibmaa
