/-
  How an argument that is a node, as the statements' form reads it, reads as a node. No statement is proved here. No condition.
-/
import Derived.Test.YtedcknlafkokkaaNMem
import Derived.Test.YtedcknlafkokkaaArgs
import Derived.Deep.SlicePairs
namespace Go.Proofs.Ytedcknlafkokkaa
open Go.ChangeShapes Go.WideShapes Go.ChangeAt Go.RowKit

section
variable {H : Type} {enc : TypeId × Value → H} {P : Program} {w : World} {base : Nat} {spare : Nat → Bool} {held : Bool}
/-- a slice of structs: what stands in each, and what each element's datum is -/
theorem open_structN {t e : TypeId} {fs : Array Field} {fuel k : Nat} {cs : List Value} {x : DataW H × List MemPlace} (ht : P.underlying t = some (.slice e)) (he : P.underlying e = some (.struct fs)) (ce : P.cellsOf e = k)
    (hfs : ∀ (j : Nat) (f : Field), fs[j]? = some f → f.offset = j ∧ P.cellsOf f.type = 1 ∧ j < k) (h : DataW.trod enc P w base spare held fuel t cs = some x) :
    (cs = [.slice none 0 0] ∧ x = (.nil, [])) ∨
    ∃ (a : Addr) (len cap n : Nat) (D : Nat → DataW H) (rest : List (DataW H)) (pl : List MemPlace), cs = [.slice (some a) len cap] ∧ len ≤ cap ∧ cap ≤ maxLen ∧ x = (.slice ((List.range len).map D) rest, pl) ∧
      ∀ i, i < len → ∃ parts : List (DataW H), D i = .agg parts ∧ ∀ (j : Nat) (f : Field), fs[j]? = some f → ∃ v y, w.cell? (a.add (i * k + j)) = some v ∧ DataW.trod enc P w base spare held n f.type [v] = some y ∧ parts[j]? = some y.1 := by
  rcases Deep.open_slice ht h with h0 | ⟨a, len, cap, m, n, D, Pl, rfl, hb, hl, hm, hmm, rfl, hx⟩
  · exact Or.inl h0
  right
  have hlm : len ≤ m := by rw [hmm]; split <;> omega
  refine ⟨a, len, cap, n - 1, D, _, _, rfl, hl, hm, rfl, fun i hi => ?_⟩
  obtain ⟨cs', h1, h2⟩ := hx i (by omega)
  rw [ce] at h1
  obtain ⟨_, hlen, hcell⟩ := World.cells?_some h1
  obtain ⟨xs, k', hk, hxy, _, hxl, hff⟩ := DataW.trod_struct he h2
  have hk' : k' = n - 1 := by omega
  subst hk'
  simp only [Prod.mk.injEq] at hxy
  refine ⟨_, hxy.1, fun j f hf => ?_⟩
  obtain ⟨o1, o2, o3⟩ := hfs j f hf
  have g := hff j f hf
  have hj : j < fs.size := (Array.getElem?_eq_some_iff.1 hf).1
  have hxs : xs[j]? = some (xs[j]'(by omega)) := List.getElem?_eq_getElem (by omega)
  have hcs : cs'[j]? = some (cs'[j]'(by omega)) := List.getElem?_eq_getElem (by omega)
  rw [o1, o2, hxs] at g
  have hone : (cs'.drop j).take 1 = [cs'[j]'(by omega)] := by
    rw [List.drop_eq_getElem_cons (by omega : j < cs'.length)]
    rfl
  rw [hone] at g
  refine ⟨_, _, ?_, g, by rw [List.getElem?_map, hxs]; rfl⟩
  have := hcell j o3
  rw [Deep.add_add] at this
  rw [this, hcs]
theorem weights_allN {e : TypeId} {d : DataW H} {n : Nat} : ∀ {l : List (DataW H)}, d ∈ l → n ∈ d.weights P e → n ∈ DataW.weightsAll P e l := by
  intro l
  induction l with
  | nil => intro h; cases h
  | cons x l ih =>
    intro h hn
    unfold DataW.weightsAll
    rcases List.mem_cons.1 h with rfl | h
    · exact List.mem_append_left _ hn
    · exact List.mem_append_right _ (ih h hn)
/-- a struct: its fields, each of one cell -/
theorem open_one {t : TypeId} {fs : Array Field} {fuel k : Nat} {cs : List Value} {x : DataW H × List MemPlace} (he : P.underlying t = some (.struct fs)) (ce : P.cellsOf t = k)
    (hfs : ∀ (j : Nat) (f : Field), fs[j]? = some f → f.offset = j ∧ P.cellsOf f.type = 1 ∧ j < k) (h : DataW.trod enc P w base spare held fuel t cs = some x) :
    ∃ (n : Nat) (parts : List (DataW H)), x.1 = .agg parts ∧ cs.length = k ∧ ∀ (j : Nat) (f : Field), fs[j]? = some f → ∃ v y, cs[j]? = some v ∧ DataW.trod enc P w base spare held n f.type [v] = some y ∧ parts[j]? = some y.1 := by
  obtain ⟨xs, n, hk, hxy, hlen, hxl, hff⟩ := DataW.trod_struct he h
  subst hxy
  refine ⟨n, _, rfl, hlen.trans ce, fun j f hf => ?_⟩
  obtain ⟨o1, o2, o3⟩ := hfs j f hf
  have g := hff j f hf
  have hj : j < fs.size := (Array.getElem?_eq_some_iff.1 hf).1
  have hlk : cs.length = k := hlen.trans ce
  have hxs : xs[j]? = some (xs[j]'(by omega)) := List.getElem?_eq_getElem (by omega)
  have hcs : cs[j]? = some (cs[j]'(by omega)) := List.getElem?_eq_getElem (by omega)
  rw [o1, o2, hxs] at g
  have hone : (cs.drop j).take 1 = [cs[j]'(by omega)] := by
    rw [List.drop_eq_getElem_cons (by omega : j < cs.length)]
    rfl
  rw [hone] at g
  exact ⟨_, _, hcs, g, by rw [List.getElem?_map, hxs]; rfl⟩
end

theorem field_atN {fs : Array Field} {ts : List (Nat × TypeId)} (hts : fs.toList.map (fun f => (f.offset, f.type)) = ts) {j o : Nat} {t : TypeId} (h : ts[j]? = some (o, t)) : ∃ f, fs[j]? = some f ∧ f.type = t := by
  rw [← hts, List.getElem?_map] at h
  cases hf : fs.toList[j]? with
  | none => rw [hf] at h; cases h
  | some f =>
    rw [hf] at h
    simp at h
    exact ⟨f, by rw [← Array.getElem?_toList]; exact hf, h.2⟩
theorem fields_oneN {fs : Array Field} {ts : List (Nat × TypeId)} (hts : fs.toList.map (fun f => (f.offset, f.type)) = ts) (h : ∀ (j : Nat) (y : Nat × TypeId), ts[j]? = some y → y.1 = j ∧ Try.prog.cellsOf y.2 = 1) (j : Nat) (f : Field) (hf : fs[j]? = some f) : f.offset = j ∧ Try.prog.cellsOf f.type = 1 ∧ j < ts.length := by
  have h1 : ts[j]? = some (f.offset, f.type) := by rw [← hts, List.getElem?_map, Array.getElem?_toList, hf]; rfl
  exact ⟨(h j _ h1).1, (h j _ h1).2, (List.getElem?_eq_some_iff.1 h1).1⟩

theorem cells_ints : Try.prog.cellsOf 3 = 1 ∧ Try.prog.bytesOf 3 = 8 ∧ Try.prog.cellsOf 23 = 1 ∧ Try.prog.cellsOf 4 = 1 ∧ Try.prog.cellsOf 9 = 1 := ⟨by kernel_rfl, by kernel_rfl, by kernel_rfl, by kernel_rfl, by kernel_rfl⟩
theorem cells_node : Try.prog.cellsOf 25 = 3 ∧ Try.prog.cellsOf 62 = 4 ∧ Try.prog.bytesOf 62 = 48 ∧ Try.prog.cellsOf 22 = 1 := ⟨by kernel_rfl, by kernel_rfl, by kernel_rfl, by kernel_rfl⟩
theorem cell_struct : ∃ fs : Array Field, Try.prog.underlying 62 = some (.struct fs) ∧ fs.toList.map (fun f => (f.offset, f.type)) = [(0, 9), (1, 9), (2, 3), (3, 3)] := ⟨_, Try.underlying62, rfl⟩
theorem node_struct : ∃ fs : Array Field, Try.prog.underlying 25 = some (.struct fs) ∧ fs.toList.map (fun f => (f.offset, f.type)) = [(0, 4), (1, 22), (2, 23)] := ⟨_, Try.underlying25, rfl⟩
theorem cell_ones (j : Nat) (y : Nat × TypeId) (h : [(0, 9), (1, 9), (2, 3), (3, 3)][j]? = some y) : y.1 = j ∧ Try.prog.cellsOf y.2 = 1 := by
  match j, h with
  | 0, h => simp at h; subst h; exact ⟨rfl, cells_ints.2.2.2.2⟩
  | 1, h => simp at h; subst h; exact ⟨rfl, cells_ints.2.2.2.2⟩
  | 2, h => simp at h; subst h; exact ⟨rfl, cells_ints.1⟩
  | 3, h => simp at h; subst h; exact ⟨rfl, cells_ints.1⟩
  | n + 4, h => simp at h
theorem node_ones (j : Nat) (y : Nat × TypeId) (h : [(0, 4), (1, 22), (2, 23)][j]? = some y) : y.1 = j ∧ Try.prog.cellsOf y.2 = 1 := by
  match j, h with
  | 0, h => simp at h; subst h; exact ⟨rfl, cells_ints.2.2.2.1⟩
  | 1, h => simp at h; subst h; exact ⟨rfl, cells_node.2.2.2⟩
  | 2, h => simp at h; subst h; exact ⟨rfl, cells_ints.2.2.1⟩
  | n + 3, h => simp at h

theorem slice_form {H : Type} {enc : TypeId × Value → H} {W : World} {spare : Nat → Bool} {held : Bool} {fuel : Nat} {t e : TypeId} {v : Value} {x : DataW H × List MemPlace} (ht : Try.prog.underlying t = some (.slice e))
    (hf : DataW.trod enc Try.prog W 0 spare held fuel t [v] = some x) : ∃ a len cap, v = .slice a len cap := by
  rcases Deep.open_slice ht hf with ⟨hcs, _⟩ | ⟨a, len, cap, _, _, _, _, hcs, _⟩
  · simp at hcs
    exact ⟨_, _, _, hcs⟩
  · simp at hcs
    exact ⟨_, _, _, hcs⟩
/-- kids, wherever they lie -/
theorem kids_at {H : Type} {enc : TypeId × Value → H} {W : World} {spare : Nat → Bool} {held : Bool} {fuel : Nat} {a : Option Addr} {len cap : Nat} {x : DataW H × List MemPlace}
    (hf : DataW.trod enc Try.prog W 0 spare held fuel 23 [.slice a len cap] = some x) (hw : ∀ n ∈ x.1.weights Try.prog 23, n ≤ reachBytes) :
    ∃ l : List Int, l.length = len ∧ KsN W Any (.slice a len cap) l ∧ len ≤ 140737488355328 := by
  rcases Deep.open_slice Try.underlying23 hf with ⟨hcs, hx⟩ | ⟨ad, l, c, m, n, D, Pl, hcs, hb, hl, hm, hmm, hx, hcell⟩
  · simp at hcs
    obtain ⟨rfl, rfl, rfl⟩ := hcs
    exact ⟨[], rfl, RowN.nil _ _ _, by omega⟩
  · simp at hcs
    obtain ⟨rfl, rfl, rfl⟩ := hcs
    subst hx
    have hlm : len ≤ m := by rw [hmm]; split <;> omega
    have each : ∀ i, i < len → ∃ y : Int, W.cell? (ad.add i) = some (.int .i64 y) := by
      intro i hi
      obtain ⟨cs', c1, c2⟩ := hcell i (by omega)
      rw [cells_ints.1] at c1
      obtain ⟨_, hlen, hc⟩ := World.cells?_some c1
      obtain ⟨y, rfl, -, _⟩ := DataW.trod_int Try.underlying3 c2
      refine ⟨y, ?_⟩
      have := hc 0 (by omega)
      rw [Deep.add_add] at this
      simpa using this
    obtain ⟨y, hy⟩ := Deep.choose_lt each
    have hlen : ((List.range len).map y).length = len := by simp
    have hb8 : len ≤ 140737488355328 := by
      have h1 := hw _ (by simp only [DataW.weights, Try.underlying23]; exact List.mem_cons_self)
      rw [cells_ints.2.1] at h1
      simp only [reachBytes, List.length_map, List.length_range] at h1
      omega
    refine ⟨(List.range len).map y, hlen, ?_, hb8⟩
    unfold KsN
    rw [hlen]
    refine ⟨_, cap, rfl, by rw [KsV_length, hlen, Nat.mul_one], hl, hm, (fun h => by cases h), fun h0 => ?_⟩
    obtain ⟨b, o, sp⟩ := ad
    have hc0 := hy 0 h0
    have hsp : sp = none := by simpa [Addr.add] using World.cell?_spot hc0
    subst hsp
    have hbl := World.block_lt_of_cell? W _ hc0
    rw [plus_zero] at hbl
    refine ⟨b, o, rfl, trivial, hbl, fun j u hu => ?_⟩
    have hj : j < len := by
      have := (List.getElem?_eq_some_iff.1 hu).1
      rw [KsV_length, hlen] at this
      exact this
    unfold KsV at hu
    rw [List.getElem?_map, List.getElem?_map, List.getElem?_range hj] at hu
    simp at hu
    subst hu
    have := hy j hj
    rw [plus_zero] at this
    exact this
set_option maxRecDepth 100000 in
/-- cells, wherever they lie -/
theorem cells_at {H : Type} {enc : TypeId × Value → H} {W : World} {spare : Nat → Bool} {held : Bool} {fuel : Nat} {a : Option Addr} {len cap : Nat} {x : DataW H × List MemPlace}
    (hf : DataW.trod enc Try.prog W 0 spare held fuel 22 [.slice a len cap] = some x) (hw : ∀ n ∈ x.1.weights Try.prog 22, n ≤ reachBytes) :
    ∃ l : List PC, l.length = len ∧ CsN W Any (.slice a len cap) l ∧ len ≤ 140737488355328 ∧ ∀ c ∈ l, c.key.size ≤ 140737488355328 ∧ c.val.size ≤ 140737488355328 := by
  obtain ⟨fs, hfs, hts⟩ := cell_struct
  have hfl : fs.toList.map (·.type) = [9, 9, 3, 3] := by
    have := congrArg (List.map Prod.snd) hts
    rw [List.map_map] at this
    exact this
  rcases open_structN (k := 4) Try.underlying22 hfs cells_node.2.1 (fun j f hf => fields_oneN hts cell_ones j f hf) hf with ⟨hcs, _⟩ | ⟨ad, l, c, n, D, rest, pl, hcs, hl, hm, hx, hcell⟩
  · simp at hcs
    obtain ⟨rfl, rfl, rfl⟩ := hcs
    exact ⟨[], rfl, RowN.nil _ _ _, by omega, fun c hc => by cases hc⟩
  · simp at hcs
    obtain ⟨rfl, rfl, rfl⟩ := hcs
    subst hx
    obtain ⟨f0, hf0, ht0⟩ := field_atN hts (j := 0) (o := 0) (t := 9) rfl
    obtain ⟨f1, hf1, ht1⟩ := field_atN hts (j := 1) (o := 1) (t := 9) rfl
    obtain ⟨f2, hf2, ht2⟩ := field_atN hts (j := 2) (o := 2) (t := 3) rfl
    obtain ⟨f3, hf3, ht3⟩ := field_atN hts (j := 3) (o := 3) (t := 3) rfl
    have hwl : ∀ d ∈ (List.range len).map D, ∀ q ∈ d.weights Try.prog 62, q ≤ reachBytes := fun d hd q hq => hw q (by
      simp only [DataW.weights, Try.underlying22]
      exact List.mem_cons_of_mem _ (List.mem_append_left _ (weights_allN hd hq)))
    have each : ∀ i, i < len → ∃ y : PC, (y.key.size ≤ 140737488355328 ∧ y.val.size ≤ 140737488355328) ∧ W.cell? (ad.add (i * 4)) = some (.string y.key) ∧ W.cell? (ad.add (i * 4 + 1)) = some (.string y.val) ∧ W.cell? (ad.add (i * 4 + 2)) = some (.int .i64 y.long) ∧ W.cell? (ad.add (i * 4 + 3)) = some (.int .i64 y.size) := by
      intro i hi
      obtain ⟨parts, hD, hparts⟩ := hcell i hi
      obtain ⟨v0, y0, c0, t0, hp0⟩ := hparts 0 f0 hf0
      obtain ⟨v1, y1, c1, t1, hp1⟩ := hparts 1 f1 hf1
      obtain ⟨v2, y2, c2, t2, _⟩ := hparts 2 f2 hf2
      obtain ⟨v3, y3, c3, t3, _⟩ := hparts 3 f3 hf3
      rw [ht0] at t0
      rw [ht1] at t1
      rw [ht2] at t2
      rw [ht3] at t3
      obtain ⟨z0, e0, d0, _⟩ := DataW.trod_string Try.underlying9 t0
      obtain ⟨z1, e1, d1, _⟩ := DataW.trod_string Try.underlying9 t1
      obtain ⟨z2, e2, _, _⟩ := DataW.trod_int Try.underlying3 t2
      obtain ⟨z3, e3, _, _⟩ := DataW.trod_int Try.underlying3 t3
      simp at e0 e1 e2 e3
      subst d0 d1
      rw [e0] at c0
      rw [e1] at c1
      rw [e2] at c2
      rw [e3] at c3
      have hin : ∀ (j : Nat) (t : TypeId) (s : ByteArray), [9, 9, 3, 3][j]? = some t → parts[j]? = some (.lit (.string s.data.toList)) → s.size ≤ 140737488355328 := fun j t s h1 h2 => by
        have h3 : s.data.toList.length ∈ (D i).weights Try.prog 62 := by
          rw [hD]
          simp only [DataW.weights, hfs, hfl]
          exact DataW.weights_mem_each h1 h2 _ (by simp [DataW.weights])
        have h4 := hwl (D i) (List.mem_map.2 ⟨i, List.mem_range.2 hi, rfl⟩) _ h3
        simp only [reachBytes] at h4
        have h5 : s.data.toList.length = s.size := by simp
        omega
      exact ⟨⟨z0, z1, z2, z3⟩, ⟨hin 0 _ _ rfl hp0, hin 1 _ _ rfl hp1⟩, c0, c1, c2, c3⟩
    haveI : Inhabited PC := ⟨⟨.empty, .empty, 0, 0⟩⟩
    obtain ⟨y, hy⟩ := Deep.choose_lt each
    have hlen : ((List.range len).map y).length = len := by simp
    have hb8 : len ≤ 140737488355328 := by
      have h1 := hw _ (by simp only [DataW.weights, Try.underlying22]; exact List.mem_cons_self)
      rw [cells_node.2.2.1] at h1
      simp only [reachBytes, List.length_map, List.length_range] at h1
      omega
    refine ⟨(List.range len).map y, hlen, ?_, hb8, fun c hc => ?_⟩
    · unfold CsN
      rw [hlen]
      refine ⟨_, cap, rfl, by rw [CsV_length, hlen], hl, hm, (fun h => by cases h), fun h0 => ?_⟩
      obtain ⟨b, o, sp⟩ := ad
      have hc0 := (hy 0 h0).2.1
      have hsp : sp = none := by simpa [Addr.add] using World.cell?_spot hc0
      subst hsp
      have hbl := World.block_lt_of_cell? W _ hc0
      rw [plus_zero] at hbl
      refine ⟨b, o, rfl, trivial, hbl, fun j u hu => ?_⟩
      have hj : j < len * 4 := by
        have := (List.getElem?_eq_some_iff.1 hu).1
        rw [CsV_length, hlen] at this
        exact this
      have hi : j / 4 < len := by omega
      have hgi : ((List.range len).map y)[j / 4]? = some (y (j / 4)) := by rw [List.getElem?_map, List.getElem?_range hi]; rfl
      obtain ⟨g0, g1, g2, g3⟩ := CsV_get hgi
      obtain ⟨-, c0, c1, c2, c3⟩ := hy (j / 4) hi
      rw [plus_zero] at c0 c1 c2 c3
      have hm4 : j % 4 = 0 ∨ j % 4 = 1 ∨ j % 4 = 2 ∨ j % 4 = 3 := by omega
      rcases hm4 with h | h | h | h
      · have e : j = j / 4 * 4 := by omega
        obtain ⟨q, hq⟩ : ∃ q, q = j / 4 := ⟨_, rfl⟩
        rw [← hq] at e g0 c0
        subst e
        rw [g0] at hu
        rw [← Option.some.inj hu]
        exact c0
      · have e : j = j / 4 * 4 + 1 := by omega
        obtain ⟨q, hq⟩ : ∃ q, q = j / 4 := ⟨_, rfl⟩
        rw [← hq] at e g1 c1
        subst e
        rw [g1] at hu
        rw [← Option.some.inj hu]
        exact c1
      · have e : j = j / 4 * 4 + 2 := by omega
        obtain ⟨q, hq⟩ : ∃ q, q = j / 4 := ⟨_, rfl⟩
        rw [← hq] at e g2 c2
        subst e
        rw [g2] at hu
        rw [← Option.some.inj hu]
        exact c2
      · have e : j = j / 4 * 4 + 3 := by omega
        obtain ⟨q, hq⟩ : ∃ q, q = j / 4 := ⟨_, rfl⟩
        rw [← hq] at e g3 c3
        subst e
        rw [g3] at hu
        rw [← Option.some.inj hu]
        exact c3
    · obtain ⟨i, hi, rfl⟩ := List.mem_map.1 hc
      exact (hy i (List.mem_range.1 hi)).1
/-- An argument that is a node: what it reads as. -/
theorem open_node {H : Type} {enc : TypeId × Value → H} {W : World} {spare : Nat → Bool} {held : Bool} {cs : Array Value} {d : DataW H} {p : List MemPlace} {ts : List TypeId} {ds : List (DataW H)} {jj : Nat}
    (h : DataW.Trod enc Try.prog W 0 spare held 25 (.agg cs) d p) (hsz : (DataW.weightsEach Try.prog ts ds).all (· ≤ reachBytes) = true) (htj : ts[jj]? = some 25) (hdj : ds[jj]? = some d) :
    ∃ n : PN, NodeN W Any (.agg cs) n ∧ n.cells.length ≤ 140737488355328 ∧ n.kids.length ≤ 140737488355328 ∧ ∀ c ∈ n.cells, c.key.size ≤ 140737488355328 ∧ c.val.size ≤ 140737488355328 := by
  obtain ⟨fuel, hf⟩ := h
  obtain ⟨fs, hfs, hts⟩ := node_struct
  have hfl : fs.toList.map (·.type) = [4, 22, 23] := by
    have := congrArg (List.map Prod.snd) hts
    rw [List.map_map] at this
    exact this
  obtain ⟨n, parts, hD, hlen, hparts⟩ := open_one hfs cells_node.1 (fun j f hf => fields_oneN hts node_ones j f hf) hf
  dsimp only at hD
  subst hD
  obtain ⟨f0, hf0, ht0⟩ := field_atN hts (j := 0) (o := 0) (t := 4) rfl
  obtain ⟨f1, hf1, ht1⟩ := field_atN hts (j := 1) (o := 1) (t := 22) rfl
  obtain ⟨f2, hf2, ht2⟩ := field_atN hts (j := 2) (o := 2) (t := 23) rfl
  obtain ⟨v0, y0, c0, t0, _⟩ := hparts 0 f0 hf0
  obtain ⟨v1, y1, c1, t1, hp1⟩ := hparts 1 f1 hf1
  obtain ⟨v2, y2, c2, t2, hp2⟩ := hparts 2 f2 hf2
  rw [ht0] at t0
  rw [ht1] at t1
  rw [ht2] at t2
  obtain ⟨lf, e0, _⟩ := DataW.trod_bool Try.underlying4 t0
  simp at e0
  subst e0
  obtain ⟨a1, l1, k1, rfl⟩ := slice_form Try.underlying22 t1
  obtain ⟨a2, l2, k2, rfl⟩ := slice_form Try.underlying23 t2
  have hin : ∀ (j : Nat) (t : TypeId) (y : DataW H), [4, 22, 23][j]? = some t → parts[j]? = some y → ∀ q ∈ y.weights Try.prog t, q ≤ reachBytes := fun j t y h1 h2 q hq => by
    have h3 : q ∈ (DataW.agg parts).weights Try.prog 25 := by
      simp only [DataW.weights, hfs, hfl]
      exact DataW.weights_mem_each h1 h2 _ hq
    have h4 := List.all_eq_true.1 hsz _ (DataW.weights_mem_each htj hdj _ h3)
    simpa using h4
  obtain ⟨lc, hc1, hc2, hc3, hc4⟩ := cells_at t1 (hin 1 _ _ rfl hp1)
  obtain ⟨lk, hk1, hk2, hk3⟩ := kids_at t2 (hin 2 _ _ rfl hp2)
  refine ⟨⟨lf, lc, lk⟩, ⟨_, _, ?_, hc2, hk2⟩, by show lc.length ≤ _; omega, by show lk.length ≤ _; omega, hc4⟩
  have hcs : cs.toList = [.bool lf, .slice a1 l1 k1, .slice a2 l2 k2] := by
    have hl3 : cs.toList.length = 3 := hlen
    match hcl : cs.toList, hl3 with
    | [x, y, z], _ =>
      have hcc : (Value.agg cs).cells.toList = cs.toList := rfl
      rw [hcl] at hcc
      rw [hcc] at c0 c1 c2
      simp at c0 c1 c2
      subst c0 c1 c2
      rfl
  have : cs = #[.bool lf, .slice a1 l1 k1, .slice a2 l2 k2] := by
    rw [← Array.toArray_toList (xs := cs), hcs]
  rw [this]
end Go.Proofs.Ytedcknlafkokkaa
