/-
  How an argument that is a message reads: its numbers are such as the machine has, its texts such as memory has. No statement is proved here. No condition.
-/
import Derived.Test.YtblbcoknefgcaaaMArgs
import Derived.Test.YtblbcoknefgcaaaMSize
namespace Go.Proofs.Ytblbcoknefgcaaa
open Go.ChangeShapes Go.WideShapes Go.ChangeAt Go.RowKit
open Go.ChangeMaps (open_string shut_string)

theorem wf_i64 {k : Int} (h : (Lit.int .i64 k).wf = true) : I64 k := by
  have e1 : IntKind.i64.min = -9223372036854775808 := rfl
  have e2 : IntKind.i64.max = 9223372036854775807 := rfl
  simp [Lit.wf, e1, e2] at h
  unfold I64
  omega
theorem wf_u8 {k : Int} (h : (Lit.int .u8 k).wf = true) : 0 ≤ k ∧ k ≤ 255 := by
  have e1 : IntKind.u8.min = 0 := rfl
  have e2 : IntKind.u8.max = 255 := rfl
  simp [Lit.wf, e1, e2] at h
  exact h
/-- such records as are so -/
def subR {α : Type} (R : Rec α) (p : α → Prop) : Rec {x : α // p x} where
  vals x := R.vals x.1
  size := R.size
  len x := R.len x.1
  one x := R.one x.1
theorem sub_of {α : Type} {R : Rec α} {p : α → Prop} {w : World} {v : Value} {L : List {x : α // p x}} (h : (subR R p).N w Any v L) : R.N w Any v (L.map (·.1)) := by
  have hrow : R.row (L.map (·.1)) = (subR R p).row L := by
    unfold Rec.row
    rw [List.flatMap_map]
    rfl
  unfold Rec.N at h ⊢
  rw [hrow, List.length_map]
  exact h
def okP (c : PP) : Prop := c.key.size ≤ 140737488355328 ∧ c.val.size ≤ 140737488355328
def okX (c : PL) : Prop := c.ok ∧ c.res.val.size ≤ 140737488355328
def okI (n : Int) : Prop := I64 n
/-- an entry and its list -/
def EntK (w : World) (x : RE × List Int) : Prop := EntJ w x ∧ (I64 x.1.term ∧ (0 ≤ x.1.kind ∧ x.1.kind ≤ 255) ∧ ∀ n ∈ x.2, I64 n) ∧ x.1.data.size ≤ 140737488355328
def entK (w : World) : Rec {x : RE × List Int // EntK w x} where
  vals x := entR.vals x.1.1
  size := 4
  len _ := rfl
  one x := entR.one x.1.1
section
variable {H : Type} {enc : TypeId × Value → H} {w : World} {base : Nat} {spare : Nat → Bool} {held : Bool} {n : Nat} {cs : List Value} {y : DataW H × List MemPlace}
theorem one_intR (h : DataW.trod enc Try.prog w base spare held n 3 cs = some y) : ∃ r : {n : Int // okI n}, cs = (subR inR okI).vals r := by
  obtain ⟨s, e, -, hw⟩ := DataW.trod_int Try.underlying3 h
  exact ⟨⟨s, wf_i64 hw⟩, e⟩
set_option maxRecDepth 100000 in
theorem one_resR (h : DataW.trod enc Try.prog w base spare held n 30 cs = some y) (hw : ∀ q ∈ y.1.weights Try.prog 30, q ≤ reachBytes) : ∃ r : PR, cs = resV r ∧ r.ok ∧ r.val.size ≤ 140737488355328 := by
  obtain ⟨fs, hfs, hts⟩ := res_struct
  have hfl : fs.toList.map (·.type) = [5, 4, 9] := by
    have := congrArg (List.map Prod.snd) hts
    rw [List.map_map] at this
    exact this
  obtain ⟨xs, k, -, hy, hlen, hxl, hff⟩ := DataW.trod_struct hfs h
  have hsz : fs.size = 3 := by have := congrArg List.length hts; simpa using this
  have hl : cs.length = 3 := by rw [hlen]; exact c_res
  have hin : ∀ (j : Nat) (t : TypeId) (z : DataW H), [5, 4, 9][j]? = some t → (xs.map (·.1))[j]? = some z → ∀ q ∈ z.weights Try.prog t, q ≤ reachBytes := fun j t z h1 h2 q hq => hw q (by
    rw [hy]
    simp only [DataW.weights, hfs, hfl]
    exact DataW.weights_mem_each h1 h2 _ hq)
  obtain ⟨f0, g0, o0, t0⟩ := field_in hts (j := 0) rfl
  obtain ⟨f1, g1, o1, t1⟩ := field_in hts (j := 1) rfl
  obtain ⟨f2, g2, o2, t2⟩ := field_in hts (j := 2) rfl
  match cs, hl with
  | a0 :: a1 :: a2 :: [], _ =>
    have h0 := hff 0 f0 g0
    rw [o0, t0, c_u8, List.getElem?_eq_getElem (show 0 < xs.length by omega)] at h0
    have h1 := hff 1 f1 g1
    rw [o1, t1, c_bool, List.getElem?_eq_getElem (show 1 < xs.length by omega)] at h1
    have h2 := hff 2 f2 g2
    rw [o2, t2, c_str, List.getElem?_eq_getElem (show 2 < xs.length by omega)] at h2
    obtain ⟨s0, e0, -, w0⟩ := DataW.trod_int Try.underlying5 h0
    simp at e0
    subst e0
    replace w0 := wf_u8 w0
    obtain ⟨s1, e1, -⟩ := DataW.trod_bool Try.underlying4 h1
    simp at e1
    subst e1
    obtain ⟨s2, e2, kk2, -⟩ := DataW.trod_string Try.underlying9 h2
    simp at e2
    subst e2
    have z2 : s2.size ≤ 140737488355328 := by
      have hd := hin 2 _ (xs[2]'(by omega)).1 rfl (by rw [List.getElem?_map, List.getElem?_eq_getElem (show 2 < xs.length by omega)]; rfl) s2.data.toList.length (by rw [kk2]; simp [DataW.weights])
      rw [Array.length_toList] at hd
      unfold reachBytes at hd
      exact Nat.le_trans (show s2.data.size ≤ 140737488351232 from hd) (by decide)
    exact ⟨⟨s0, s1, s2⟩, rfl, w0, z2⟩
set_option maxRecDepth 100000 in
theorem one_opR (h : DataW.trod enc Try.prog w base spare held n 28 cs = some y) (hw : ∀ q ∈ y.1.weights Try.prog 28, q ≤ reachBytes) : ∃ r : PO, cs = opV r ∧ r.ok ∧ r.key.size ≤ 140737488355328 ∧ r.val.size ≤ 140737488355328 ∧ r.old.size ≤ 140737488355328 := by
  obtain ⟨fs, hfs, hts⟩ := op_struct
  have hfl : fs.toList.map (·.type) = [5, 9, 9, 9, 4] := by
    have := congrArg (List.map Prod.snd) hts
    rw [List.map_map] at this
    exact this
  obtain ⟨xs, k, -, hy, hlen, hxl, hff⟩ := DataW.trod_struct hfs h
  have hsz : fs.size = 5 := by have := congrArg List.length hts; simpa using this
  have hl : cs.length = 5 := by rw [hlen]; exact c_op
  have hin : ∀ (j : Nat) (t : TypeId) (z : DataW H), [5, 9, 9, 9, 4][j]? = some t → (xs.map (·.1))[j]? = some z → ∀ q ∈ z.weights Try.prog t, q ≤ reachBytes := fun j t z h1 h2 q hq => hw q (by
    rw [hy]
    simp only [DataW.weights, hfs, hfl]
    exact DataW.weights_mem_each h1 h2 _ hq)
  obtain ⟨f0, g0, o0, t0⟩ := field_in hts (j := 0) rfl
  obtain ⟨f1, g1, o1, t1⟩ := field_in hts (j := 1) rfl
  obtain ⟨f2, g2, o2, t2⟩ := field_in hts (j := 2) rfl
  obtain ⟨f3, g3, o3, t3⟩ := field_in hts (j := 3) rfl
  obtain ⟨f4, g4, o4, t4⟩ := field_in hts (j := 4) rfl
  match cs, hl with
  | a0 :: a1 :: a2 :: a3 :: a4 :: [], _ =>
    have h0 := hff 0 f0 g0
    rw [o0, t0, c_u8, List.getElem?_eq_getElem (show 0 < xs.length by omega)] at h0
    have h1 := hff 1 f1 g1
    rw [o1, t1, c_str, List.getElem?_eq_getElem (show 1 < xs.length by omega)] at h1
    have h2 := hff 2 f2 g2
    rw [o2, t2, c_str, List.getElem?_eq_getElem (show 2 < xs.length by omega)] at h2
    have h3 := hff 3 f3 g3
    rw [o3, t3, c_str, List.getElem?_eq_getElem (show 3 < xs.length by omega)] at h3
    have h4 := hff 4 f4 g4
    rw [o4, t4, c_bool, List.getElem?_eq_getElem (show 4 < xs.length by omega)] at h4
    obtain ⟨s0, e0, -, w0⟩ := DataW.trod_int Try.underlying5 h0
    simp at e0
    subst e0
    replace w0 := wf_u8 w0
    obtain ⟨s1, e1, kk1, -⟩ := DataW.trod_string Try.underlying9 h1
    simp at e1
    subst e1
    have z1 : s1.size ≤ 140737488355328 := by
      have hd := hin 1 _ (xs[1]'(by omega)).1 rfl (by rw [List.getElem?_map, List.getElem?_eq_getElem (show 1 < xs.length by omega)]; rfl) s1.data.toList.length (by rw [kk1]; simp [DataW.weights])
      rw [Array.length_toList] at hd
      unfold reachBytes at hd
      exact Nat.le_trans (show s1.data.size ≤ 140737488351232 from hd) (by decide)
    obtain ⟨s2, e2, kk2, -⟩ := DataW.trod_string Try.underlying9 h2
    simp at e2
    subst e2
    have z2 : s2.size ≤ 140737488355328 := by
      have hd := hin 2 _ (xs[2]'(by omega)).1 rfl (by rw [List.getElem?_map, List.getElem?_eq_getElem (show 2 < xs.length by omega)]; rfl) s2.data.toList.length (by rw [kk2]; simp [DataW.weights])
      rw [Array.length_toList] at hd
      unfold reachBytes at hd
      exact Nat.le_trans (show s2.data.size ≤ 140737488351232 from hd) (by decide)
    obtain ⟨s3, e3, kk3, -⟩ := DataW.trod_string Try.underlying9 h3
    simp at e3
    subst e3
    have z3 : s3.size ≤ 140737488355328 := by
      have hd := hin 3 _ (xs[3]'(by omega)).1 rfl (by rw [List.getElem?_map, List.getElem?_eq_getElem (show 3 < xs.length by omega)]; rfl) s3.data.toList.length (by rw [kk3]; simp [DataW.weights])
      rw [Array.length_toList] at hd
      unfold reachBytes at hd
      exact Nat.le_trans (show s3.data.size ≤ 140737488351232 from hd) (by decide)
    obtain ⟨s4, e4, -⟩ := DataW.trod_bool Try.underlying4 h4
    simp at e4
    subst e4
    exact ⟨⟨s0, s1, s2, s3, s4⟩, rfl, w0, z1, z2, z3⟩
set_option maxRecDepth 100000 in
theorem one_cmdR (h : DataW.trod enc Try.prog w base spare held n 36 cs = some y) (hw : ∀ q ∈ y.1.weights Try.prog 36, q ≤ reachBytes) : ∃ r : CM, cs = cmdV r ∧ r.ok := by
  obtain ⟨fs, hfs, hts⟩ := cmd_struct
  have hfl : fs.toList.map (·.type) = [5, 3, 3, 3] := by
    have := congrArg (List.map Prod.snd) hts
    rw [List.map_map] at this
    exact this
  obtain ⟨xs, k, -, hy, hlen, hxl, hff⟩ := DataW.trod_struct hfs h
  have hsz : fs.size = 4 := by have := congrArg List.length hts; simpa using this
  have hl : cs.length = 4 := by rw [hlen]; exact c_cmd
  have hin : ∀ (j : Nat) (t : TypeId) (z : DataW H), [5, 3, 3, 3][j]? = some t → (xs.map (·.1))[j]? = some z → ∀ q ∈ z.weights Try.prog t, q ≤ reachBytes := fun j t z h1 h2 q hq => hw q (by
    rw [hy]
    simp only [DataW.weights, hfs, hfl]
    exact DataW.weights_mem_each h1 h2 _ hq)
  obtain ⟨f0, g0, o0, t0⟩ := field_in hts (j := 0) rfl
  obtain ⟨f1, g1, o1, t1⟩ := field_in hts (j := 1) rfl
  obtain ⟨f2, g2, o2, t2⟩ := field_in hts (j := 2) rfl
  obtain ⟨f3, g3, o3, t3⟩ := field_in hts (j := 3) rfl
  match cs, hl with
  | a0 :: a1 :: a2 :: a3 :: [], _ =>
    have h0 := hff 0 f0 g0
    rw [o0, t0, c_u8, List.getElem?_eq_getElem (show 0 < xs.length by omega)] at h0
    have h1 := hff 1 f1 g1
    rw [o1, t1, c_int, List.getElem?_eq_getElem (show 1 < xs.length by omega)] at h1
    have h2 := hff 2 f2 g2
    rw [o2, t2, c_int, List.getElem?_eq_getElem (show 2 < xs.length by omega)] at h2
    have h3 := hff 3 f3 g3
    rw [o3, t3, c_int, List.getElem?_eq_getElem (show 3 < xs.length by omega)] at h3
    obtain ⟨s0, e0, -, w0⟩ := DataW.trod_int Try.underlying5 h0
    simp at e0
    subst e0
    replace w0 := wf_u8 w0
    obtain ⟨s1, e1, -, w1⟩ := DataW.trod_int Try.underlying3 h1
    simp at e1
    subst e1
    replace w1 := wf_i64 w1
    obtain ⟨s2, e2, -, w2⟩ := DataW.trod_int Try.underlying3 h2
    simp at e2
    subst e2
    replace w2 := wf_i64 w2
    obtain ⟨s3, e3, -, w3⟩ := DataW.trod_int Try.underlying3 h3
    simp at e3
    subst e3
    replace w3 := wf_i64 w3
    exact ⟨⟨s0, s1, s2, s3⟩, rfl, w0, w1, w2, w3⟩
set_option maxRecDepth 100000 in
theorem one_pairR (h : DataW.trod enc Try.prog w base spare held n 67 cs = some y) (hw : ∀ q ∈ y.1.weights Try.prog 67, q ≤ reachBytes) : ∃ r : {x : PP // okP x}, cs = (subR pairR okP).vals r := by
  obtain ⟨fs, hfs, hts⟩ := pair_struct
  have hfl : fs.toList.map (·.type) = [9, 9] := by
    have := congrArg (List.map Prod.snd) hts
    rw [List.map_map] at this
    exact this
  obtain ⟨xs, k, -, hy, hlen, hxl, hff⟩ := DataW.trod_struct hfs h
  have hsz : fs.size = 2 := by have := congrArg List.length hts; simpa using this
  have hl : cs.length = 2 := by rw [hlen]; exact c_pair
  have hin : ∀ (j : Nat) (t : TypeId) (z : DataW H), [9, 9][j]? = some t → (xs.map (·.1))[j]? = some z → ∀ q ∈ z.weights Try.prog t, q ≤ reachBytes := fun j t z h1 h2 q hq => hw q (by
    rw [hy]
    simp only [DataW.weights, hfs, hfl]
    exact DataW.weights_mem_each h1 h2 _ hq)
  obtain ⟨f0, g0, o0, t0⟩ := field_in hts (j := 0) rfl
  obtain ⟨f1, g1, o1, t1⟩ := field_in hts (j := 1) rfl
  match cs, hl with
  | a0 :: a1 :: [], _ =>
    have h0 := hff 0 f0 g0
    rw [o0, t0, c_str, List.getElem?_eq_getElem (show 0 < xs.length by omega)] at h0
    have h1 := hff 1 f1 g1
    rw [o1, t1, c_str, List.getElem?_eq_getElem (show 1 < xs.length by omega)] at h1
    obtain ⟨s0, e0, kk0, -⟩ := DataW.trod_string Try.underlying9 h0
    simp at e0
    subst e0
    have z0 : s0.size ≤ 140737488355328 := by
      have hd := hin 0 _ (xs[0]'(by omega)).1 rfl (by rw [List.getElem?_map, List.getElem?_eq_getElem (show 0 < xs.length by omega)]; rfl) s0.data.toList.length (by rw [kk0]; simp [DataW.weights])
      rw [Array.length_toList] at hd
      unfold reachBytes at hd
      exact Nat.le_trans (show s0.data.size ≤ 140737488351232 from hd) (by decide)
    obtain ⟨s1, e1, kk1, -⟩ := DataW.trod_string Try.underlying9 h1
    simp at e1
    subst e1
    have z1 : s1.size ≤ 140737488355328 := by
      have hd := hin 1 _ (xs[1]'(by omega)).1 rfl (by rw [List.getElem?_map, List.getElem?_eq_getElem (show 1 < xs.length by omega)]; rfl) s1.data.toList.length (by rw [kk1]; simp [DataW.weights])
      rw [Array.length_toList] at hd
      unfold reachBytes at hd
      exact Nat.le_trans (show s1.data.size ≤ 140737488351232 from hd) (by decide)
    exact ⟨⟨⟨s0, s1⟩, z0, z1⟩, rfl⟩
set_option maxRecDepth 100000 in
theorem one_lastR (h : DataW.trod enc Try.prog w base spare held n 88 cs = some y) (hw : ∀ q ∈ y.1.weights Try.prog 88, q ≤ reachBytes) : ∃ r : {x : PL // okX x}, cs = (subR lastR okX).vals r := by
  obtain ⟨fs, hfs, hts⟩ := last_struct
  have hfl : fs.toList.map (·.type) = [3, 3, 30] := by
    have := congrArg (List.map Prod.snd) hts
    rw [List.map_map] at this
    exact this
  obtain ⟨xs, k, -, hy, hlen, hxl, hff⟩ := DataW.trod_struct hfs h
  have hsz : fs.size = 3 := by have := congrArg List.length hts; simpa using this
  have hl : cs.length = 5 := by rw [hlen]; exact c_last
  have hin : ∀ (j : Nat) (t : TypeId) (z : DataW H), [3, 3, 30][j]? = some t → (xs.map (·.1))[j]? = some z → ∀ q ∈ z.weights Try.prog t, q ≤ reachBytes := fun j t z h1 h2 q hq => hw q (by
    rw [hy]
    simp only [DataW.weights, hfs, hfl]
    exact DataW.weights_mem_each h1 h2 _ hq)
  obtain ⟨f0, g0, o0, t0⟩ := field_in hts (j := 0) rfl
  obtain ⟨f1, g1, o1, t1⟩ := field_in hts (j := 1) rfl
  obtain ⟨f2, g2, o2, t2⟩ := field_in hts (j := 2) rfl
  match cs, hl with
  | a0 :: a1 :: a2 :: a3 :: a4 :: [], _ =>
    have h0 := hff 0 f0 g0
    rw [o0, t0, c_int, List.getElem?_eq_getElem (show 0 < xs.length by omega)] at h0
    have h1 := hff 1 f1 g1
    rw [o1, t1, c_int, List.getElem?_eq_getElem (show 1 < xs.length by omega)] at h1
    have h2 := hff 2 f2 g2
    rw [o2, t2, c_res, List.getElem?_eq_getElem (show 2 < xs.length by omega)] at h2
    obtain ⟨s0, e0, -, w0⟩ := DataW.trod_int Try.underlying3 h0
    simp at e0
    subst e0
    replace w0 := wf_i64 w0
    obtain ⟨s1, e1, -, w1⟩ := DataW.trod_int Try.underlying3 h1
    simp at e1
    subst e1
    replace w1 := wf_i64 w1
    obtain ⟨s2, e2, w2⟩ := one_resR h2 (hin 2 _ _ rfl (by rw [List.getElem?_map, List.getElem?_eq_getElem (show 2 < xs.length by omega)]; rfl))
    simp [resV] at e2
    obtain ⟨e2_0, e2_1, e2_2⟩ := e2
    subst e2_0 e2_1 e2_2
    exact ⟨⟨⟨s0, s1, s2⟩, ⟨w0, w1, w2.1⟩, w2.2⟩, rfl⟩
set_option maxRecDepth 100000 in
theorem one_entryR (h : DataW.trod enc Try.prog w base spare held n 79 cs = some y) (hw : ∀ q ∈ y.1.weights Try.prog 79, q ≤ reachBytes) : ∃ r : {x : RE × List Int // EntK w x}, cs = (entK w).vals r := by
  obtain ⟨fs, hfs, hts⟩ := entry_struct
  have hfl : fs.toList.map (·.type) = [3, 5, 9, 32] := by
    have := congrArg (List.map Prod.snd) hts
    rw [List.map_map] at this
    exact this
  obtain ⟨xs, k, -, hy, hlen, hxl, hff⟩ := DataW.trod_struct hfs h
  have hsz : fs.size = 4 := by have := congrArg List.length hts; simpa using this
  have hl : cs.length = 4 := by rw [hlen]; exact c_entry
  have hin : ∀ (j : Nat) (t : TypeId) (z : DataW H), [3, 5, 9, 32][j]? = some t → (xs.map (·.1))[j]? = some z → ∀ q ∈ z.weights Try.prog t, q ≤ reachBytes := fun j t z h1 h2 q hq => hw q (by
    rw [hy]
    simp only [DataW.weights, hfs, hfl]
    exact DataW.weights_mem_each h1 h2 _ hq)
  obtain ⟨f0, g0, o0, t0⟩ := field_in hts (j := 0) rfl
  obtain ⟨f1, g1, o1, t1⟩ := field_in hts (j := 1) rfl
  obtain ⟨f2, g2, o2, t2⟩ := field_in hts (j := 2) rfl
  obtain ⟨f3, g3, o3, t3⟩ := field_in hts (j := 3) rfl
  match cs, hl with
  | a0 :: a1 :: a2 :: a3 :: [], _ =>
    have h0 := hff 0 f0 g0
    rw [o0, t0, c_int, List.getElem?_eq_getElem (show 0 < xs.length by omega)] at h0
    have h1 := hff 1 f1 g1
    rw [o1, t1, c_u8, List.getElem?_eq_getElem (show 1 < xs.length by omega)] at h1
    have h2 := hff 2 f2 g2
    rw [o2, t2, c_str, List.getElem?_eq_getElem (show 2 < xs.length by omega)] at h2
    have h3 := hff 3 f3 g3
    rw [o3, t3, c_sis, List.getElem?_eq_getElem (show 3 < xs.length by omega)] at h3
    obtain ⟨s0, e0, -, w0⟩ := DataW.trod_int Try.underlying3 h0
    simp at e0
    subst e0
    replace w0 := wf_i64 w0
    obtain ⟨s1, e1, -, w1⟩ := DataW.trod_int Try.underlying5 h1
    simp at e1
    subst e1
    replace w1 := wf_u8 w1
    obtain ⟨s2, e2, kk2, -⟩ := DataW.trod_string Try.underlying9 h2
    simp at e2
    subst e2
    have z2 : s2.size ≤ 140737488355328 := by
      have hd := hin 2 _ (xs[2]'(by omega)).1 rfl (by rw [List.getElem?_map, List.getElem?_eq_getElem (show 2 < xs.length by omega)]; rfl) s2.data.toList.length (by rw [kk2]; simp [DataW.weights])
      rw [Array.length_toList] at hd
      unfold reachBytes at hd
      exact Nat.le_trans (show s2.data.size ≤ 140737488351232 from hd) (by decide)
    have h3' : DataW.trod enc Try.prog w base spare held _ 32 [a3] = some _ := h3
    obtain ⟨q3, l3, k3, e3⟩ := slice_form Try.underlying32 h3'
    subst e3
    obtain ⟨L, hL, hN, hb⟩ := open_recW (R := subR inR okI) Try.underlying32 c_int (show 0 < 1 by decide) (fun _ _ _ h _ => one_intR h) h3' (hin 3 _ _ rfl (by rw [List.getElem?_map, List.getElem?_eq_getElem (show 3 < xs.length by omega)]; rfl))
    rw [b_int] at hb
    exact ⟨⟨(⟨s0, s1, s2, q3, l3, k3⟩, L.map (·.1)), ⟨sub_of hN, (by rw [List.length_map]; exact hL.symm), by dsimp only; rw [List.length_map]; omega⟩, ⟨w0, w1, fun n hn => by obtain ⟨z, -, rfl⟩ := List.mem_map.1 hn; exact z.2⟩, z2⟩, rfl⟩
theorem ent_ofR {v : Value} {l : List {x : RE × List Int // EntK w x}} (h : (entK w).N w Any v l) : EntN w Any v (l.map fun x => ⟨x.1.1.term, x.1.1.kind, x.1.1.data, x.1.2⟩) := by
  have hrow : entR.row (l.map (·.1.1)) = (entK w).row l := by
    unfold Rec.row
    rw [List.flatMap_map]
    rfl
  refine ⟨l.map (·.1.1), ?_, by simp, fun i r e hr he => ?_⟩
  · unfold Rec.N at h ⊢
    rw [hrow, List.length_map]
    exact h
  · rw [List.getElem?_map] at hr he
    cases hx : l[i]? with
    | none => rw [hx] at hr; cases hr
    | some x =>
      rw [hx] at hr he
      have hr := Option.some.inj hr
      have he := Option.some.inj he
      rw [← hr, ← he]
      exact ⟨rfl, rfl, rfl, x.2.1.2.1, x.2.1.1⟩
set_option maxRecDepth 100000 in
theorem one_msgR (h : DataW.trod enc Try.prog w base spare held n 38 cs = some y) (hw : ∀ q ∈ y.1.weights Try.prog 38, q ≤ reachBytes) : ∃ (m : MG) (vE vL vP vX : Value), cs = (m.cells vE vL vP vX).toList ∧ MsgL w Any m vE vL vP vX ∧ MsgS m ∧ m.fit ∧ m.texts := by
  obtain ⟨fs, hfs, hts⟩ := msg_struct
  have hfl : fs.toList.map (·.type) = [5, 3, 3, 3, 3, 3, 3, 28, 24, 30, 3, 3, 3, 3, 3, 4, 31, 32, 9, 3, 4, 33, 34, 36] := by
    have := congrArg (List.map Prod.snd) hts
    rw [List.map_map] at this
    exact this
  obtain ⟨xs, k, -, hy, hlen, hxl, hff⟩ := DataW.trod_struct hfs h
  have hsz : fs.size = 24 := by have := congrArg List.length hts; simpa using this
  have hl : cs.length = 33 := by rw [hlen]; exact c_msg
  have hin : ∀ (j : Nat) (t : TypeId) (z : DataW H), [5, 3, 3, 3, 3, 3, 3, 28, 24, 30, 3, 3, 3, 3, 3, 4, 31, 32, 9, 3, 4, 33, 34, 36][j]? = some t → (xs.map (·.1))[j]? = some z → ∀ q ∈ z.weights Try.prog t, q ≤ reachBytes := fun j t z h1 h2 q hq => hw q (by
    rw [hy]
    simp only [DataW.weights, hfs, hfl]
    exact DataW.weights_mem_each h1 h2 _ hq)
  obtain ⟨f0, g0, o0, t0⟩ := field_in hts (j := 0) rfl
  obtain ⟨f1, g1, o1, t1⟩ := field_in hts (j := 1) rfl
  obtain ⟨f2, g2, o2, t2⟩ := field_in hts (j := 2) rfl
  obtain ⟨f3, g3, o3, t3⟩ := field_in hts (j := 3) rfl
  obtain ⟨f4, g4, o4, t4⟩ := field_in hts (j := 4) rfl
  obtain ⟨f5, g5, o5, t5⟩ := field_in hts (j := 5) rfl
  obtain ⟨f6, g6, o6, t6⟩ := field_in hts (j := 6) rfl
  obtain ⟨f7, g7, o7, t7⟩ := field_in hts (j := 7) rfl
  obtain ⟨f8, g8, o8, t8⟩ := field_in hts (j := 8) rfl
  obtain ⟨f9, g9, o9, t9⟩ := field_in hts (j := 9) rfl
  obtain ⟨f10, g10, o10, t10⟩ := field_in hts (j := 10) rfl
  obtain ⟨f11, g11, o11, t11⟩ := field_in hts (j := 11) rfl
  obtain ⟨f12, g12, o12, t12⟩ := field_in hts (j := 12) rfl
  obtain ⟨f13, g13, o13, t13⟩ := field_in hts (j := 13) rfl
  obtain ⟨f14, g14, o14, t14⟩ := field_in hts (j := 14) rfl
  obtain ⟨f15, g15, o15, t15⟩ := field_in hts (j := 15) rfl
  obtain ⟨f16, g16, o16, t16⟩ := field_in hts (j := 16) rfl
  obtain ⟨f17, g17, o17, t17⟩ := field_in hts (j := 17) rfl
  obtain ⟨f18, g18, o18, t18⟩ := field_in hts (j := 18) rfl
  obtain ⟨f19, g19, o19, t19⟩ := field_in hts (j := 19) rfl
  obtain ⟨f20, g20, o20, t20⟩ := field_in hts (j := 20) rfl
  obtain ⟨f21, g21, o21, t21⟩ := field_in hts (j := 21) rfl
  obtain ⟨f22, g22, o22, t22⟩ := field_in hts (j := 22) rfl
  obtain ⟨f23, g23, o23, t23⟩ := field_in hts (j := 23) rfl
  match cs, hl with
  | a0 :: a1 :: a2 :: a3 :: a4 :: a5 :: a6 :: a7 :: a8 :: a9 :: a10 :: a11 :: a12 :: a13 :: a14 :: a15 :: a16 :: a17 :: a18 :: a19 :: a20 :: a21 :: a22 :: a23 :: a24 :: a25 :: a26 :: a27 :: a28 :: a29 :: a30 :: a31 :: a32 :: [], _ =>
    have h0 := hff 0 f0 g0
    rw [o0, t0, c_u8, List.getElem?_eq_getElem (show 0 < xs.length by omega)] at h0
    have h1 := hff 1 f1 g1
    rw [o1, t1, c_int, List.getElem?_eq_getElem (show 1 < xs.length by omega)] at h1
    have h2 := hff 2 f2 g2
    rw [o2, t2, c_int, List.getElem?_eq_getElem (show 2 < xs.length by omega)] at h2
    have h3 := hff 3 f3 g3
    rw [o3, t3, c_int, List.getElem?_eq_getElem (show 3 < xs.length by omega)] at h3
    have h4 := hff 4 f4 g4
    rw [o4, t4, c_int, List.getElem?_eq_getElem (show 4 < xs.length by omega)] at h4
    have h5 := hff 5 f5 g5
    rw [o5, t5, c_int, List.getElem?_eq_getElem (show 5 < xs.length by omega)] at h5
    have h6 := hff 6 f6 g6
    rw [o6, t6, c_int, List.getElem?_eq_getElem (show 6 < xs.length by omega)] at h6
    have h7 := hff 7 f7 g7
    rw [o7, t7, c_op, List.getElem?_eq_getElem (show 7 < xs.length by omega)] at h7
    have h8 := hff 8 f8 g8
    rw [o8, t8, c_errno, List.getElem?_eq_getElem (show 8 < xs.length by omega)] at h8
    have h9 := hff 9 f9 g9
    rw [o9, t9, c_res, List.getElem?_eq_getElem (show 9 < xs.length by omega)] at h9
    have h10 := hff 10 f10 g10
    rw [o10, t10, c_int, List.getElem?_eq_getElem (show 10 < xs.length by omega)] at h10
    have h11 := hff 11 f11 g11
    rw [o11, t11, c_int, List.getElem?_eq_getElem (show 11 < xs.length by omega)] at h11
    have h12 := hff 12 f12 g12
    rw [o12, t12, c_int, List.getElem?_eq_getElem (show 12 < xs.length by omega)] at h12
    have h13 := hff 13 f13 g13
    rw [o13, t13, c_int, List.getElem?_eq_getElem (show 13 < xs.length by omega)] at h13
    have h14 := hff 14 f14 g14
    rw [o14, t14, c_int, List.getElem?_eq_getElem (show 14 < xs.length by omega)] at h14
    have h15 := hff 15 f15 g15
    rw [o15, t15, c_bool, List.getElem?_eq_getElem (show 15 < xs.length by omega)] at h15
    have h16 := hff 16 f16 g16
    rw [o16, t16, c_ses, List.getElem?_eq_getElem (show 16 < xs.length by omega)] at h16
    have h17 := hff 17 f17 g17
    rw [o17, t17, c_sis, List.getElem?_eq_getElem (show 17 < xs.length by omega)] at h17
    have h18 := hff 18 f18 g18
    rw [o18, t18, c_str, List.getElem?_eq_getElem (show 18 < xs.length by omega)] at h18
    have h19 := hff 19 f19 g19
    rw [o19, t19, c_int, List.getElem?_eq_getElem (show 19 < xs.length by omega)] at h19
    have h20 := hff 20 f20 g20
    rw [o20, t20, c_bool, List.getElem?_eq_getElem (show 20 < xs.length by omega)] at h20
    have h21 := hff 21 f21 g21
    rw [o21, t21, c_sps, List.getElem?_eq_getElem (show 21 < xs.length by omega)] at h21
    have h22 := hff 22 f22 g22
    rw [o22, t22, c_sxs, List.getElem?_eq_getElem (show 22 < xs.length by omega)] at h22
    have h23 := hff 23 f23 g23
    rw [o23, t23, c_cmd, List.getElem?_eq_getElem (show 23 < xs.length by omega)] at h23
    obtain ⟨s0, e0, -, w0⟩ := DataW.trod_int Try.underlying5 h0
    simp at e0
    subst e0
    replace w0 := wf_u8 w0
    obtain ⟨s1, e1, -, w1⟩ := DataW.trod_int Try.underlying3 h1
    simp at e1
    subst e1
    replace w1 := wf_i64 w1
    obtain ⟨s2, e2, -, w2⟩ := DataW.trod_int Try.underlying3 h2
    simp at e2
    subst e2
    replace w2 := wf_i64 w2
    obtain ⟨s3, e3, -, w3⟩ := DataW.trod_int Try.underlying3 h3
    simp at e3
    subst e3
    replace w3 := wf_i64 w3
    obtain ⟨s4, e4, -, w4⟩ := DataW.trod_int Try.underlying3 h4
    simp at e4
    subst e4
    replace w4 := wf_i64 w4
    obtain ⟨s5, e5, -, w5⟩ := DataW.trod_int Try.underlying3 h5
    simp at e5
    subst e5
    replace w5 := wf_i64 w5
    obtain ⟨s6, e6, -, w6⟩ := DataW.trod_int Try.underlying3 h6
    simp at e6
    subst e6
    replace w6 := wf_i64 w6
    obtain ⟨s7, e7, w7⟩ := one_opR h7 (hin 7 _ _ rfl (by rw [List.getElem?_map, List.getElem?_eq_getElem (show 7 < xs.length by omega)]; rfl))
    simp [opV] at e7
    obtain ⟨e7_0, e7_1, e7_2, e7_3, e7_4⟩ := e7
    subst e7_0 e7_1 e7_2 e7_3 e7_4
    obtain ⟨s8, e8, -, w8⟩ := DataW.trod_int Try.underlying24 h8
    simp at e8
    subst e8
    replace w8 := wf_i64 w8
    obtain ⟨s9, e9, w9⟩ := one_resR h9 (hin 9 _ _ rfl (by rw [List.getElem?_map, List.getElem?_eq_getElem (show 9 < xs.length by omega)]; rfl))
    simp [resV] at e9
    obtain ⟨e9_0, e9_1, e9_2⟩ := e9
    subst e9_0 e9_1 e9_2
    obtain ⟨s10, e10, -, w10⟩ := DataW.trod_int Try.underlying3 h10
    simp at e10
    subst e10
    replace w10 := wf_i64 w10
    obtain ⟨s11, e11, -, w11⟩ := DataW.trod_int Try.underlying3 h11
    simp at e11
    subst e11
    replace w11 := wf_i64 w11
    obtain ⟨s12, e12, -, w12⟩ := DataW.trod_int Try.underlying3 h12
    simp at e12
    subst e12
    replace w12 := wf_i64 w12
    obtain ⟨s13, e13, -, w13⟩ := DataW.trod_int Try.underlying3 h13
    simp at e13
    subst e13
    replace w13 := wf_i64 w13
    obtain ⟨s14, e14, -, w14⟩ := DataW.trod_int Try.underlying3 h14
    simp at e14
    subst e14
    replace w14 := wf_i64 w14
    obtain ⟨s15, e15, -⟩ := DataW.trod_bool Try.underlying4 h15
    simp at e15
    subst e15
    have h16' : DataW.trod enc Try.prog w base spare held _ 31 [a22] = some _ := h16
    obtain ⟨q16, l16, k16, e16⟩ := slice_form Try.underlying31 h16'
    subst e16
    have h17' : DataW.trod enc Try.prog w base spare held _ 32 [a23] = some _ := h17
    obtain ⟨q17, l17, k17, e17⟩ := slice_form Try.underlying32 h17'
    subst e17
    obtain ⟨s18, e18, kk18, -⟩ := DataW.trod_string Try.underlying9 h18
    simp at e18
    subst e18
    have z18 : s18.size ≤ 140737488355328 := by
      have hd := hin 18 _ (xs[18]'(by omega)).1 rfl (by rw [List.getElem?_map, List.getElem?_eq_getElem (show 18 < xs.length by omega)]; rfl) s18.data.toList.length (by rw [kk18]; simp [DataW.weights])
      rw [Array.length_toList] at hd
      unfold reachBytes at hd
      exact Nat.le_trans (show s18.data.size ≤ 140737488351232 from hd) (by decide)
    obtain ⟨s19, e19, -, w19⟩ := DataW.trod_int Try.underlying3 h19
    simp at e19
    subst e19
    replace w19 := wf_i64 w19
    obtain ⟨s20, e20, -⟩ := DataW.trod_bool Try.underlying4 h20
    simp at e20
    subst e20
    have h21' : DataW.trod enc Try.prog w base spare held _ 33 [a27] = some _ := h21
    obtain ⟨q21, l21, k21, e21⟩ := slice_form Try.underlying33 h21'
    subst e21
    have h22' : DataW.trod enc Try.prog w base spare held _ 34 [a28] = some _ := h22
    obtain ⟨q22, l22, k22, e22⟩ := slice_form Try.underlying34 h22'
    subst e22
    obtain ⟨s23, e23, w23⟩ := one_cmdR h23 (hin 23 _ _ rfl (by rw [List.getElem?_map, List.getElem?_eq_getElem (show 23 < xs.length by omega)]; rfl))
    simp [cmdV] at e23
    obtain ⟨e23_0, e23_1, e23_2, e23_3⟩ := e23
    subst e23_0 e23_1 e23_2 e23_3
    obtain ⟨LE, hE1, hE2, hE3⟩ := open_recW (R := entK w) Try.underlying31 c_entry (show 0 < 4 by decide) (fun _ _ _ h hw => one_entryR h hw) h16' (hin 16 _ _ rfl (by rw [List.getElem?_map, List.getElem?_eq_getElem (show 16 < xs.length by omega)]; rfl))
    obtain ⟨LL, hL1, hL2, hL3⟩ := open_recW (R := subR inR okI) Try.underlying32 c_int (show 0 < 1 by decide) (fun _ _ _ h _ => one_intR h) h17' (hin 17 _ _ rfl (by rw [List.getElem?_map, List.getElem?_eq_getElem (show 17 < xs.length by omega)]; rfl))
    obtain ⟨LP, hP1, hP2, hP3⟩ := open_recW (R := subR pairR okP) Try.underlying33 c_pair (show 0 < 2 by decide) (fun _ _ _ h hw => one_pairR h hw) h21' (hin 21 _ _ rfl (by rw [List.getElem?_map, List.getElem?_eq_getElem (show 21 < xs.length by omega)]; rfl))
    obtain ⟨LX, hX1, hX2, hX3⟩ := open_recW (R := subR lastR okX) Try.underlying34 c_last (show 0 < 5 by decide) (fun _ _ _ h hw => one_lastR h hw) h22' (hin 22 _ _ rfl (by rw [List.getElem?_map, List.getElem?_eq_getElem (show 22 < xs.length by omega)]; rfl))
    rw [b_entry] at hE3
    rw [b_int] at hL3
    rw [b_pair] at hP3
    rw [b_last] at hX3
    have hEl : ∀ e ∈ (LE.map fun x => (⟨x.1.1.term, x.1.1.kind, x.1.1.data, x.1.2⟩ : EN)), e.ok ∧ e.list.length ≤ 17592186044416 ∧ e.data.size ≤ 140737488355328 := fun e he => by
      obtain ⟨x, hx, rfl⟩ := List.mem_map.1 he
      exact ⟨x.2.2.1, x.2.1.2.2, x.2.2.2⟩
    have hLl : ∀ n ∈ LL.map (·.1), I64 n := fun n hn => by
      obtain ⟨z, -, rfl⟩ := List.mem_map.1 hn
      exact z.2
    have hPl : ∀ c ∈ LP.map (·.1), okP c := fun n hn => by
      obtain ⟨z, -, rfl⟩ := List.mem_map.1 hn
      exact z.2
    have hXl : ∀ c ∈ LX.map (·.1), okX c := fun n hn => by
      obtain ⟨z, -, rfl⟩ := List.mem_map.1 hn
      exact z.2
    have n1 : (LE.map fun x => (⟨x.1.1.term, x.1.1.kind, x.1.1.data, x.1.2⟩ : EN)).length ≤ 2513169434916 := by rw [List.length_map]; omega
    have n2 : (LL.map (·.1)).length ≤ 17592186044416 := by rw [List.length_map]; omega
    have n3 : (LP.map (·.1)).length ≤ 4398046511104 := by rw [List.length_map]; omega
    have n4 : (LX.map (·.1)).length ≤ 3518437208883 := by rw [List.length_map]; omega
    have gE := ent_ofR hE2
    have gL := sub_of hL2
    have gP := sub_of hP2
    have gX := sub_of hX2
    obtain ⟨xE, hxE⟩ : ∃ x, x = LE.map fun x => (⟨x.1.1.term, x.1.1.kind, x.1.1.data, x.1.2⟩ : EN) := ⟨_, rfl⟩
    obtain ⟨xL, hxL⟩ : ∃ x, x = LL.map (·.1) := ⟨_, rfl⟩
    obtain ⟨xP, hxP⟩ : ∃ x, x = LP.map (·.1) := ⟨_, rfl⟩
    obtain ⟨xX, hxX⟩ : ∃ x, x = LX.map (·.1) := ⟨_, rfl⟩
    rw [← hxE] at hEl n1 gE
    rw [← hxL] at hLl n2 gL
    rw [← hxP] at hPl n3 gP
    rw [← hxX] at hXl n4 gX
    refine ⟨⟨s0, s1, s2, s3, s4, s5, s6, s7, s8, s9, s10, s11, s12, s13, s14, s15, xE, xL, s18, s19, s20, xP, xX, s23⟩, _, _, _, _, rfl, ⟨gE, gL, gP, gX⟩, ⟨?_, fun e he => (hEl e he).2.1, ?_, ?_, ?_⟩,
      ⟨⟨w0, ⟨w1, w2, w3, w4, w5, w6⟩, w7.1, w8, w9.1, ⟨w10, w11, w12, w13, w14⟩, w19, w23⟩, ⟨?_, ?_, ?_, ?_⟩, fun e he => ⟨(hEl e he).1, ?_⟩, hLl, fun c hc => (hXl c hc).1⟩,
      ⟨⟨?_, ?_, ?_, ?_, ?_⟩, fun c hc => ⟨?_, ?_⟩, fun c hc => ?_, fun e he => ?_⟩⟩
    all_goals try dsimp only
    all_goals first
      | (have := (hEl e he).2.1; omega)
      | (have := (hEl e he).2.2; omega)
      | (have := hPl c hc; unfold okP at this; omega)
      | (have := (hXl c hc).2; omega)
      | omega
end
end Go.Proofs.Ytblbcoknefgcaaa
