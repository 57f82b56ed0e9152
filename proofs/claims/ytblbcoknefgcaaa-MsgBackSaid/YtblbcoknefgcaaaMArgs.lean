/-
  How an argument that is a message, as the statements' form reads it, reads plainly. No statement is proved here. No condition.
-/
import Derived.Test.YtblbcoknefgcaaaMTwinM
import Derived.ProofKit
import Derived.OpenShut
import Derived.ShutString
import Derived.ChangeOld
import Derived.SizedLaws
import Derived.Deep.SlicePairs
namespace Go.Proofs.Ytblbcoknefgcaaa
open Go.ChangeShapes Go.WideShapes Go.ChangeAt Go.RowKit
open Go.ChangeMaps (open_string shut_string)

theorem args_knob : ownKnob Try.prog.godebug = none := by kernel_rfl
theorem args_laid : laidOutB Try.prog = true := by kernel_rfl
theorem weights_in {H : Type} {P : Program} {e : TypeId} {d : DataW H} {n : Nat} : ∀ {l : List (DataW H)}, d ∈ l → n ∈ d.weights P e → n ∈ DataW.weightsAll P e l := by
  intro l
  induction l with
  | nil => intro h; cases h
  | cons a r ih =>
    intro h hn
    unfold DataW.weightsAll
    rcases List.mem_cons.1 h with rfl | h
    · exact List.mem_append_left _ hn
    · exact List.mem_append_right _ (ih h hn)
section
variable {H : Type} {enc : TypeId × Value → H} {w : World} {base : Nat} {spare : Nat → Bool} {held : Bool}
/-- a slice of records; what is read of each is of a weight that memory has -/
theorem open_recW {P : Program} {α : Type} {R : Rec α} {t e : TypeId} {fuel : Nat} {a : Option Addr} {len cap : Nat} {x : DataW H × List MemPlace} (ht : P.underlying t = some (.slice e)) (ce : P.cellsOf e = R.size) (hsz : 0 < R.size)
    (hone : ∀ n cs y, DataW.trod enc P w base spare held n e cs = some y → (∀ q ∈ y.1.weights P e, q ≤ reachBytes) → ∃ r : α, cs = R.vals r) (h : DataW.trod enc P w base spare held fuel t [.slice a len cap] = some x) (hw : ∀ q ∈ x.1.weights P t, q ≤ reachBytes) :
    ∃ l : List α, l.length = len ∧ R.N w Any (.slice a len cap) l ∧ len * P.bytesOf e ≤ 140737488355328 := by
  rcases Deep.open_slice ht h with ⟨hcs, hx⟩ | ⟨ad, len', cap', m, n, D, Pl, hcs, hb, hl, hm, hmm, rfl, hx⟩
  · simp at hcs
    obtain ⟨rfl, rfl, rfl⟩ := hcs
    exact ⟨[], rfl, Rec.N.nil _ _, by simp⟩
  · simp at hcs
    obtain ⟨rfl, rfl, rfl⟩ := hcs
    have hlm : len ≤ m := by rw [hmm]; split <;> omega
    have hbb : len * P.bytesOf e ≤ 140737488355328 := by
      have h1 := hw _ (by simp only [DataW.weights, ht]; exact List.mem_cons_self)
      simp only [reachBytes, List.length_map, List.length_range] at h1
      exact Nat.le_trans (Nat.le_trans (Nat.mul_le_mul_right _ (Nat.le_add_right _ _)) h1) (by decide)
    have each : ∀ i, i < len → ∃ r : α, ∀ j u, (R.vals r)[j]? = some u → w.cell? (ad.add (i * R.size + j)) = some u := fun i hi => by
      obtain ⟨cs', h1, h2⟩ := hx i (by omega)
      obtain ⟨r, hr⟩ := hone _ _ _ h2 (fun q hq => hw q (by
        simp only [DataW.weights, ht]
        exact List.mem_cons_of_mem _ (List.mem_append_left _ (weights_in (List.mem_map.2 ⟨i, List.mem_range.2 hi, rfl⟩) hq))))
      rw [ce] at h1
      obtain ⟨_, hlen, hcell⟩ := World.cells?_some h1
      refine ⟨r, fun j u hu => ?_⟩
      have hj : j < R.size := by have := (List.getElem?_eq_some_iff.1 hu).1; rw [R.len] at this; exact this
      have := hcell j hj
      rw [Deep.add_add, hr, hu] at this
      exact this
    rcases Nat.eq_zero_or_pos len with h0 | h0
    · subst h0
      refine ⟨[], rfl, ?_⟩
      exact ⟨⟨_, cap, rfl, by simp [Rec.row], hl, hm, (fun h => by cases h), fun h => absurd h (by simp)⟩, hbb⟩
    · obtain ⟨r0, hr0⟩ := each 0 h0
      haveI : Inhabited α := ⟨r0⟩
      obtain ⟨y, hy⟩ := Deep.choose_lt each
      have hlen : ((List.range len).map y).length = len := by simp
      refine ⟨(List.range len).map y, hlen, ?_, hbb⟩
      unfold Rec.N
      rw [hlen]
      refine ⟨_, cap, rfl, by rw [R.row_length, hlen], hl, hm, (fun h => by cases h), fun _ => ?_⟩
      obtain ⟨b, o, sp⟩ := ad
      obtain ⟨u0, hu0⟩ : ∃ u, (R.vals (y 0))[0]? = some u := ⟨_, List.getElem?_eq_getElem (by rw [R.len]; exact hsz)⟩
      have hc0 := hy 0 h0 0 _ hu0
      have hsp : sp = none := by simpa [Addr.add] using World.cell?_spot hc0
      subst hsp
      have hbl := World.block_lt_of_cell? w _ hc0
      rw [plus_zero] at hbl
      refine ⟨b, o, rfl, trivial, hbl, fun j u hu => ?_⟩
      have hj : j < len * R.size := by
        have := (List.getElem?_eq_some_iff.1 hu).1
        rw [R.row_length, hlen] at this
        exact this
      have hi : j / R.size < len := Nat.div_lt_of_lt_mul (by rw [Nat.mul_comm]; exact hj)
      have hgi : ((List.range len).map y)[j / R.size]? = some (y (j / R.size)) := by rw [List.getElem?_map, List.getElem?_range hi]; rfl
      have hmod : j % R.size < R.size := Nat.mod_lt _ hsz
      obtain ⟨u', hu'⟩ : ∃ u', (R.vals (y (j / R.size)))[j % R.size]? = some u' := ⟨_, List.getElem?_eq_getElem (by rw [R.len]; exact hmod)⟩
      have h1 := R.row_get hgi hu'
      have e : j / R.size * R.size + j % R.size = j := by rw [Nat.mul_comm]; exact Nat.div_add_mod j R.size
      rw [e, hu] at h1
      have h2 := hy _ hi _ _ hu'
      rw [e, plus_zero] at h2
      rw [h2, ← Option.some.inj h1]
end
theorem field_in {fs : Array Field} {ts : List (Nat × TypeId)} (hts : fs.toList.map (fun f => (f.offset, f.type)) = ts) {j o : Nat} {t : TypeId} (h : ts[j]? = some (o, t)) : ∃ f, fs[j]? = some f ∧ f.offset = o ∧ f.type = t := by
  have h1 := h
  rw [← hts, List.getElem?_map] at h1
  cases hf : fs.toList[j]? with
  | none => rw [hf] at h1; cases h1
  | some f =>
    rw [hf] at h1
    have h2 := Option.some.inj h1
    injection h2 with h2 h3
    exact ⟨f, by rw [← Array.getElem?_toList]; exact hf, h2, h3⟩
theorem c_str : Try.prog.cellsOf 9 = 1 := by kernel_rfl
theorem c_int : Try.prog.cellsOf 3 = 1 := by kernel_rfl
theorem c_u8 : Try.prog.cellsOf 5 = 1 := by kernel_rfl
theorem c_bool : Try.prog.cellsOf 4 = 1 := by kernel_rfl
theorem c_errno : Try.prog.cellsOf 24 = 1 := by kernel_rfl
theorem c_op : Try.prog.cellsOf 28 = 5 := by kernel_rfl
theorem c_res : Try.prog.cellsOf 30 = 3 := by kernel_rfl
theorem c_cmd : Try.prog.cellsOf 36 = 4 := by kernel_rfl
theorem c_pair : Try.prog.cellsOf 67 = 2 := by kernel_rfl
theorem c_last : Try.prog.cellsOf 88 = 5 := by kernel_rfl
theorem c_entry : Try.prog.cellsOf 79 = 4 := by kernel_rfl
theorem c_msg : Try.prog.cellsOf 38 = 33 := by kernel_rfl
theorem c_ses : Try.prog.cellsOf 31 = 1 := by kernel_rfl
theorem c_sis : Try.prog.cellsOf 32 = 1 := by kernel_rfl
theorem c_sps : Try.prog.cellsOf 33 = 1 := by kernel_rfl
theorem c_sxs : Try.prog.cellsOf 34 = 1 := by kernel_rfl
theorem b_int : Try.prog.bytesOf 3 = 8 := by kernel_rfl
theorem b_pair : Try.prog.bytesOf 67 = 32 := by kernel_rfl
theorem b_last : Try.prog.bytesOf 88 = 40 := by kernel_rfl
theorem b_entry : Try.prog.bytesOf 79 = 56 := by kernel_rfl
theorem res_struct : ∃ fs : Array Field, Try.prog.underlying 30 = some (.struct fs) ∧ fs.toList.map (fun f => (f.offset, f.type)) = [(0, 5), (1, 4), (2, 9)] := ⟨_, Try.underlying30, rfl⟩
theorem op_struct : ∃ fs : Array Field, Try.prog.underlying 28 = some (.struct fs) ∧ fs.toList.map (fun f => (f.offset, f.type)) = [(0, 5), (1, 9), (2, 9), (3, 9), (4, 4)] := ⟨_, Try.underlying28, rfl⟩
theorem cmd_struct : ∃ fs : Array Field, Try.prog.underlying 36 = some (.struct fs) ∧ fs.toList.map (fun f => (f.offset, f.type)) = [(0, 5), (1, 3), (2, 3), (3, 3)] := ⟨_, Try.underlying36, rfl⟩
theorem pair_struct : ∃ fs : Array Field, Try.prog.underlying 67 = some (.struct fs) ∧ fs.toList.map (fun f => (f.offset, f.type)) = [(0, 9), (1, 9)] := ⟨_, Try.underlying67, rfl⟩
theorem last_struct : ∃ fs : Array Field, Try.prog.underlying 88 = some (.struct fs) ∧ fs.toList.map (fun f => (f.offset, f.type)) = [(0, 3), (1, 3), (2, 30)] := ⟨_, Try.underlying88, rfl⟩
theorem entry_struct : ∃ fs : Array Field, Try.prog.underlying 79 = some (.struct fs) ∧ fs.toList.map (fun f => (f.offset, f.type)) = [(0, 3), (1, 5), (2, 9), (3, 32)] := ⟨_, Try.underlying79, rfl⟩
theorem msg_struct : ∃ fs : Array Field, Try.prog.underlying 38 = some (.struct fs) ∧ fs.toList.map (fun f => (f.offset, f.type)) = [(0, 5), (1, 3), (2, 3), (3, 3), (4, 3), (5, 3), (6, 3), (7, 28), (12, 24), (13, 30), (16, 3), (17, 3), (18, 3), (19, 3), (20, 3), (21, 4), (22, 31), (23, 32), (24, 9), (25, 3), (26, 4), (27, 33), (28, 34), (29, 36)] := ⟨_, Try.underlying38, rfl⟩
def resV (r : PR) : List Value := [.int .u8 r.kind, .bool r.found, .string r.val]
def opV (r : PO) : List Value := [.int .u8 r.kind, .string r.key, .string r.val, .string r.old, .bool r.had]
def cmdV (r : CM) : List Value := [.int .u8 r.kind, .int .i64 r.shard, .int .i64 r.store, .int .i64 r.epoch]
/-- an entry and its list -/
def EntJ (w : World) (x : RE × List Int) : Prop := inR.N w Any (.slice x.1.la x.1.ln x.1.lc) x.2 ∧ x.1.ln = x.2.length ∧ x.2.length ≤ 17592186044416
def entJ (w : World) : Rec {x : RE × List Int // EntJ w x} where
  vals x := entR.vals x.1.1
  size := 4
  len _ := rfl
  one x := entR.one x.1.1
section
variable {H : Type} {enc : TypeId × Value → H} {w : World} {base : Nat} {spare : Nat → Bool} {held : Bool} {n : Nat} {cs : List Value} {y : DataW H × List MemPlace}
theorem slice_form {fuel : Nat} {t e : TypeId} {v : Value} {x : DataW H × List MemPlace} (ht : Try.prog.underlying t = some (.slice e)) (hf : DataW.trod enc Try.prog w base spare held fuel t [v] = some x) : ∃ a len cap, v = .slice a len cap := by
  rcases Deep.open_slice ht hf with ⟨hcs, _⟩ | ⟨a, len, cap, _, _, _, _, hcs, _⟩
  · simp at hcs
    exact ⟨_, _, _, hcs⟩
  · simp at hcs
    exact ⟨_, _, _, hcs⟩
theorem one_int (h : DataW.trod enc Try.prog w base spare held n 3 cs = some y) : ∃ r : Int, cs = inR.vals r := by
  obtain ⟨s, e, -, _⟩ := DataW.trod_int Try.underlying3 h
  exact ⟨s, e⟩
set_option maxRecDepth 100000 in
theorem one_res (h : DataW.trod enc Try.prog w base spare held n 30 cs = some y) : ∃ r : PR, cs = resV r := by
  obtain ⟨fs, hfs, hts⟩ := res_struct
  have hfl : fs.toList.map (·.type) = [5, 4, 9] := by
    have := congrArg (List.map Prod.snd) hts
    rw [List.map_map] at this
    exact this
  obtain ⟨xs, k, -, hy, hlen, hxl, hff⟩ := DataW.trod_struct hfs h
  have hsz : fs.size = 3 := by have := congrArg List.length hts; simpa using this
  have hl : cs.length = 3 := by rw [hlen]; exact c_res
  obtain ⟨f0, g0, o0, t0⟩ := field_in hts (j := 0) rfl
  obtain ⟨f1, g1, o1, t1⟩ := field_in hts (j := 1) rfl
  obtain ⟨f2, g2, o2, t2⟩ := field_in hts (j := 2) rfl
  match cs, hl with
  | a0 :: a1 :: a2 :: [], _ =>
    have h0 := hff 0 f0 g0
    rw [o0, t0, c_u8, List.getElem?_eq_getElem (show 0 < xs.length by omega)] at h0
    have h1 := hff 1 f1 g1
    rw [o1, t1, c_bool, List.getElem?_eq_getElem (show 1 < xs.length by omega)] at h1
    have h2 := hff 2 f2 g2
    rw [o2, t2, c_str, List.getElem?_eq_getElem (show 2 < xs.length by omega)] at h2
    obtain ⟨s0, e0, -, w0⟩ := DataW.trod_int Try.underlying5 h0
    simp at e0
    subst e0
    obtain ⟨s1, e1, -⟩ := DataW.trod_bool Try.underlying4 h1
    simp at e1
    subst e1
    obtain ⟨s2, e2, -, -⟩ := DataW.trod_string Try.underlying9 h2
    simp at e2
    subst e2
    exact ⟨⟨s0, s1, s2⟩, rfl⟩
set_option maxRecDepth 100000 in
theorem one_op (h : DataW.trod enc Try.prog w base spare held n 28 cs = some y) : ∃ r : PO, cs = opV r := by
  obtain ⟨fs, hfs, hts⟩ := op_struct
  have hfl : fs.toList.map (·.type) = [5, 9, 9, 9, 4] := by
    have := congrArg (List.map Prod.snd) hts
    rw [List.map_map] at this
    exact this
  obtain ⟨xs, k, -, hy, hlen, hxl, hff⟩ := DataW.trod_struct hfs h
  have hsz : fs.size = 5 := by have := congrArg List.length hts; simpa using this
  have hl : cs.length = 5 := by rw [hlen]; exact c_op
  obtain ⟨f0, g0, o0, t0⟩ := field_in hts (j := 0) rfl
  obtain ⟨f1, g1, o1, t1⟩ := field_in hts (j := 1) rfl
  obtain ⟨f2, g2, o2, t2⟩ := field_in hts (j := 2) rfl
  obtain ⟨f3, g3, o3, t3⟩ := field_in hts (j := 3) rfl
  obtain ⟨f4, g4, o4, t4⟩ := field_in hts (j := 4) rfl
  match cs, hl with
  | a0 :: a1 :: a2 :: a3 :: a4 :: [], _ =>
    have h0 := hff 0 f0 g0
    rw [o0, t0, c_u8, List.getElem?_eq_getElem (show 0 < xs.length by omega)] at h0
    have h1 := hff 1 f1 g1
    rw [o1, t1, c_str, List.getElem?_eq_getElem (show 1 < xs.length by omega)] at h1
    have h2 := hff 2 f2 g2
    rw [o2, t2, c_str, List.getElem?_eq_getElem (show 2 < xs.length by omega)] at h2
    have h3 := hff 3 f3 g3
    rw [o3, t3, c_str, List.getElem?_eq_getElem (show 3 < xs.length by omega)] at h3
    have h4 := hff 4 f4 g4
    rw [o4, t4, c_bool, List.getElem?_eq_getElem (show 4 < xs.length by omega)] at h4
    obtain ⟨s0, e0, -, w0⟩ := DataW.trod_int Try.underlying5 h0
    simp at e0
    subst e0
    obtain ⟨s1, e1, -, -⟩ := DataW.trod_string Try.underlying9 h1
    simp at e1
    subst e1
    obtain ⟨s2, e2, -, -⟩ := DataW.trod_string Try.underlying9 h2
    simp at e2
    subst e2
    obtain ⟨s3, e3, -, -⟩ := DataW.trod_string Try.underlying9 h3
    simp at e3
    subst e3
    obtain ⟨s4, e4, -⟩ := DataW.trod_bool Try.underlying4 h4
    simp at e4
    subst e4
    exact ⟨⟨s0, s1, s2, s3, s4⟩, rfl⟩
set_option maxRecDepth 100000 in
theorem one_cmd (h : DataW.trod enc Try.prog w base spare held n 36 cs = some y) : ∃ r : CM, cs = cmdV r := by
  obtain ⟨fs, hfs, hts⟩ := cmd_struct
  have hfl : fs.toList.map (·.type) = [5, 3, 3, 3] := by
    have := congrArg (List.map Prod.snd) hts
    rw [List.map_map] at this
    exact this
  obtain ⟨xs, k, -, hy, hlen, hxl, hff⟩ := DataW.trod_struct hfs h
  have hsz : fs.size = 4 := by have := congrArg List.length hts; simpa using this
  have hl : cs.length = 4 := by rw [hlen]; exact c_cmd
  obtain ⟨f0, g0, o0, t0⟩ := field_in hts (j := 0) rfl
  obtain ⟨f1, g1, o1, t1⟩ := field_in hts (j := 1) rfl
  obtain ⟨f2, g2, o2, t2⟩ := field_in hts (j := 2) rfl
  obtain ⟨f3, g3, o3, t3⟩ := field_in hts (j := 3) rfl
  match cs, hl with
  | a0 :: a1 :: a2 :: a3 :: [], _ =>
    have h0 := hff 0 f0 g0
    rw [o0, t0, c_u8, List.getElem?_eq_getElem (show 0 < xs.length by omega)] at h0
    have h1 := hff 1 f1 g1
    rw [o1, t1, c_int, List.getElem?_eq_getElem (show 1 < xs.length by omega)] at h1
    have h2 := hff 2 f2 g2
    rw [o2, t2, c_int, List.getElem?_eq_getElem (show 2 < xs.length by omega)] at h2
    have h3 := hff 3 f3 g3
    rw [o3, t3, c_int, List.getElem?_eq_getElem (show 3 < xs.length by omega)] at h3
    obtain ⟨s0, e0, -, w0⟩ := DataW.trod_int Try.underlying5 h0
    simp at e0
    subst e0
    obtain ⟨s1, e1, -, w1⟩ := DataW.trod_int Try.underlying3 h1
    simp at e1
    subst e1
    obtain ⟨s2, e2, -, w2⟩ := DataW.trod_int Try.underlying3 h2
    simp at e2
    subst e2
    obtain ⟨s3, e3, -, w3⟩ := DataW.trod_int Try.underlying3 h3
    simp at e3
    subst e3
    exact ⟨⟨s0, s1, s2, s3⟩, rfl⟩
set_option maxRecDepth 100000 in
theorem one_pair (h : DataW.trod enc Try.prog w base spare held n 67 cs = some y) : ∃ r : PP, cs = pairR.vals r := by
  obtain ⟨fs, hfs, hts⟩ := pair_struct
  have hfl : fs.toList.map (·.type) = [9, 9] := by
    have := congrArg (List.map Prod.snd) hts
    rw [List.map_map] at this
    exact this
  obtain ⟨xs, k, -, hy, hlen, hxl, hff⟩ := DataW.trod_struct hfs h
  have hsz : fs.size = 2 := by have := congrArg List.length hts; simpa using this
  have hl : cs.length = 2 := by rw [hlen]; exact c_pair
  obtain ⟨f0, g0, o0, t0⟩ := field_in hts (j := 0) rfl
  obtain ⟨f1, g1, o1, t1⟩ := field_in hts (j := 1) rfl
  match cs, hl with
  | a0 :: a1 :: [], _ =>
    have h0 := hff 0 f0 g0
    rw [o0, t0, c_str, List.getElem?_eq_getElem (show 0 < xs.length by omega)] at h0
    have h1 := hff 1 f1 g1
    rw [o1, t1, c_str, List.getElem?_eq_getElem (show 1 < xs.length by omega)] at h1
    obtain ⟨s0, e0, -, -⟩ := DataW.trod_string Try.underlying9 h0
    simp at e0
    subst e0
    obtain ⟨s1, e1, -, -⟩ := DataW.trod_string Try.underlying9 h1
    simp at e1
    subst e1
    exact ⟨⟨s0, s1⟩, rfl⟩
set_option maxRecDepth 100000 in
theorem one_last (h : DataW.trod enc Try.prog w base spare held n 88 cs = some y) : ∃ r : PL, cs = lastR.vals r := by
  obtain ⟨fs, hfs, hts⟩ := last_struct
  have hfl : fs.toList.map (·.type) = [3, 3, 30] := by
    have := congrArg (List.map Prod.snd) hts
    rw [List.map_map] at this
    exact this
  obtain ⟨xs, k, -, hy, hlen, hxl, hff⟩ := DataW.trod_struct hfs h
  have hsz : fs.size = 3 := by have := congrArg List.length hts; simpa using this
  have hl : cs.length = 5 := by rw [hlen]; exact c_last
  obtain ⟨f0, g0, o0, t0⟩ := field_in hts (j := 0) rfl
  obtain ⟨f1, g1, o1, t1⟩ := field_in hts (j := 1) rfl
  obtain ⟨f2, g2, o2, t2⟩ := field_in hts (j := 2) rfl
  match cs, hl with
  | a0 :: a1 :: a2 :: a3 :: a4 :: [], _ =>
    have h0 := hff 0 f0 g0
    rw [o0, t0, c_int, List.getElem?_eq_getElem (show 0 < xs.length by omega)] at h0
    have h1 := hff 1 f1 g1
    rw [o1, t1, c_int, List.getElem?_eq_getElem (show 1 < xs.length by omega)] at h1
    have h2 := hff 2 f2 g2
    rw [o2, t2, c_res, List.getElem?_eq_getElem (show 2 < xs.length by omega)] at h2
    obtain ⟨s0, e0, -, w0⟩ := DataW.trod_int Try.underlying3 h0
    simp at e0
    subst e0
    obtain ⟨s1, e1, -, w1⟩ := DataW.trod_int Try.underlying3 h1
    simp at e1
    subst e1
    obtain ⟨s2, e2⟩ := one_res h2
    simp [resV] at e2
    obtain ⟨e2_0, e2_1, e2_2⟩ := e2
    subst e2_0 e2_1 e2_2
    exact ⟨⟨s0, s1, s2⟩, rfl⟩
set_option maxRecDepth 100000 in
theorem one_entry (h : DataW.trod enc Try.prog w base spare held n 79 cs = some y) (hw : ∀ q ∈ y.1.weights Try.prog 79, q ≤ reachBytes) : ∃ r : {x : RE × List Int // EntJ w x}, cs = (entJ w).vals r := by
  obtain ⟨fs, hfs, hts⟩ := entry_struct
  have hfl : fs.toList.map (·.type) = [3, 5, 9, 32] := by
    have := congrArg (List.map Prod.snd) hts
    rw [List.map_map] at this
    exact this
  obtain ⟨xs, k, -, hy, hlen, hxl, hff⟩ := DataW.trod_struct hfs h
  have hsz : fs.size = 4 := by have := congrArg List.length hts; simpa using this
  have hl : cs.length = 4 := by rw [hlen]; exact c_entry
  obtain ⟨f0, g0, o0, t0⟩ := field_in hts (j := 0) rfl
  obtain ⟨f1, g1, o1, t1⟩ := field_in hts (j := 1) rfl
  obtain ⟨f2, g2, o2, t2⟩ := field_in hts (j := 2) rfl
  obtain ⟨f3, g3, o3, t3⟩ := field_in hts (j := 3) rfl
  match cs, hl with
  | a0 :: a1 :: a2 :: a3 :: [], _ =>
    have h0 := hff 0 f0 g0
    rw [o0, t0, c_int, List.getElem?_eq_getElem (show 0 < xs.length by omega)] at h0
    have h1 := hff 1 f1 g1
    rw [o1, t1, c_u8, List.getElem?_eq_getElem (show 1 < xs.length by omega)] at h1
    have h2 := hff 2 f2 g2
    rw [o2, t2, c_str, List.getElem?_eq_getElem (show 2 < xs.length by omega)] at h2
    have h3 := hff 3 f3 g3
    rw [o3, t3, c_sis, List.getElem?_eq_getElem (show 3 < xs.length by omega)] at h3
    obtain ⟨s0, e0, -, w0⟩ := DataW.trod_int Try.underlying3 h0
    simp at e0
    subst e0
    obtain ⟨s1, e1, -, w1⟩ := DataW.trod_int Try.underlying5 h1
    simp at e1
    subst e1
    obtain ⟨s2, e2, -, -⟩ := DataW.trod_string Try.underlying9 h2
    simp at e2
    subst e2
    have h3' : DataW.trod enc Try.prog w base spare held _ 32 [a3] = some _ := h3
    obtain ⟨q3, l3, k3, e3⟩ := slice_form Try.underlying32 h3'
    subst e3
    have hin : ∀ (j : Nat) (t : TypeId) (z : DataW H), [3, 5, 9, 32][j]? = some t → (xs.map (·.1))[j]? = some z → ∀ q ∈ z.weights Try.prog t, q ≤ reachBytes := fun j t z h1 h2 q hq => hw q (by
      rw [hy]
      simp only [DataW.weights, hfs, hfl]
      exact DataW.weights_mem_each h1 h2 _ hq)
    obtain ⟨L, hL, hN, hb⟩ := open_recW (R := inR) Try.underlying32 c_int (by decide) (fun _ _ _ h _ => one_int h) h3' (hin 3 _ _ rfl (by rw [List.getElem?_map, List.getElem?_eq_getElem (show 3 < xs.length by omega)]; rfl))
    rw [b_int] at hb
    exact ⟨⟨(⟨s0, s1, s2, q3, l3, k3⟩, L), hN, hL.symm, by dsimp only; omega⟩, rfl⟩
theorem ent_of {v : Value} {l : List {x : RE × List Int // EntJ w x}} (h : (entJ w).N w Any v l) : EntN w Any v (l.map fun x => ⟨x.1.1.term, x.1.1.kind, x.1.1.data, x.1.2⟩) := by
  have hrow : entR.row (l.map (·.1.1)) = (entJ w).row l := by
    unfold Rec.row
    rw [List.flatMap_map]
    rfl
  refine ⟨l.map (·.1.1), ?_, by simp, fun i r e hr he => ?_⟩
  · unfold Rec.N at h ⊢
    rw [hrow, List.length_map]
    exact h
  · rw [List.getElem?_map] at hr he
    cases hx : l[i]? with
    | none => rw [hx] at hr; cases hr
    | some x =>
      rw [hx] at hr he
      have hr := Option.some.inj hr
      have he := Option.some.inj he
      rw [← hr, ← he]
      exact ⟨rfl, rfl, rfl, x.2.2.1, x.2.1⟩
set_option maxRecDepth 100000 in
theorem one_msg (h : DataW.trod enc Try.prog w base spare held n 38 cs = some y) (hw : ∀ q ∈ y.1.weights Try.prog 38, q ≤ reachBytes) : ∃ (m : MG) (vE vL vP vX : Value), cs = (m.cells vE vL vP vX).toList ∧ MsgL w Any m vE vL vP vX ∧ MsgS m := by
  obtain ⟨fs, hfs, hts⟩ := msg_struct
  have hfl : fs.toList.map (·.type) = [5, 3, 3, 3, 3, 3, 3, 28, 24, 30, 3, 3, 3, 3, 3, 4, 31, 32, 9, 3, 4, 33, 34, 36] := by
    have := congrArg (List.map Prod.snd) hts
    rw [List.map_map] at this
    exact this
  obtain ⟨xs, k, -, hy, hlen, hxl, hff⟩ := DataW.trod_struct hfs h
  have hsz : fs.size = 24 := by have := congrArg List.length hts; simpa using this
  have hl : cs.length = 33 := by rw [hlen]; exact c_msg
  obtain ⟨f0, g0, o0, t0⟩ := field_in hts (j := 0) rfl
  obtain ⟨f1, g1, o1, t1⟩ := field_in hts (j := 1) rfl
  obtain ⟨f2, g2, o2, t2⟩ := field_in hts (j := 2) rfl
  obtain ⟨f3, g3, o3, t3⟩ := field_in hts (j := 3) rfl
  obtain ⟨f4, g4, o4, t4⟩ := field_in hts (j := 4) rfl
  obtain ⟨f5, g5, o5, t5⟩ := field_in hts (j := 5) rfl
  obtain ⟨f6, g6, o6, t6⟩ := field_in hts (j := 6) rfl
  obtain ⟨f7, g7, o7, t7⟩ := field_in hts (j := 7) rfl
  obtain ⟨f8, g8, o8, t8⟩ := field_in hts (j := 8) rfl
  obtain ⟨f9, g9, o9, t9⟩ := field_in hts (j := 9) rfl
  obtain ⟨f10, g10, o10, t10⟩ := field_in hts (j := 10) rfl
  obtain ⟨f11, g11, o11, t11⟩ := field_in hts (j := 11) rfl
  obtain ⟨f12, g12, o12, t12⟩ := field_in hts (j := 12) rfl
  obtain ⟨f13, g13, o13, t13⟩ := field_in hts (j := 13) rfl
  obtain ⟨f14, g14, o14, t14⟩ := field_in hts (j := 14) rfl
  obtain ⟨f15, g15, o15, t15⟩ := field_in hts (j := 15) rfl
  obtain ⟨f16, g16, o16, t16⟩ := field_in hts (j := 16) rfl
  obtain ⟨f17, g17, o17, t17⟩ := field_in hts (j := 17) rfl
  obtain ⟨f18, g18, o18, t18⟩ := field_in hts (j := 18) rfl
  obtain ⟨f19, g19, o19, t19⟩ := field_in hts (j := 19) rfl
  obtain ⟨f20, g20, o20, t20⟩ := field_in hts (j := 20) rfl
  obtain ⟨f21, g21, o21, t21⟩ := field_in hts (j := 21) rfl
  obtain ⟨f22, g22, o22, t22⟩ := field_in hts (j := 22) rfl
  obtain ⟨f23, g23, o23, t23⟩ := field_in hts (j := 23) rfl
  match cs, hl with
  | a0 :: a1 :: a2 :: a3 :: a4 :: a5 :: a6 :: a7 :: a8 :: a9 :: a10 :: a11 :: a12 :: a13 :: a14 :: a15 :: a16 :: a17 :: a18 :: a19 :: a20 :: a21 :: a22 :: a23 :: a24 :: a25 :: a26 :: a27 :: a28 :: a29 :: a30 :: a31 :: a32 :: [], _ =>
    have h0 := hff 0 f0 g0
    rw [o0, t0, c_u8, List.getElem?_eq_getElem (show 0 < xs.length by omega)] at h0
    have h1 := hff 1 f1 g1
    rw [o1, t1, c_int, List.getElem?_eq_getElem (show 1 < xs.length by omega)] at h1
    have h2 := hff 2 f2 g2
    rw [o2, t2, c_int, List.getElem?_eq_getElem (show 2 < xs.length by omega)] at h2
    have h3 := hff 3 f3 g3
    rw [o3, t3, c_int, List.getElem?_eq_getElem (show 3 < xs.length by omega)] at h3
    have h4 := hff 4 f4 g4
    rw [o4, t4, c_int, List.getElem?_eq_getElem (show 4 < xs.length by omega)] at h4
    have h5 := hff 5 f5 g5
    rw [o5, t5, c_int, List.getElem?_eq_getElem (show 5 < xs.length by omega)] at h5
    have h6 := hff 6 f6 g6
    rw [o6, t6, c_int, List.getElem?_eq_getElem (show 6 < xs.length by omega)] at h6
    have h7 := hff 7 f7 g7
    rw [o7, t7, c_op, List.getElem?_eq_getElem (show 7 < xs.length by omega)] at h7
    have h8 := hff 8 f8 g8
    rw [o8, t8, c_errno, List.getElem?_eq_getElem (show 8 < xs.length by omega)] at h8
    have h9 := hff 9 f9 g9
    rw [o9, t9, c_res, List.getElem?_eq_getElem (show 9 < xs.length by omega)] at h9
    have h10 := hff 10 f10 g10
    rw [o10, t10, c_int, List.getElem?_eq_getElem (show 10 < xs.length by omega)] at h10
    have h11 := hff 11 f11 g11
    rw [o11, t11, c_int, List.getElem?_eq_getElem (show 11 < xs.length by omega)] at h11
    have h12 := hff 12 f12 g12
    rw [o12, t12, c_int, List.getElem?_eq_getElem (show 12 < xs.length by omega)] at h12
    have h13 := hff 13 f13 g13
    rw [o13, t13, c_int, List.getElem?_eq_getElem (show 13 < xs.length by omega)] at h13
    have h14 := hff 14 f14 g14
    rw [o14, t14, c_int, List.getElem?_eq_getElem (show 14 < xs.length by omega)] at h14
    have h15 := hff 15 f15 g15
    rw [o15, t15, c_bool, List.getElem?_eq_getElem (show 15 < xs.length by omega)] at h15
    have h16 := hff 16 f16 g16
    rw [o16, t16, c_ses, List.getElem?_eq_getElem (show 16 < xs.length by omega)] at h16
    have h17 := hff 17 f17 g17
    rw [o17, t17, c_sis, List.getElem?_eq_getElem (show 17 < xs.length by omega)] at h17
    have h18 := hff 18 f18 g18
    rw [o18, t18, c_str, List.getElem?_eq_getElem (show 18 < xs.length by omega)] at h18
    have h19 := hff 19 f19 g19
    rw [o19, t19, c_int, List.getElem?_eq_getElem (show 19 < xs.length by omega)] at h19
    have h20 := hff 20 f20 g20
    rw [o20, t20, c_bool, List.getElem?_eq_getElem (show 20 < xs.length by omega)] at h20
    have h21 := hff 21 f21 g21
    rw [o21, t21, c_sps, List.getElem?_eq_getElem (show 21 < xs.length by omega)] at h21
    have h22 := hff 22 f22 g22
    rw [o22, t22, c_sxs, List.getElem?_eq_getElem (show 22 < xs.length by omega)] at h22
    have h23 := hff 23 f23 g23
    rw [o23, t23, c_cmd, List.getElem?_eq_getElem (show 23 < xs.length by omega)] at h23
    obtain ⟨s0, e0, -, w0⟩ := DataW.trod_int Try.underlying5 h0
    simp at e0
    subst e0
    obtain ⟨s1, e1, -, w1⟩ := DataW.trod_int Try.underlying3 h1
    simp at e1
    subst e1
    obtain ⟨s2, e2, -, w2⟩ := DataW.trod_int Try.underlying3 h2
    simp at e2
    subst e2
    obtain ⟨s3, e3, -, w3⟩ := DataW.trod_int Try.underlying3 h3
    simp at e3
    subst e3
    obtain ⟨s4, e4, -, w4⟩ := DataW.trod_int Try.underlying3 h4
    simp at e4
    subst e4
    obtain ⟨s5, e5, -, w5⟩ := DataW.trod_int Try.underlying3 h5
    simp at e5
    subst e5
    obtain ⟨s6, e6, -, w6⟩ := DataW.trod_int Try.underlying3 h6
    simp at e6
    subst e6
    obtain ⟨s7, e7⟩ := one_op h7
    simp [opV] at e7
    obtain ⟨e7_0, e7_1, e7_2, e7_3, e7_4⟩ := e7
    subst e7_0 e7_1 e7_2 e7_3 e7_4
    obtain ⟨s8, e8, -, w8⟩ := DataW.trod_int Try.underlying24 h8
    simp at e8
    subst e8
    obtain ⟨s9, e9⟩ := one_res h9
    simp [resV] at e9
    obtain ⟨e9_0, e9_1, e9_2⟩ := e9
    subst e9_0 e9_1 e9_2
    obtain ⟨s10, e10, -, w10⟩ := DataW.trod_int Try.underlying3 h10
    simp at e10
    subst e10
    obtain ⟨s11, e11, -, w11⟩ := DataW.trod_int Try.underlying3 h11
    simp at e11
    subst e11
    obtain ⟨s12, e12, -, w12⟩ := DataW.trod_int Try.underlying3 h12
    simp at e12
    subst e12
    obtain ⟨s13, e13, -, w13⟩ := DataW.trod_int Try.underlying3 h13
    simp at e13
    subst e13
    obtain ⟨s14, e14, -, w14⟩ := DataW.trod_int Try.underlying3 h14
    simp at e14
    subst e14
    obtain ⟨s15, e15, -⟩ := DataW.trod_bool Try.underlying4 h15
    simp at e15
    subst e15
    have h16' : DataW.trod enc Try.prog w base spare held _ 31 [a22] = some _ := h16
    obtain ⟨q16, l16, k16, e16⟩ := slice_form Try.underlying31 h16'
    subst e16
    have h17' : DataW.trod enc Try.prog w base spare held _ 32 [a23] = some _ := h17
    obtain ⟨q17, l17, k17, e17⟩ := slice_form Try.underlying32 h17'
    subst e17
    obtain ⟨s18, e18, -, -⟩ := DataW.trod_string Try.underlying9 h18
    simp at e18
    subst e18
    obtain ⟨s19, e19, -, w19⟩ := DataW.trod_int Try.underlying3 h19
    simp at e19
    subst e19
    obtain ⟨s20, e20, -⟩ := DataW.trod_bool Try.underlying4 h20
    simp at e20
    subst e20
    have h21' : DataW.trod enc Try.prog w base spare held _ 33 [a27] = some _ := h21
    obtain ⟨q21, l21, k21, e21⟩ := slice_form Try.underlying33 h21'
    subst e21
    have h22' : DataW.trod enc Try.prog w base spare held _ 34 [a28] = some _ := h22
    obtain ⟨q22, l22, k22, e22⟩ := slice_form Try.underlying34 h22'
    subst e22
    obtain ⟨s23, e23⟩ := one_cmd h23
    simp [cmdV] at e23
    obtain ⟨e23_0, e23_1, e23_2, e23_3⟩ := e23
    subst e23_0 e23_1 e23_2 e23_3
    have hin : ∀ (j : Nat) (t : TypeId) (z : DataW H), [5, 3, 3, 3, 3, 3, 3, 28, 24, 30, 3, 3, 3, 3, 3, 4, 31, 32, 9, 3, 4, 33, 34, 36][j]? = some t → (xs.map (·.1))[j]? = some z → ∀ q ∈ z.weights Try.prog t, q ≤ reachBytes := fun j t z h1 h2 q hq => hw q (by
      rw [hy]
      simp only [DataW.weights, hfs, hfl]
      exact DataW.weights_mem_each h1 h2 _ hq)
    obtain ⟨LE, hE1, hE2, hE3⟩ := open_recW (R := entJ w) Try.underlying31 c_entry (show 0 < 4 by decide) (fun _ _ _ h hw => one_entry h hw) h16' (hin 16 _ _ rfl (by rw [List.getElem?_map, List.getElem?_eq_getElem (show 16 < xs.length by omega)]; rfl))
    obtain ⟨LL, hL1, hL2, hL3⟩ := open_recW (R := inR) Try.underlying32 c_int (by decide) (fun _ _ _ h _ => one_int h) h17' (hin 17 _ _ rfl (by rw [List.getElem?_map, List.getElem?_eq_getElem (show 17 < xs.length by omega)]; rfl))
    obtain ⟨LP, hP1, hP2, hP3⟩ := open_recW (R := pairR) Try.underlying33 c_pair (by decide) (fun _ _ _ h _ => one_pair h) h21' (hin 21 _ _ rfl (by rw [List.getElem?_map, List.getElem?_eq_getElem (show 21 < xs.length by omega)]; rfl))
    obtain ⟨LX, hX1, hX2, hX3⟩ := open_recW (R := lastR) Try.underlying34 c_last (by decide) (fun _ _ _ h _ => one_last h) h22' (hin 22 _ _ rfl (by rw [List.getElem?_map, List.getElem?_eq_getElem (show 22 < xs.length by omega)]; rfl))
    rw [b_entry] at hE3
    rw [b_int] at hL3
    rw [b_pair] at hP3
    rw [b_last] at hX3
    refine ⟨⟨s0, s1, s2, s3, s4, s5, s6, s7, s8, s9, s10, s11, s12, s13, s14, s15, LE.map fun x => ⟨x.1.1.term, x.1.1.kind, x.1.1.data, x.1.2⟩, LL, s18, s19, s20, LP, LX, s23⟩, _, _, _, _, rfl, ⟨ent_of hE2, hL2, hP2, hX2⟩, ⟨?_, ?_, ?_, ?_, ?_⟩⟩
    · dsimp only; rw [List.length_map]; omega
    · intro e he
      obtain ⟨x, hx, rfl⟩ := List.mem_map.1 he
      exact x.2.2.2
    · dsimp only; omega
    · dsimp only; omega
    · dsimp only; omega
end
end Go.Proofs.Ytblbcoknefgcaaa
