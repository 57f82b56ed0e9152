/-
  RMem: What lies in memory, by sets of blocks: bytes, pieces, lists of bytes. No statement is proved here. No condition.
  RPieceIn: The program's ring: the piece that a sector's bytes are. No statement is proved here. No condition.
-/
import Derived.Test.YtlokehekkllbeaaRB
import Derived.ChangeKeysEq
import Derived.Laws.ResultCell
import Derived.Deep.RegionHeld3
import Derived.BigQuiet
namespace Go.Proofs.Ytlokehekkllbeaa
open Go.RowKit

/-- The slice reads as the bytes l, all of them in blocks of N. -/
def RdN (w : World) (N : Nat → Prop) (v : Value) (l : List UInt8) : Prop :=
  ∃ A c, v = .slice A l.length c ∧ l.length ≤ c ∧ c ≤ maxLen ∧ (A = none → c = 0) ∧
    (l ≠ [] → ∃ b o, A = some ⟨b, o, none⟩ ∧ N b ∧ b < w.heap.size ∧ ∀ i x, l[i]? = some x → w.cell? ⟨b, o + i, none⟩ = some (.int .u8 (x.toNat : Int)))
theorem RdN.rd {w : World} {N : Nat → Prop} {v : Value} {l : List UInt8} (h : RdN w N v l) : Rd w w.heap.size v l := by
  obtain ⟨A, c, rfl, h1, h2, h3, h4⟩ := h
  exact ⟨A, c, rfl, h1, h2, h3, fun hn => by obtain ⟨b, o, rfl, _, hb, hc⟩ := h4 hn; exact ⟨b, o, rfl, hb, hc⟩⟩
theorem RdN.kept {w w' : World} {N N' : Nat → Prop} {v : Value} {l : List UInt8} (h : RdN w N v l) (hN : ∀ b, N b → b < w.heap.size → N' b) (hs : w.heap.size ≤ w'.heap.size) (hk : ∀ b, N b → b < w.heap.size → w'.heap[b]? = w.heap[b]?) : RdN w' N' v l := by
  obtain ⟨A, c, rfl, h1, h2, h3, h4⟩ := h
  refine ⟨A, c, rfl, h1, h2, h3, fun hn => ?_⟩
  obtain ⟨b, o, rfl, hb, hs', hc⟩ := h4 hn
  exact ⟨b, o, rfl, hN b hb hs', by omega, fun i x hx => (World.cell?_of_block (a := ⟨b, o + i, none⟩) (hk b hb hs')).trans (hc i x hx)⟩
theorem RdN.mono {w : World} {N N' : Nat → Prop} {v : Value} {l : List UInt8} (h : RdN w N v l) (hN : ∀ b, N b → b < w.heap.size → N' b) : RdN w N' v l := h.kept hN (Nat.le_refl _) fun _ _ _ => rfl
theorem RdN.grow {w w' : World} {N : Nat → Prop} {v : Value} {l : List UInt8} (h : RdN w N v l) (hb : Below w.heap.size w w') : RdN w' N v l := h.kept (fun _ h _ => h) hb.size fun b _ hs => hb.block b hs
theorem Rd.toN {w : World} {B : Nat} {v : Value} {l : List UInt8} (h : Rd w B v l) (hB : B ≤ w.heap.size) : RdN w (fun b => b < B) v l := by
  obtain ⟨A, c, rfl, h1, h2, h3, h4⟩ := h
  exact ⟨A, c, rfl, h1, h2, h3, fun hn => by obtain ⟨b, o, rfl, hb, hc⟩ := h4 hn; exact ⟨b, o, rfl, hb, by omega, hc⟩⟩
theorem RdN.own {w : World} {base : Nat} {e : TypeId} {v : Value} {n : Nat} {l : List UInt8} {N : Nat → Prop} (h : w.ownsRow base e 1 v n (BS l)) (hN : ∀ b, v.ownBlock = some b → N b) : RdN w N v l := by
  have hn : n = l.length := own_count h
  subst hn
  rcases h.2 with ⟨rfl, h0⟩ | ⟨g, cap, cur, rfl, _, hg, hnc, hcm, _, _⟩
  · have : l = [] := List.eq_nil_of_length_eq_zero h0
    subst this
    exact ⟨none, 0, rfl, Nat.le_refl _, by unfold maxLen; omega, fun _ => rfl, fun h => absurd rfl h⟩
  · refine ⟨_, cap, rfl, hnc, hcm, (fun h => by cases h), fun hne => ⟨g, 0, rfl, hN g rfl, (Array.getElem?_eq_some_iff.1 hg).1, fun i x hx => ?_⟩⟩
    have hc := h.cells (g := g) rfl i (.int .u8 (x.toNat : Int)) (by unfold BS; rw [List.getElem?_map, hx]; rfl)
    rw [plus_zero] at hc
    exact hc
theorem RdN.nil (w : World) (N : Nat → Prop) : RdN w N (.slice none 0 0) [] := ⟨none, 0, rfl, Nat.le_refl _, by unfold maxLen; omega, fun _ => rfl, fun h => absurd rfl h⟩

/-- a piece, or none, as a value -/
def PcAt (w : World) (N : Nat → Prop) (o : Option Pc) (x : Value) : Prop := ∃ u, x = (match o with | none => pcv ⟨0, false, []⟩ u | some p => pcv p u) ∧ RdN w N u (match o with | none => [] | some p => p.data)
theorem PcAt.kept {w w' : World} {N N' : Nat → Prop} {o : Option Pc} {x : Value} (h : PcAt w N o x) (hN : ∀ b, N b → b < w.heap.size → N' b) (hs : w.heap.size ≤ w'.heap.size) (hk : ∀ b, N b → b < w.heap.size → w'.heap[b]? = w.heap[b]?) : PcAt w' N' o x := by
  obtain ⟨u, h1, h2⟩ := h
  exact ⟨u, h1, h2.kept hN hs hk⟩

theorem cells_u8 : Try.prog.cellsOf 5 = 1 := by kernel_rfl
theorem plain_u8 : Try.prog.plainKey 5 = true := by kernel_rfl
theorem sec_getD (l : List UInt8) {i : Nat} (hi : i < l.length) : (sec l)[i]? = some (.int .u8 ((l.getD i 0).toNat : Int)) := by
  unfold sec BS
  rw [List.getElem?_toArray, List.getElem?_map, List.getElem?_eq_getElem hi, List.getD_eq_getElem?_getD, List.getElem?_eq_getElem hi]
  rfl
theorem eq_items (l m : List UInt8) (d : Nat) (w : World) : ∀ is : List Nat, (∀ i ∈ is, i < l.length ∧ i < m.length) → (Op.eqItems (d + 1) 5 1 (sec l) (sec m) is).run Try.prog w = .ok (is.all fun i => l.getD i 0 == m.getD i 0) w := by
  intro is
  induction is with
  | nil => intro _; simp [Op.eqItems]
  | cons i is ih =>
    intro h
    have hi := h i (by simp)
    have p1 := run_part_plain (P := Try.prog) w plain_u8 (sec_getD l hi.1)
    have p2 := run_part_plain (P := Try.prog) w plain_u8 (sec_getD m hi.2)
    have p3 := run_equalIn_int (P := Try.prog) w d 5 .u8 .u8 ((l.getD i 0).toNat : Int) ((m.getD i 0).toNat : Int) Try.underlying5
    simp only [Op.eqItems, Sem.run_bind, Nat.mul_one, p1, p2, p3, Result.andThen_ok, List.all_cons]
    have e : (((l.getD i 0).toNat : Int) == ((m.getD i 0).toNat : Int)) = (l.getD i 0 == m.getD i 0) := by
      by_cases hh : l.getD i 0 = m.getD i 0
      · rw [hh]; simp
      · have : (l.getD i 0).toNat ≠ (m.getD i 0).toNat := fun e => hh (UInt8.toNat_inj.1 e)
        rw [show (l.getD i 0 == m.getD i 0) = false by simpa using hh]
        simp only [beq_eq_false_iff_ne, ne_eq]
        omega
    rw [e]
    cases l.getD i 0 == m.getD i 0
    · simp
    · simpa using ih fun j hj => h j (by simp [hj])
theorem all_range (l m : List UInt8) (hl : l.length = 512) (hm : m.length = 512) : ((List.range 512).all fun i => l.getD i 0 == m.getD i 0) = (l == m) := by
  by_cases h : l = m
  · subst h
    rw [beq_self_eq_true]
    exact List.all_eq_true.2 fun i _ => by simp
  · rw [show (l == m) = false by simpa using h]
    apply Bool.eq_false_iff.2
    intro hh
    apply h
    apply List.ext_getElem (by omega)
    intro i h1 h2
    have := eq_of_beq (List.all_eq_true.1 hh i (List.mem_range.2 (by omega)))
    rw [List.getD_eq_getElem?_getD, List.getD_eq_getElem?_getD, List.getElem?_eq_getElem h1, List.getElem?_eq_getElem h2] at this
    exact this
/-- sectors are held against each other -/
theorem run_neq_sec (l m : List UInt8) (hl : l.length = 512) (hm : m.length = 512) (w : World) : (binOp .neq 88 (.agg (sec l)) (.agg (sec m))).run Try.prog w = .ok (.bool (!(l == m))) w := by
  have hi : ∃ i, Try.prog.info? 5 = some i := by
    cases h : Try.prog.info? 5 with
    | none => have := u8_one; rw [h] at this; cases this
    | some i => exact ⟨i, rfl⟩
  obtain ⟨i, hi⟩ := hi
  rw [run_neq_struct, show (10000 : Nat) = 9998 + 1 + 1 from rfl, run_equalIn_array w (9998 + 1) (sec l) (sec m) Try.underlying88 hi, cells_u8, eq_items l m 9998 w _ (fun i hi => by have := List.mem_range.1 hi; omega), all_range l m hl hm]
  rfl
end Go.Proofs.Ytlokehekkllbeaa
namespace Go.Proofs.Ytlokehekkllbeaa
open Go.RowKit

/-- copy(s[:], b) into a new sector, whatever the block's type -/
theorem run_copy_secE {w : World} {G m cc : Nat} {E : TypeId} (ty : TypeId) (Z : Array Value) (ad : Addr) (l : List UInt8) (hg : w.heap[G]? = some (.cells Z E (0, 0))) (hZ : Z.size = 512) (hl : l.length = 512) (hm : 512 ≤ m)
    (hsrc : ∀ j u, (BS l)[j]? = some u → w.cell? (ad.add j) = some u) :
    (Builtin.copy_ #[39, 39] ty #[.slice (some ⟨G, 0, none⟩) 512 512, .slice (some ad) m cc]).run Try.prog w = .ok (.int .i64 512) (w.setRow G (sec l)) := by
  have h := run_copy_row (P := Try.prog) w 39 39 ty 5 G 0 512 512 ad m cc Z E (BS l) Try.underlying39 u8_one hg (by rw [BS_length, hl]; exact (Nat.min_eq_right hm).symm) hsrc (by rw [BS_length]; omega) (BS_one l)
  have e : (Z.toList.take 0 ++ BS l ++ Z.toList.drop (0 + (BS l).length)) = BS l := by
    rw [List.take_zero, List.nil_append, List.drop_eq_nil_of_le (by rw [BS_length, Array.length_toList]; omega), List.append_nil]
  rw [e, BS_length, hl] at h
  exact h

/-- an operation is taken first, its slot spelt out -/
theorem takeD {P : Program} {md : Region.Mode} {ops : Array Oper} {Q : Exit → Act → World → Prop} {S : World → Prop} {i : Nat} {oi : Oper} {d : Tmp} {v : Value} {fuel : Nat} {listed : Array Bool} {a : Act} {w : World} (hi : ops[i]? = some oi) (hd : oi.dst = some d)
    (hs : Region.noSelect ops = true) (hf : Region.free md ops listed i = true) (hr : (Region.ready md ops listed).contains i = true)
    (hQ : ∀ c a w, Q (.panic c) (a.put (some d) v) w → Q (.panic c) a w) (hy : YieldsIf P ops S oi v a) (hS : S w)
    (h : wpAnyH P md ops Q S fuel (listed.setIfInBounds i true) (a.put (some d) v) w) : wpAnyH P md ops Q S (fuel + 1) listed a w :=
  wpAnyH_take hi hs hf hr (by rw [hd]; exact hQ) hy hS (by rw [hd]; exact h)

theorem arr_under : Try.prog.underlying 88 = some (.array (Try.prog.arrayLen 88) (Try.prog.elem 88)) := by kernel_rfl
theorem arr_len : Try.prog.arrayLen 88 = 512 := by kernel_rfl
theorem arr_size (W : World) : (sizeOf (Try.prog.elem 88)).run Try.prog W = .ok 1 W := by kernel_rfl
/-- s[11:h] of a sector -/
theorem sec_slice (W : World) (g ll : Nat) (z : Int) (hz : z = 11 + (ll : Int)) (hl : ll ≤ 501) :
    (Instr.sliceAt 88 (.pointer (some ⟨g, 0, none⟩)) (some (.int .i64 11)) (some (.int .i64 z)) none).run Try.prog W = .ok (.slice (some ⟨g, 11, none⟩) ll 501) W := by
  subst hz
  have h := run_sliceAt_array_lh (P := Try.prog) W 88 ⟨g, 0, none⟩ arr_under .i64 .i64 11 (11 + (ll : Int)) (by omega) (by omega) (by rw [arr_len]; omega)
  rw [arr_size, arr_len] at h
  rw [h]
  have e : (11 + (ll : Int)).toNat = 11 + ll := by omega
  rw [e]
  simp only [Result.andThen, slicedAt, plus_zero, show (11 : Int).toNat = 11 from rfl]
  simp

set_option maxHeartbeats 4000000 in
set_option maxRecDepth 100000 in
theorem ppieceIn_any (s : List UInt8) (v : Value) (w : World) (hv : Rd w w.heap.size v s) (hs : s.length = 512) :
    Calls Try.prog 40 #[v] w fun e w' => ∃ x, e = .returned (.tuple #[x, .bool (pcIn s).isSome]) ∧ PcAt w' (fun b => w.heap.size ≤ b) (pcIn s) x ∧ Below w.heap.size w w' := by
  obtain ⟨A, c, rfl, h1, h2, h3, h4⟩ := hv
  obtain ⟨b, o, rfl, hbs, hcell⟩ := h4 (by intro e; rw [e] at hs; simp at hs)
  rw [hs] at h1 ⊢
  have HC := Lib.hid hcell
  have hzero := rsec_zero
  have hZs : (sec (List.replicate 512 0)).size = 512 := by rw [sec_size, List.length_replicate]
  obtain ⟨Z, hZ⟩ : ∃ Z, Z = sec (List.replicate 512 0) := ⟨_, rfl⟩
  rw [← hZ] at hZs
  simp only [← hZ] at hzero
  clear hcell h4 hZ
  go_enter Try.func40, Try.ntmps40
  go_upto_region 2 with fail
  obtain ⟨g, hg⟩ : ∃ g, g = w.heap.size + 1 := ⟨_, rfl⟩
  obtain ⟨wa, hwa⟩ : ∃ wa, wa = w.alloc (.cells #[.int .i64 0, .bool false, .slice none 0 0] 71) := ⟨_, rfl⟩
  have hsa : wa.heap.size = w.heap.size + 1 := by rw [hwa]; simp
  have hwa0 : wa.heap[w.heap.size]? = some (.cells #[.int .i64 0, .bool false, .slice none 0 0] 71 (0, 0)) := by rw [hwa]; exact heap_alloc_new _ _
  have hba : Below w.heap.size w wa := by rw [hwa]; exact (Below.refl _ _).alloc (Nat.le_refl _) _
  obtain ⟨w2, hw2⟩ : ∃ w2, w2 = wa.alloc (.cells Z 88) := ⟨_, rfl⟩
  rw [← hwa, ← hw2, ← hg]
  have hs2 : w2.heap.size = w.heap.size + 2 := by rw [hw2]; simp; omega
  have hg2 : w2.heap[g]? = some (.cells Z 88 (0, 0)) := by rw [hw2, hg, ← hsa]; exact heap_alloc_new _ _
  have hb2 : Below w.heap.size w w2 := by rw [hw2]; exact hba.alloc (by omega) _
  have hp2 : w2.heap[w.heap.size]? = some (.cells #[.int .i64 0, .bool false, .slice none 0 0] 71 (0, 0)) := by rw [hw2, Below.heap_alloc wa _ _ (by omega)]; exact hwa0
  have hcp := run_copy_secE (w := w2) (G := g) (m := 512) (cc := c) 3 Z ⟨b, o, none⟩ s hg2 hZs hs (Nat.le_refl _) (fun j u hu => by
    obtain ⟨x, hx, rfl⟩ := BS_get hu
    rw [plus_zero]
    exact (hb2.cell (p := ⟨b, o + j, none⟩) hbs).trans (HC.out j x hx))
  have hb3 := below_setRow hb2 (show w.heap.size ≤ g by omega) (sec s)
  have hg3 := setRow_heap w2 g Z (sec s) _ _ hg2
  have hs3 : (w2.setRow g (sec s)).heap.size = w.heap.size + 2 := by rw [setRow_size]; exact hs2
  have hp3 : (w2.setRow g (sec s)).heap[w.heap.size]? = some (.cells #[.int .i64 0, .bool false, .slice none 0 0] 71 (0, 0)) := (setRow_other w2 g _ _ (by omega)).trans hp2
  obtain ⟨w3, hw3⟩ : ∃ w3, w3 = w2.setRow g (sec s) := ⟨_, rfl⟩
  rw [← hw3] at hcp hb3 hg3 hs3 hp3
  have hsb : SecB w3 g s := ⟨hg3, hs⟩
  have cn := pnumber_any g s w3 hsb
  have cs := psize_any g s w3 hsb
  have c8 := hsb.cell (i := 8) (by omega)
  obtain ⟨nn, hnn⟩ : ∃ nn, nn = val (s.take 8) := ⟨_, rfl⟩
  obtain ⟨ll, hll⟩ : ∃ ll, ll = lenOf s := ⟨_, rfl⟩
  have hraw : (rawPc s).data.length = (s.drop 11 |>.take ll).length := by rw [hll]; rfl
  rw [← hnn] at cn
  rw [← hll] at cs
  have HG := Lib.hid hg
  have HS3 := Lib.hid hs3
  have HG3 := Lib.hid hg3
  have HP3 := Lib.hid hp3
  have HB3 := Lib.hid hb3
  have HSB := Lib.hid hsb
  have HNN := Lib.hid hnn
  have HLL := Lib.hid hll
  clear hg hwa hwa0 hba hsa hw2 hs2 hg2 hb2 hp2 hb3 hg3 hs3 hp3 hsb hw3 hraw hnn hll hzero
  go_wp2_with fail
  refine cn.mono ?_
  rintro e w4 ⟨rfl, rfl⟩
  clear cn
  go_wp2_with fail
  refine cs.mono ?_
  rintro e w4 ⟨rfl, hb4⟩
  have hs4 := hb4.size
  have hb34 := HB3.out.trans (Joins.below_le hb4 HB3.out.size)
  have hsb4 : SecB w4 g s := ⟨(hb4.block g (by have := HS3.out; have := HG.out; omega)).trans HG3.out, hs⟩
  have hp4 : w4.heap[w.heap.size]? = some (.cells #[.int .i64 0, .bool false, .slice none 0 0] 71 (0, 0)) := (hb4.block _ (by have := HS3.out; omega)).trans HP3.out
  have c8' := hsb4.cell (i := 8) (by omega)
  have HB4 := Lib.hid hb34
  have HSB4 := Lib.hid hsb4
  have HP4 := Lib.hid hp4
  have hlt4 : w.heap.size + 2 ≤ w4.heap.size := by have := HS3.out; omega
  have HLT4 := Lib.hid hlt4
  clear cs hb4 hb34 hsb4 hp4 c8 HS3 HG3 HP3 HB3 HSB hs4 hlt4
  have q0 : w4.cell? ⟨w.heap.size, 0, none⟩ = some (.int .i64 0) := (row7 HP4.out).1 0
  have q1 : w4.cell? ⟨w.heap.size, 1, none⟩ = some (.bool false) := (row7 HP4.out).1 1
  have q2 : w4.cell? ⟨w.heap.size, 2, none⟩ = some (.slice none 0 0) := (row7 HP4.out).1 2
  have q3 : w4.frozen? ⟨w.heap.size, 0, none⟩ = false := (row7 HP4.out).2 0
  have q4 : w4.frozen? ⟨w.heap.size, 1, none⟩ = false := (row7 HP4.out).2 1
  have q5 : w4.frozen? ⟨w.heap.size, 2, none⟩ = false := (row7 HP4.out).2 2
  by_cases hbad : nn < 1 ∨ 4611686018427387904 < nn ∨ 501 < ll
  · have hno : pcIn s = none := by
      unfold pcIn
      rw [← HNN.out, ← HLL.out, if_pos hbad]
    have HNO := Lib.hid hno
    clear hno
    have key : nn < 1 ∨ (¬ nn < 1 ∧ 4611686018427387904 < nn) ∨ (¬ nn < 1 ∧ ¬ 4611686018427387904 < nn ∧ 501 < ll) := by omega
    clear hbad
    rcases key with i1 | ⟨i0, i1⟩ | ⟨i0, i1, i2⟩
    · have j1 : (nn : Int) < 1 := by omega
      go_wp2_with fail
      refine bodyPost_ret (v := .tuple #[pcv ⟨0, false, []⟩ (.slice none 0 0), .bool false]) (by rw [results_cell_tmp rfl]; go_simp; rfl) rfl ?_
      rw [HNO.out]
      exact ⟨_, rfl, ⟨_, rfl, RdN.nil _ _⟩, ((HB4.out.setCell (Nat.le_refl _) _).setCell (Nat.le_refl _) _).setCell (Nat.le_refl _) _⟩
    · have j1 : ¬ (nn : Int) < 1 := by omega
      have j2 : (4611686018427387904 : Int) < (nn : Int) := by omega
      go_wp2_with fail
      refine bodyPost_ret (v := .tuple #[pcv ⟨0, false, []⟩ (.slice none 0 0), .bool false]) (by rw [results_cell_tmp rfl]; go_simp; rfl) rfl ?_
      rw [HNO.out]
      exact ⟨_, rfl, ⟨_, rfl, RdN.nil _ _⟩, ((HB4.out.setCell (Nat.le_refl _) _).setCell (Nat.le_refl _) _).setCell (Nat.le_refl _) _⟩
    · have j1 : ¬ (nn : Int) < 1 := by omega
      have j2 : ¬ (4611686018427387904 : Int) < (nn : Int) := by omega
      have j3 : (501 : Int) < (ll : Int) := by omega
      go_wp2_with fail
      refine bodyPost_ret (v := .tuple #[pcv ⟨0, false, []⟩ (.slice none 0 0), .bool false]) (by rw [results_cell_tmp rfl]; go_simp; rfl) rfl ?_
      rw [HNO.out]
      exact ⟨_, rfl, ⟨_, rfl, RdN.nil _ _⟩, ((HB4.out.setCell (Nat.le_refl _) _).setCell (Nat.le_refl _) _).setCell (Nat.le_refl _) _⟩
  · have j1 : ¬ (nn : Int) < 1 := by omega
    have j2 : ¬ (4611686018427387904 : Int) < (nn : Int) := by omega
    have j3 : ¬ (501 : Int) < (ll : Int) := by omega
    have j4 : (11 : Int) + (ll : Int) ≤ 512 := by omega
    have c8d := c8'.symm
    obtain ⟨x8, hx8⟩ : ∃ x8, x8 = (s.getD 8 0).toNat := ⟨_, rfl⟩
    rw [← hx8] at c8'
    have hlast : ((x8 : Int) == 1) = (rawPc s).last := by
      show _ = (s.getD 8 0 == 1)
      rw [hx8]
      by_cases hh : s.getD 8 0 = 1
      · rw [hh]; rfl
      · have : (s.getD 8 0).toNat ≠ 1 := fun e => hh (UInt8.toNat_inj.1 e)
        rw [show (s.getD 8 0 == 1) = false by simpa using hh]
        simp only [beq_eq_false_iff_ne, ne_eq]
        omega
    clear c8d hx8
    obtain ⟨L, hL⟩ : ∃ L, L = (rawPc s).last := ⟨_, rfl⟩
    rw [← hL] at hlast
    have hwr : IntKind.i64.wrap (11 + (ll : Int)) = 11 + (ll : Int) := by rw [IntKind.wrap_i64]; omega
    have hsl := fun W => sec_slice W g ll (11 + (ll : Int)) rfl (by omega)
    have hgl : g < w4.heap.size := by have := HG.out; have := HLT4.out; omega
    go_upto_region 6 with fail
    go_region
    obtain ⟨P, hP⟩ : ∃ P, P = rawPc s := ⟨_, rfl⟩
    obtain ⟨g5, hg5⟩ : ∃ g5, g5 = w4.heap.size := ⟨_, rfl⟩
    obtain ⟨w5, hw5⟩ : ∃ w5, w5 = (w4.alloc (.cells #[.int .i64 (nn : Int), .bool (rawPc s).last, .slice (some ⟨g, 11, none⟩) ll 501] 71)).drew := ⟨_, rfl⟩
    rw [← hw5, ← hg5, ← hP]
    rw [← hP] at hw5
    have hb5 : Below w4.heap.size w4 w5 := by rw [hw5]; exact ((Below.refl _ _).alloc (Nat.le_refl _) _).drew
    have hn5 : w5.heap[g5]? = some (.cells #[.int .i64 (nn : Int), .bool P.last, .slice (some ⟨g, 11, none⟩) ll 501] 71 (0, 0)) := by rw [hw5, hg5]; exact heap_alloc_new w4 _
    have hs5 : g5 < w5.heap.size := (Array.getElem?_eq_some_iff.1 hn5).1
    have hz5 : w.heap.size + 2 ≤ g5 := by rw [hg5]; exact HLT4.out
    have hbel5 := HB4.out.trans (Joins.below_le hb5 HB4.out.size)
    have hsb5 : SecB w5 g s := ⟨(hb5.block g hgl).trans HSB4.out.1, hs⟩
    have hp5 : w5.heap[w.heap.size]? = some (.cells #[.int .i64 0, .bool false, .slice none 0 0] 71 (0, 0)) := (hb5.block _ (by have := HLT4.out; omega)).trans HP4.out
    have hPn : P.n = nn := by rw [hP]; exact HNN.out.symm
    have hPd : P.data = (s.drop 11).take ll := by rw [hP]; show _ = _; rw [HLL.out]; rfl
    have hPl : P.data.length = ll := by rw [hPd, List.length_take, List.length_drop, hs]; omega
    have hrdN : ∀ W : World, W.heap[g]? = some (.cells (sec s) 88 (0, 0)) → RdN W (fun b => w.heap.size ≤ b) (.slice (some ⟨g, 11, none⟩) ll 501) P.data := by
      intro W hW
      refine ⟨some ⟨g, 11, none⟩, 501, by rw [hPl], by omega, by unfold maxLen; omega, (fun h => by cases h), fun _ => ⟨g, 11, rfl, by have := HG.out; omega, (Array.getElem?_eq_some_iff.1 hW).1, fun i x hx => ?_⟩⟩
      have hi : i < ll := by have := (List.getElem?_eq_some_iff.1 hx).1; omega
      have hx' : s.getD (11 + i) 0 = x := by
        rw [hPd, List.getElem?_take, if_pos hi, List.getElem?_drop] at hx
        rw [List.getD_eq_getElem?_getD, hx]
        rfl
      have := SecB.cell (w := W) (g := g) (s := s) ⟨hW, hs⟩ (i := 11 + i) (by omega)
      rw [hx'] at this
      exact this
    have hpin : pcIn s = if (P.last = false ∧ ll < 501) ∨ P.sec ≠ s then none else some P := by
      unfold pcIn
      rw [← HNN.out, ← HLL.out, if_neg hbad, ← hP]
    have HPIN := Lib.hid hpin
    have HRDN := Lib.hid hrdN
    have HPN := Lib.hid hPn
    have HPL := Lib.hid hPl
    have HP := Lib.hid hP
    have HB5 := Lib.hid hbel5
    have HSB5 := Lib.hid hsb5
    have HN5 := Lib.hid hn5
    have HP5 := Lib.hid hp5
    have HG5 := Lib.hid hz5
    clear hw5 hg5 hP hb5 hn5 hbel5 hsb5 hp5 hPn hPd hrdN hpin hPl q0 q1 q2 q3 q4 q5 c8' hlast hwr hsl hL hbad HB4 HSB4 HP4 HLT4 hgl HNN HLL hcp hZs hz5
    have q0 : w5.cell? ⟨w.heap.size, 0, none⟩ = some (.int .i64 0) := (row7 HP5.out).1 0
    have q1 : w5.cell? ⟨w.heap.size, 1, none⟩ = some (.bool false) := (row7 HP5.out).1 1
    have q2 : w5.cell? ⟨w.heap.size, 2, none⟩ = some (.slice none 0 0) := (row7 HP5.out).1 2
    have q3 : w5.frozen? ⟨w.heap.size, 0, none⟩ = false := (row7 HP5.out).2 0
    have q4 : w5.frozen? ⟨w.heap.size, 1, none⟩ = false := (row7 HP5.out).2 1
    have q5 : w5.frozen? ⟨w.heap.size, 2, none⟩ = false := (row7 HP5.out).2 2
    have r1 : w5.cell? ⟨g5, 1, none⟩ = some (.bool P.last) := (row7 HN5.out).1 1
    by_cases hshort : P.last = false ∧ ll < 501
    · have hno : pcIn s = none := by rw [HPIN.out, if_pos (.inl hshort)]
      have HNO := Lib.hid hno
      obtain ⟨hs1, hs2⟩ := hshort
      have j5 : (ll : Int) < 501 := by omega
      rw [hs1] at r1
      clear hno
      go_upto_region 7 with fail
      go_quiet (fail)
      go_wp2_with fail
      refine bodyPost_ret (v := .tuple #[pcv ⟨0, false, []⟩ (.slice none 0 0), .bool false]) (by rw [results_cell_tmp rfl]; go_simp; rfl) rfl ?_
      rw [HNO.out]
      exact ⟨_, rfl, ⟨_, rfl, RdN.nil _ _⟩, ((Below.setCell (⟨HB5.out.os, HB5.out.tape, HB5.out.output, HB5.out.size, HB5.out.block⟩ : Below w.heap.size w (w5.drewN nq)) (Nat.le_refl _) _).setCell (Nat.le_refl _) _).setCell (Nat.le_refl _) _⟩
    · have hfine : P.fine := by
        have e1 := HPN.out
        have e2 := HPL.out
        refine ⟨by omega, by omega, by omega, fun hl => ?_⟩
        have : ¬ ll < 501 := fun h => hshort ⟨hl, h⟩
        omega
      have hsl := P.sec_length hfine.2.2.1
      have hneq := run_neq_sec P.sec s hsl hs
      have hpin : pcIn s = if P.sec ≠ s then none else some P := by
        rw [HPIN.out]
        by_cases h : P.sec ≠ s
        · rw [if_pos (.inr h), if_pos h]
        · rw [if_neg (fun hh => hh.elim hshort h), if_neg h]
      have hdrawn : ((P.sec == s) = true) ↔ ¬ P.sec ≠ s := by simp
      obtain ⟨EQ, hEQ⟩ : ∃ EQ, EQ = (P.sec == s) := ⟨_, rfl⟩
      rw [← hEQ] at hdrawn
      simp only [← hEQ] at hneq
      have call : ∀ W : World, W.heap[g]? = some (.cells (sec s) 88 (0, 0)) → Calls Try.prog 46 #[.agg #[.int .i64 (nn : Int), .bool P.last, .slice (some ⟨g, 11, none⟩) ll 501]] W fun e w' => e = .returned (.agg (sec P.sec)) ∧ Below W.heap.size W w' := fun W hW => by
        have := psector_any P (.slice (some ⟨g, 11, none⟩) ll 501) W hfine (HRDN.out W hW).rd
        unfold pcv at this
        rw [HPN.out] at this
        exact this
      obtain ⟨X, hX⟩ : ∃ X, X = sec P.sec := ⟨_, rfl⟩
      rw [← hX] at hneq call
      obtain ⟨C, hC⟩ : ∃ C, C = BS s := ⟨_, rfl⟩
      have hCs : sec s = C.toArray := by rw [hC]; rfl
      rw [hCs] at hneq
      have hCl : C.length = 512 := by rw [hC, BS_length, hs]
      have hund := arr_under
      rw [arr_len] at hund
      have hsz : (Try.prog.info? 88).map (·.size) = some C.length := by rw [hCl]; exact rsec_info
      have HPIN2 := Lib.hid hpin
      have HD := Lib.hid hdrawn
      have HCALL := Lib.hid call
      have HCS := Lib.hid hCs
      have HFINE := Lib.hid hfine
      have key : P.last = true ∨ (P.last = false ∧ ¬ (ll : Int) < 501) := by
        cases hl : P.last
        · right; exact ⟨rfl, fun h => hshort ⟨hl, by omega⟩⟩
        · left; rfl
      have hcall : Calls Try.prog 46 #[.agg #[.int .i64 (nn : Int), .bool P.last, .slice (some ⟨g, 11, none⟩) ll 501]] w5.drew fun e w' => e = .returned (.agg X) ∧ Below w5.drew.heap.size w5.drew w' := call w5.drew HSB5.out.1
      have hkeep : ∀ W : World, Below w5.drew.heap.size w5.drew W → W.rangeAt g 0 C ∧ W.cell? ⟨g5, 0, none⟩ = some (.int .i64 (nn : Int)) ∧ W.cell? ⟨g5, 1, none⟩ = some (.bool P.last) ∧ W.cell? ⟨g5, 2, none⟩ = some (.slice (some ⟨g, 11, none⟩) ll 501) := fun W hW => by
        have h5 : W.heap[g5]? = w5.heap[g5]? := hW.block g5 hs5
        have hg : W.heap[g]? = w5.heap[g]? := hW.block g (Array.getElem?_eq_some_iff.1 HSB5.out.1).1
        have hN := h5.trans HN5.out
        refine ⟨?_, (row7 hN).1 0, (row7 hN).1 1, (row7 hN).1 2⟩
        intro j v hv
        have := (row7 (hg.trans HSB5.out.1)).1 j
        rw [Nat.zero_add, this, hCs, List.getElem?_toArray]
        exact hv
      have hst : w5.drew.rangeAt g 0 C ∧ w5.drew.cell? ⟨g5, 0, none⟩ = some (.int .i64 (nn : Int)) ∧ w5.drew.cell? ⟨g5, 1, none⟩ = some (.bool P.last) ∧ w5.drew.cell? ⟨g5, 2, none⟩ = some (.slice (some ⟨g, 11, none⟩) ll 501) := hkeep _ (Below.refl _ _)
      clear hpin hdrawn call hEQ hX hC hCs hfine hsl HPIN hshort
      have HR := Lib.hid r1
      clear r1
      rcases key with hl | ⟨hl, j5⟩
      · rw [hl] at hst hcall hkeep
        go_upto_region 7 with fail
        have S0 := hst
        refine wp_region_held_drew (S := fun w' => w'.rangeAt g 0 C ∧ w'.cell? ⟨g5, 0, none⟩ = some (.int .i64 (nn : Int)) ∧ w'.cell? ⟨g5, 1, none⟩ = some (.bool true) ∧ w'.cell? ⟨g5, 2, none⟩ = some (.slice (some ⟨g, 11, none⟩) ll 501)) (by kernel_rfl) hst (fun hHeld => ?_)
        refine takeD (i := 0) (d := 33) (v := .pointer (some ⟨g5, 1, none⟩)) rfl rfl (by kernel_rfl) (by kernel_rfl) (by kernel_rfl) (fun _ _ _ h => h) (.inl ⟨by rfl, fun w hSw => by dsimp only at hSw; go_simp; try with_reducible rfl⟩) (by assumption) ?_
        simp only [Act.put, List.setIfInBounds_toArray, List.set_cons_zero, List.set_cons_succ]
        refine takeD (i := 1) (d := 34) (v := .bool true) rfl rfl (by kernel_rfl) (by kernel_rfl) (by kernel_rfl) (fun _ _ _ h => h) (.inl ⟨by rfl, fun w hSw => by dsimp only at hSw; go_simp; try with_reducible rfl⟩) (by assumption) ?_
        simp only [Act.put, List.setIfInBounds_toArray, List.set_cons_zero, List.set_cons_succ]
        refine takeD (i := 2) (d := 35) (v := .bool false) rfl rfl (by kernel_rfl) (by kernel_rfl) (by kernel_rfl) (fun _ _ _ h => h) (.inl ⟨by rfl, fun w hSw => by dsimp only at hSw; go_simp; try with_reducible rfl⟩) (by assumption) ?_
        simp only [Act.put, List.setIfInBounds_toArray, List.set_cons_zero, List.set_cons_succ]
        refine takeD (i := 3) (d := 36) (v := .bool false) rfl rfl (by kernel_rfl) (by kernel_rfl) (by kernel_rfl) (fun _ _ _ h => h) (.inl ⟨by rfl, fun w hSw => by dsimp only at hSw; go_simp; try with_reducible rfl⟩) (by assumption) ?_
        simp only [Act.put, List.setIfInBounds_toArray, List.set_cons_zero, List.set_cons_succ]
        refine takeD (i := 4) (d := 37) (v := undef) rfl rfl (by kernel_rfl) (by kernel_rfl) (by kernel_rfl) (fun _ _ _ h => h) (.inr ⟨by rfl, rfl⟩) (by assumption) ?_
        simp only [Act.put, List.setIfInBounds_toArray, List.set_cons_zero, List.set_cons_succ]
        refine takeD (i := 5) (d := 38) (v := undef) rfl rfl (by kernel_rfl) (by kernel_rfl) (by kernel_rfl) (fun _ _ _ h => h) (.inr ⟨by rfl, rfl⟩) (by assumption) ?_
        simp only [Act.put, List.setIfInBounds_toArray, List.set_cons_zero, List.set_cons_succ]
        refine takeD (i := 6) (d := 39) (v := .bool false) rfl rfl (by kernel_rfl) (by kernel_rfl) (by kernel_rfl) (fun _ _ _ h => h) (.inl ⟨by rfl, fun w hSw => by dsimp only at hSw; go_simp; try with_reducible rfl⟩) (by assumption) ?_
        simp only [Act.put, List.setIfInBounds_toArray, List.set_cons_zero, List.set_cons_succ]
        refine takeD (i := 7) (d := 40) (v := .bool false) rfl rfl (by kernel_rfl) (by kernel_rfl) (by kernel_rfl) (fun _ _ _ h => h) (.inl ⟨by rfl, fun w hSw => by dsimp only at hSw; go_simp; try with_reducible rfl⟩) (by assumption) ?_
        simp only [Act.put, List.setIfInBounds_toArray, List.set_cons_zero, List.set_cons_succ]
        refine takeD (i := 8) (d := 41) (v := .agg #[.int .i64 (nn : Int), .bool true, .slice (some ⟨g, 11, none⟩) ll 501]) rfl rfl (by kernel_rfl) (by kernel_rfl) (by kernel_rfl) (fun _ _ _ h => h) (.inl ⟨by rfl, fun w hSw => by dsimp only at hSw; go_simp; try with_reducible rfl⟩) (by assumption) ?_
        simp only [Act.put, List.setIfInBounds_toArray, List.set_cons_zero, List.set_cons_succ]
        refine takeD (i := 10) (d := 43) (v := .agg C.toArray) rfl rfl (by kernel_rfl) (by kernel_rfl) (by kernel_rfl) (fun _ _ _ h => h) (yieldsIf_load_mid (by rfl) 88 (.tmp 4) rfl g 0 rfl C _ (fun w h => h.1) hund rfl hsz) (by assumption) ?_
        simp only [Act.put, List.setIfInBounds_toArray, List.set_cons_zero, List.set_cons_succ]
        refine wpAnyH_ready (rs := [9]) (by kernel_rfl) (by simp) ?_
        refine AllReadyH.cons rfl (fun K hK => ?_) AllReadyH.nil
        rw [if_pos (by rfl)]
        go_simp
        go_at_call 46
        refine hcall.mono ?_
        rintro e w6 ⟨rfl, hb6⟩
        have hst2 := hkeep _ hb6
        dsimp only
        refine hK.out _ _ hst2 (fun hHeld2 => ?_)
        try simp only [Act.put, List.setIfInBounds_toArray, List.set_cons_zero, List.set_cons_succ]
        refine takeD (i := 11) (d := 44) (v := .bool (!EQ)) rfl rfl (by kernel_rfl) (by kernel_rfl) (by kernel_rfl) (fun _ _ _ h => h) (.inl ⟨by rfl, fun w hSw => by dsimp only at hSw; go_simp; try with_reducible rfl⟩) (by assumption) ?_
        simp only [Act.put, List.setIfInBounds_toArray, List.set_cons_zero, List.set_cons_succ]
        refine takeD (i := 12) (d := 45) (v := .bool (!EQ)) rfl rfl (by kernel_rfl) (by kernel_rfl) (by kernel_rfl) (fun _ _ _ h => h) (.inl ⟨by rfl, fun w hSw => by dsimp only at hSw; go_simp; try with_reducible rfl⟩) (by assumption) ?_
        simp only [Act.put, List.setIfInBounds_toArray, List.set_cons_zero, List.set_cons_succ]
        refine wpAnyH_done (by kernel_rfl) ?_ _
        have hb6' : Below w.heap.size w w6 := HB5.out.trans (Joins.below_le ((Below.refl w5.heap.size w5).drew.trans hb6) HB5.out.size)
        have hp6 : w6.heap[w.heap.size]? = some (.cells #[.int .i64 0, .bool false, .slice none 0 0] 71 (0, 0)) := (hb6.block w.heap.size (by show w.heap.size < w5.heap.size; have := HG5.out; omega)).trans HP5.out
        have hg6 : w6.heap[g]? = some (.cells (sec s) 88 (0, 0)) := (hb6.block g (Array.getElem?_eq_some_iff.1 HSB5.out.1).1).trans HSB5.out.1
        have q0 : w6.cell? ⟨w.heap.size, 0, none⟩ = some (.int .i64 0) := (row7 hp6).1 0
        have q1 : w6.cell? ⟨w.heap.size, 1, none⟩ = some (.bool false) := (row7 hp6).1 1
        have q2 : w6.cell? ⟨w.heap.size, 2, none⟩ = some (.slice none 0 0) := (row7 hp6).1 2
        have q3 : w6.frozen? ⟨w.heap.size, 0, none⟩ = false := (row7 hp6).2 0
        have q4 : w6.frozen? ⟨w.heap.size, 1, none⟩ = false := (row7 hp6).2 1
        have q5 : w6.frozen? ⟨w.heap.size, 2, none⟩ = false := (row7 hp6).2 2
        obtain ⟨-, r0, r1, r2⟩ := hst2
        have HB6 := Lib.hid hb6'
        have HG6 := Lib.hid hg6
        have hne : w.heap.size ≠ g := by have := HG.out; omega
        clear hb6 hb6' hp6 hg6 hst hcall hkeep hneq hund hsz
        cases EQ with
        | false =>
          have hno : pcIn s = none := by
            rw [HPIN2.out, if_pos]
            intro h
            exact absurd (HD.out.2 (fun hh => hh h)) (by decide)
          have HNO := Lib.hid hno
          clear hno
          go_wp2_with fail
          refine bodyPost_ret (v := .tuple #[pcv ⟨0, false, []⟩ (.slice none 0 0), .bool false]) (by rw [results_cell_tmp rfl]; go_simp; rfl) rfl ?_
          rw [HNO.out]
          exact ⟨_, rfl, ⟨_, rfl, RdN.nil _ _⟩, ((HB6.out.setCell (Nat.le_refl _) _).setCell (Nat.le_refl _) _).setCell (Nat.le_refl _) _⟩
        | true =>
          have hyes : pcIn s = some P := by
            rw [HPIN2.out, if_neg (HD.out.1 rfl)]
          have HYES := Lib.hid hyes
          have HL := Lib.hid hl
          clear hyes hl
          go_wp2_with fail
          refine bodyPost_ret (v := .tuple #[.agg #[.int .i64 (nn : Int), .bool true, .slice (some ⟨g, 11, none⟩) ll 501], .bool true]) (by rw [results_cell_tmp rfl]; go_simp) rfl ?_
          rw [HYES.out]
          refine ⟨_, rfl, ⟨_, by show _ = pcv P _; unfold pcv; rw [HPN.out, HL.out], HRDN.out _ ?_⟩, ((HB6.out.setCell (Nat.le_refl _) _).setCell (Nat.le_refl _) _).setCell (Nat.le_refl _) _⟩
          rw [set_other (Ne.symm hne), set_other (Ne.symm hne), set_other (Ne.symm hne)]
          exact HG6.out
      · rw [hl] at hst hcall hkeep
        go_upto_region 7 with fail
        go_region_held3 (fun w' => w'.rangeAt g 0 C ∧ w'.cell? ⟨g5, 0, none⟩ = some (.int .i64 (nn : Int)) ∧ w'.cell? ⟨g5, 1, none⟩ = some (.bool false) ∧ w'.cell? ⟨g5, 2, none⟩ = some (.slice (some ⟨g, 11, none⟩) ll 501)) (first | exact hst | exact hst2)
          (first
            | (go_at_call 46; refine hcall.mono ?_; rintro e w6 ⟨rfl, hb6⟩; have hst2 := hkeep _ hb6))
        have hb6' : Below w.heap.size w w6 := HB5.out.trans (Joins.below_le ((Below.refl w5.heap.size w5).drew.trans hb6) HB5.out.size)
        have hp6 : w6.heap[w.heap.size]? = some (.cells #[.int .i64 0, .bool false, .slice none 0 0] 71 (0, 0)) := (hb6.block w.heap.size (by show w.heap.size < w5.heap.size; have := HG5.out; omega)).trans HP5.out
        have hg6 : w6.heap[g]? = some (.cells (sec s) 88 (0, 0)) := (hb6.block g (Array.getElem?_eq_some_iff.1 HSB5.out.1).1).trans HSB5.out.1
        have q0 : w6.cell? ⟨w.heap.size, 0, none⟩ = some (.int .i64 0) := (row7 hp6).1 0
        have q1 : w6.cell? ⟨w.heap.size, 1, none⟩ = some (.bool false) := (row7 hp6).1 1
        have q2 : w6.cell? ⟨w.heap.size, 2, none⟩ = some (.slice none 0 0) := (row7 hp6).1 2
        have q3 : w6.frozen? ⟨w.heap.size, 0, none⟩ = false := (row7 hp6).2 0
        have q4 : w6.frozen? ⟨w.heap.size, 1, none⟩ = false := (row7 hp6).2 1
        have q5 : w6.frozen? ⟨w.heap.size, 2, none⟩ = false := (row7 hp6).2 2
        obtain ⟨-, r0, r1, r2⟩ := hst2
        have HB6 := Lib.hid hb6'
        have HG6 := Lib.hid hg6
        have hne : w.heap.size ≠ g := by have := HG.out; omega
        clear hb6 hb6' hp6 hg6 hst hcall hkeep hneq hund hsz
        cases EQ with
        | false =>
          have hno : pcIn s = none := by
            rw [HPIN2.out, if_pos]
            intro h
            exact absurd (HD.out.2 (fun hh => hh h)) (by decide)
          have HNO := Lib.hid hno
          clear hno
          go_wp2_with fail
          refine bodyPost_ret (v := .tuple #[pcv ⟨0, false, []⟩ (.slice none 0 0), .bool false]) (by rw [results_cell_tmp rfl]; go_simp; rfl) rfl ?_
          rw [HNO.out]
          exact ⟨_, rfl, ⟨_, rfl, RdN.nil _ _⟩, ((HB6.out.setCell (Nat.le_refl _) _).setCell (Nat.le_refl _) _).setCell (Nat.le_refl _) _⟩
        | true =>
          have hyes : pcIn s = some P := by
            rw [HPIN2.out, if_neg (HD.out.1 rfl)]
          have HYES := Lib.hid hyes
          have HL := Lib.hid hl
          clear hyes hl
          go_wp2_with fail
          refine bodyPost_ret (v := .tuple #[.agg #[.int .i64 (nn : Int), .bool false, .slice (some ⟨g, 11, none⟩) ll 501], .bool true]) (by rw [results_cell_tmp rfl]; go_simp) rfl ?_
          rw [HYES.out]
          refine ⟨_, rfl, ⟨_, by show _ = pcv P _; unfold pcv; rw [HPN.out, HL.out], HRDN.out _ ?_⟩, ((HB6.out.setCell (Nat.le_refl _) _).setCell (Nat.le_refl _) _).setCell (Nat.le_refl _) _⟩
          rw [set_other (Ne.symm hne), set_other (Ne.symm hne), set_other (Ne.symm hne)]
          exact HG6.out
end Go.Proofs.Ytlokehekkllbeaa
