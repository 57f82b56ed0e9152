/-
  RRun: The program's ring: the pieces that are there, one by one. No statement is proved here. No condition.
  RLook: The program's ring: what its sectors have. No statement is proved here. No condition.
  RLookW: The program's ring: look, walked. No statement is proved here. No condition.
  RApp: append, and where what it makes lies; rows of lists of bytes. No statement is proved here. No condition.
-/
import Derived.Test.YtlokehekkllbeaaRE
namespace Go.Proofs.Ytlokehekkllbeaa
open Go.RowKit

def numO : Option Pc → Nat
  | none => 0
  | some p => p.n
def lastO : Option Pc → Bool
  | none => false
  | some p => p.last
def dataO : Option Pc → List UInt8
  | none => []
  | some p => p.data

/-- block g has the pieces L -/
def ThereAt (w : World) (N : Nat → Prop) (g : Nat) (L : List (Option Pc)) : Prop :=
  ∃ C : Array Value, w.heap[g]? = some (.cells C 71 (0, 0)) ∧ C.size = L.length * 3 ∧
    ∀ (i : Nat) (o : Option Pc), L[i]? = some o → ∃ Au nu cu, C[i * 3]? = some (.int .i64 (numO o : Int)) ∧ C[i * 3 + 1]? = some (.bool (lastO o)) ∧ C[i * 3 + 2]? = some (.slice Au nu cu) ∧ RdN w N (.slice Au nu cu) (dataO o)
theorem ThereAt.kept {w w' : World} {N N' : Nat → Prop} {g : Nat} {L : List (Option Pc)} (h : ThereAt w N g L) (hN : ∀ b, N b → b < w.heap.size → N' b) (hs : w.heap.size ≤ w'.heap.size) (hg : w'.heap[g]? = w.heap[g]?) (hk : ∀ b, N b → b < w.heap.size → w'.heap[b]? = w.heap[b]?) : ThereAt w' N' g L := by
  obtain ⟨C, h1, h2, h3⟩ := h
  refine ⟨C, hg.trans h1, h2, fun i o ho => ?_⟩
  obtain ⟨Au, nu, cu, k1, k2, k3, k4⟩ := h3 i o ho
  exact ⟨Au, nu, cu, k1, k2, k3, k4.kept hN hs hk⟩

/-- where a walk over pieces stands -/
structure RunSt (w : World) (N : Nat → Prop) (a b g : Nat) (L : List (Option Pc)) (n : Nat) : Prop where
  ca : w.heap[a]? = some (.cells #[.int .i64 (n : Int)] 3 (0, 0))
  cb : w.heap[b]? = some (.cells #[.slice (some ⟨g, 0, none⟩) L.length L.length] 58 (0, 0))
  there : ThereAt w N g L
  na : ∀ x, N x → x ≠ a
theorem RunSt.ab {w : World} {N : Nat → Prop} {a b g : Nat} {L : List (Option Pc)} {n : Nat} (h : RunSt w N a b g L n) : a ≠ b ∧ a ≠ g := by
  refine ⟨?_, ?_⟩
  · rintro rfl
    have := h.ca.symm.trans h.cb
    injection this with this
    injection this with _ this
    exact absurd this (by decide)
  · rintro rfl
    obtain ⟨C, h1, -⟩ := h.there
    have := h.ca.symm.trans h1
    injection this with this
    injection this with _ this
    exact absurd this (by decide)
theorem RunSt.kept {w w' : World} {N : Nat → Prop} {a b g : Nat} {L : List (Option Pc)} {n : Nat} (h : RunSt w N a b g L n) (hs : w.heap.size ≤ w'.heap.size) (hk : ∀ x, x < w.heap.size → (x = a ∨ x = b ∨ x = g ∨ N x) → w'.heap[x]? = w.heap[x]?) : RunSt w' N a b g L n :=
  ⟨(hk a (Array.getElem?_eq_some_iff.1 h.ca).1 (.inl rfl)).trans h.ca, (hk b (Array.getElem?_eq_some_iff.1 h.cb).1 (.inr (.inl rfl))).trans h.cb, h.there.kept (fun _ h _ => h) hs (hk g (by obtain ⟨C, h1, -⟩ := h.there; exact (Array.getElem?_eq_some_iff.1 h1).1) (.inr (.inr (.inl rfl)))) (fun x hx hl => hk x hl (.inr (.inr (.inr hx)))), h.na⟩

theorem prun_any (g : Nat) (N : Nat → Prop) (L : List (Option Pc)) (base : Nat) (w : World) (h : ThereAt w N g L) (hN : ∀ x, N x → x < w.heap.size) :
    Calls Try.prog 41 #[.slice (some ⟨g, 0, none⟩) L.length L.length, .int .i64 (base : Int)] w fun e w' => ∃ a b, e = .returned (.func (.func 53) #[] #[.pointer (some ⟨a, 0, none⟩), .pointer (some ⟨b, 0, none⟩)]) ∧ RunSt w' N a b g L base ∧ w.heap.size ≤ a ∧ w.heap.size ≤ b ∧ Below w.heap.size w w' := by
  have hmf : ∀ (fn : Fn) (first cap : Array Value) (w : World), (Instr.makeFunc fn first cap).run Try.prog w = .ok (.func fn first cap) w := fun _ _ _ _ => rfl
  have H := Lib.hid h
  clear h
  go_enter Try.func41, Try.ntmps41
  go_wp2_with fail
  go_ret
  have hgl : g < w.heap.size := by obtain ⟨C, h1, -⟩ := H.out; exact (Array.getElem?_eq_some_iff.1 h1).1
  have h1 : (w.alloc (.cells #[.slice (some ⟨g, 0, none⟩) L.length L.length] 58)).heap.size = w.heap.size + 1 := by simp
  have hb : Below w.heap.size w ((w.alloc (.cells #[.slice (some ⟨g, 0, none⟩) L.length L.length] 58)).alloc (.cells #[.int .i64 (base : Int)] 3)) := ((Below.refl _ _).alloc (Nat.le_refl _) _).alloc (by simp) _
  refine ⟨_, _, rfl, ⟨?_, ?_, H.out.kept (fun _ h _ => h) hb.size (hb.block g hgl) (fun x _ hx => hb.block x hx), fun x hx => by have := hN x hx; omega⟩, by omega, Nat.le_refl _, hb⟩
  · have := heap_alloc_new (w.alloc (.cells #[.slice (some ⟨g, 0, none⟩) L.length L.length] 58)) (.cells #[.int .i64 (base : Int)] 3)
    rw [h1] at this
    exact this
  · rw [Below.heap_alloc _ _ _ (by omega)]
    exact heap_alloc_new _ _

set_option maxHeartbeats 2000000 in
set_option maxRecDepth 100000 in
theorem prun1_any {w : World} {N : Nat → Prop} {a b g : Nat} {L : List (Option Pc)} {n : Nat} (h : RunSt w N a b g L n) (hc : 1 ≤ L.length) (hl : L.length ≤ 65536) (hn : n < 9223372036854775806) (o : Option Pc) (ho : L[(n + 1) % L.length]? = some o) :
    Calls Try.prog 53 #[.pointer (some ⟨a, 0, none⟩), .pointer (some ⟨b, 0, none⟩)] w fun e w' => ∃ Au nu cu, e = .returned (.tuple #[.agg #[.int .i64 (numO o : Int), .bool (lastO o), .slice Au nu cu], .bool (decide (numO o = n + 1))]) ∧ RdN w' N (.slice Au nu cu) (dataO o) ∧ RunSt w' N a b g L (n + 1) ∧ Kept w w' (fun x => x = a) := by
  obtain ⟨C, h1, h2, h3⟩ := h.there
  obtain ⟨Au, nu, cu, e0, e1, e2, hrd⟩ := h3 _ o ho
  obtain ⟨ab, ag⟩ := h.ab
  have c0 : w.cell? ⟨a, 0, none⟩ = some (.int .i64 (n : Int)) := (row7 h.ca).1 0
  have z0 := (row7 h.ca).2 0
  have la : a < w.heap.size := (Array.getElem?_eq_some_iff.1 h.ca).1
  have lb : b < w.heap.size := (Array.getElem?_eq_some_iff.1 h.cb).1
  have lg : g < w.heap.size := (Array.getElem?_eq_some_iff.1 h1).1
  have hmod : ((n : Int) + 1).tmod (L.length : Int) = (((n + 1) % L.length : Nat) : Int) := by
    rw [show (n : Int) + 1 = ((n + 1 : Nat) : Int) from rfl, Int.tmod_eq_emod_of_nonneg (by omega)]
    exact (Int.natCast_emod _ _).symm
  have hml : (n + 1) % L.length < L.length := Nat.mod_lt _ (by omega)
  obtain ⟨m, hm⟩ : ∃ m, m = (n + 1) % L.length := ⟨_, rfl⟩
  rw [← hm] at hmod hml e0 e1 e2
  have hcz : ¬ L.length = 0 := by omega
  obtain ⟨cn, hcn⟩ : ∃ cn, cn = L.length := ⟨_, rfl⟩
  have i0 : (0 : Int) ≤ (m : Int) := by omega
  have i1 : (m : Int) < (cn : Int) := by omega
  have H := Lib.hid h
  have HRD := Lib.hid hrd
  obtain ⟨w1, hw1⟩ : ∃ w1, w1 = w.setCell ⟨a, 0, none⟩ (.int .i64 ((n : Int) + 1)) := ⟨_, rfl⟩
  have hk1 : Kept w w1 (fun x => x = a) := by rw [hw1]; exact Kept.setCell w ⟨a, 0, none⟩ _ _ rfl
  have ha1 : w1.heap[a]? = some (.cells #[.int .i64 ((n : Int) + 1)] 3 (0, 0)) := by
    rw [hw1, Joins.block_setCell h.ca _]
    simp
  have hb1 := (hk1.block b lb (Ne.symm ab)).trans h.cb
  have hg1 := (hk1.block g lg (Ne.symm ag)).trans h1
  rw [← hcn] at hb1 hmod hcz
  have HK1 := Lib.hid hk1
  have HA1 := Lib.hid ha1
  have HB1 := Lib.hid hb1
  have hs1 := hk1.size
  have q0 : w1.cell? ⟨a, 0, none⟩ = some (.int .i64 ((n : Int) + 1)) := (row7 ha1).1 0
  have q1 : w1.cell? ⟨b, 0, none⟩ = some (.slice (some ⟨g, 0, none⟩) cn cn) := (row7 hb1).1 0
  have p0 : w1.cell? ⟨g, m * 3, none⟩ = some (.int .i64 (numO o : Int)) := ((row7 hg1).1 _).trans e0
  have p1 : w1.cell? ⟨g, m * 3 + 1, none⟩ = some (.bool (lastO o)) := ((row7 hg1).1 _).trans e1
  have p2 : w1.cell? ⟨g, m * 3 + 2, none⟩ = some (.slice Au nu cu) := ((row7 hg1).1 _).trans e2
  have HW1 := Lib.hid hw1
  have HM := Lib.hid hm
  have HCN := Lib.hid hcn
  clear h h3 hrd hk1 ha1 hb1 hg1 e0 e1 e2 hm ho hw1 hcn
  go_enter Try.func53, Try.ntmps53
  go_upto_region 2 with fail
  rw [← HW1.out]
  obtain ⟨wz, hwz⟩ : ∃ wz, wz = w1.alloc (.cells #[.int .i64 0, .bool false, .slice none 0 0] 71) := ⟨_, rfl⟩
  rw [← hwz]
  have hs1e : w1.heap.size = w.heap.size := by rw [HW1.out]; simp
  have hbz : Below w1.heap.size w1 wz := by rw [hwz]; exact (Below.refl _ _).alloc (Nat.le_refl _) _
  have hz : wz.heap[w.heap.size]? = some (.cells #[.int .i64 0, .bool false, .slice none 0 0] 71 (0, 0)) := by rw [hwz, ← hs1e]; exact heap_alloc_new _ _
  have hsz : wz.heap.size = w.heap.size + 1 := by rw [hwz]; simp; omega
  have hkz : Kept w wz (fun x => x = a) := HK1.out.trans (Kept.ofBelow (F := fun x => x = a) hbz) (fun _ h => .inl h)
  have haz := (hbz.block a (by omega)).trans HA1.out
  replace q0 := (hbz.cell (p := ⟨a, 0, none⟩) (by show a < _; omega)).trans q0
  replace q1 := (hbz.cell (p := ⟨b, 0, none⟩) (by show b < _; omega)).trans q1
  replace p0 := (hbz.cell (p := ⟨g, m * 3, none⟩) (by show g < _; omega)).trans p0
  replace p1 := (hbz.cell (p := ⟨g, m * 3 + 1, none⟩) (by show g < _; omega)).trans p1
  replace p2 := (hbz.cell (p := ⟨g, m * 3 + 2, none⟩) (by show g < _; omega)).trans p2
  have la2 : a < wz.heap.size := by omega
  have lb2 : b < wz.heap.size := by omega
  have lg2 : g < wz.heap.size := by omega
  have HZ := Lib.hid hz
  have HKZ := Lib.hid hkz
  have HAZ := Lib.hid haz
  have HSZ := Lib.hid hsz
  have hdec : ((numO o : Int) == (n : Int) + 1) = decide (numO o = n + 1) := by
    by_cases hh : numO o = n + 1
    · rw [decide_eq_true hh, hh]; simp
    · rw [decide_eq_false hh]
      simp only [beq_eq_false_iff_ne, ne_eq]
      omega
  obtain ⟨dd, hdd⟩ : ∃ dd, dd = decide (numO o = n + 1) := ⟨_, rfl⟩
  obtain ⟨num, hnum⟩ : ∃ num, num = numO o := ⟨_, rfl⟩
  obtain ⟨lst, hlst⟩ : ∃ lst, lst = lastO o := ⟨_, rfl⟩
  rw [← hdd, ← hnum] at hdec
  rw [← hnum] at p0
  rw [← hlst] at p1
  have HDD := Lib.hid hdd
  have HNUM := Lib.hid hnum
  have HLST := Lib.hid hlst
  clear hz hkz haz hwz hbz hsz HK1 HA1 HB1 HW1 hs1e hs1 c0 z0 hdd hnum hlst
  go_region
  obtain ⟨g4, hg4⟩ : ∃ g4, g4 = wz.heap.size := ⟨_, rfl⟩
  obtain ⟨w4, hw4⟩ : ∃ w4, w4 = (wz.alloc (.cells #[.int .i64 (num : Int), .bool lst, .slice Au nu cu] 71)).drew := ⟨_, rfl⟩
  rw [← hg4, ← hw4]
  have hb4 : Below wz.heap.size wz w4 := by rw [hw4]; exact ((Below.refl _ _).alloc (Nat.le_refl _) _).drew
  have hn4 : w4.heap[g4]? = some (.cells #[.int .i64 (num : Int), .bool lst, .slice Au nu cu] 71 (0, 0)) := by rw [hw4, hg4]; exact heap_alloc_new wz _
  have hz4 := (hb4.block w.heap.size (by have := HSZ.out; omega)).trans HZ.out
  have ha4 := (hb4.block a la2).trans HAZ.out
  have r0 : w4.cell? ⟨g4, 0, none⟩ = some (.int .i64 (num : Int)) := (row7 hn4).1 0
  have r1 : w4.cell? ⟨g4, 1, none⟩ = some (.bool lst) := (row7 hn4).1 1
  have r2 : w4.cell? ⟨g4, 2, none⟩ = some (.slice Au nu cu) := (row7 hn4).1 2
  have s0 : w4.cell? ⟨w.heap.size, 0, none⟩ = some (.int .i64 0) := (row7 hz4).1 0
  have s1 : w4.cell? ⟨w.heap.size, 1, none⟩ = some (.bool false) := (row7 hz4).1 1
  have s2 : w4.cell? ⟨w.heap.size, 2, none⟩ = some (.slice none 0 0) := (row7 hz4).1 2
  have s3 := (row7 hz4).2 0
  have s4 := (row7 hz4).2 1
  have s5 := (row7 hz4).2 2
  have t0 : w4.cell? ⟨a, 0, none⟩ = some (.int .i64 ((n : Int) + 1)) := (row7 ha4).1 0
  have n1 : g4 ≠ w.heap.size := by have := HSZ.out; omega
  have n2 : a ≠ w.heap.size := by omega
  have n3 : a ≠ g4 := by omega
  have HB4 := Lib.hid hb4
  have HA4 := Lib.hid ha4
  clear hb4 hn4 hz4 ha4 hw4 hg4 p0 p1 p2 q0 q1
  go_wp2_with fail
  go_region
  all_goals go_wp2_with fail
  obtain ⟨W, hW⟩ : ∃ W, W = (((w4.setCell ⟨w.heap.size, 0, none⟩ (.int .i64 (num : Int))).setCell ⟨w.heap.size, 1, none⟩ (.bool lst)).setCell ⟨w.heap.size, 2, none⟩ (.slice Au nu cu)).drew := ⟨_, rfl⟩
  refine bodyPost_ret (v := .tuple #[.agg #[.int .i64 (num : Int), .bool lst, .slice Au nu cu], .bool dd]) (by rw [results_cell_tmp rfl]; go_simp) rfl ?_
  rw [show (((w4.setCell ⟨w.heap.size, 0, none⟩ (.int .i64 (num : Int))).setCell ⟨w.heap.size, 1, none⟩ (.bool lst)).setCell ⟨w.heap.size, 2, none⟩ (.slice Au nu cu)).drew = W from hW.symm]
  have k1 : Kept w4 W (fun x => x = w.heap.size) := by
    rw [hW]
    exact (((Kept.setCell w4 ⟨w.heap.size, 0, none⟩ _ (fun x => x = w.heap.size) rfl).trans (Kept.setCell _ ⟨w.heap.size, 1, none⟩ _ (fun x => x = w.heap.size) rfl) (fun _ h => .inl h)).trans (Kept.setCell _ ⟨w.heap.size, 2, none⟩ _ (fun x => x = w.heap.size) rfl) (fun _ h => .inl h)).trans (Kept.drew _ _) (fun _ h => .inl h)
  have k2 : Kept wz w4 (fun x => x = a) := Kept.ofBelow HB4.out
  have hK : Kept w W (fun x => x = a) := (HKZ.out.trans k2 (fun _ h => .inl h)).trans k1 (fun x hx => .inr (Nat.le_of_eq hx.symm))
  have haW : W.heap[a]? = some (.cells #[.int .i64 ((n : Int) + 1)] 3 (0, 0)) := (k1.block a (by have := HB4.out.size; omega) n2).trans HA4.out
  have hother : ∀ x, x < w.heap.size → x ≠ a → W.heap[x]? = w.heap[x]? := fun x hx hne => hK.block x hx hne
  refine ⟨Au, nu, cu, ?_, HRD.out.kept (fun _ h _ => h) hK.size (fun x hx hs => hother x hs (H.out.na x hx)), ⟨haW, (hother b lb (Ne.symm ab)).trans H.out.cb, H.out.there.kept (fun _ h _ => h) hK.size (hother g lg (Ne.symm ag)) (fun x hx hs => hother x hs (H.out.na x hx)), H.out.na⟩, hK⟩
  rw [HNUM.out, HLST.out, HDD.out]
end Go.Proofs.Ytlokehekkllbeaa
namespace Go.Proofs.Ytlokehekkllbeaa
open Go.RowKit

/-- the pieces of the first j sectors -/
def thereTo (S : List (List UInt8)) (j : Nat) : List (Option Pc) := (List.range S.length).map fun i => if i < j then pcOf (S.getD i []) i S.length else none
theorem thereTo_length (S : List (List UInt8)) (j : Nat) : (thereTo S j).length = S.length := by unfold thereTo; rw [List.length_map, List.length_range]
theorem thereTo_get (S : List (List UInt8)) (j i : Nat) (h : i < S.length) : (thereTo S j)[i]? = some (if i < j then pcOf (S.getD i []) i S.length else none) := by
  unfold thereTo
  rw [List.getElem?_map, List.getElem?_range h]
  rfl
theorem thereTo_next (S : List (List UInt8)) (j : Nat) : thereTo S (j + 1) = (thereTo S j).set j (pcOf (S.getD j []) j S.length) := by
  apply List.ext_getElem?
  intro i
  by_cases hi : i < S.length
  · rw [thereTo_get _ _ _ hi, List.getElem?_set, thereTo_length, thereTo_get _ _ _ hi]
    by_cases hj : j = i
    · subst hj
      rw [if_pos rfl, if_pos hi, if_pos (by omega)]
    · rw [if_neg hj]
      by_cases hl : i < j
      · rw [if_pos hl, if_pos (by omega)]
      · rw [if_neg hl, if_neg (by omega)]
  · rw [List.getElem?_eq_none (by rw [thereTo_length]; omega), List.getElem?_eq_none (by rw [List.length_set, thereTo_length]; omega)]
theorem thereTo_same (S : List (List UInt8)) (j : Nat) (h : pcOf (S.getD j []) j S.length = none) : thereTo S (j + 1) = thereTo S j := by
  rw [thereTo_next, h]
  apply List.ext_getElem?
  intro i
  rw [List.getElem?_set]
  by_cases hj : j = i
  · subst hj
    rw [if_pos rfl]
    by_cases hl : j < (thereTo S j).length
    · rw [if_pos hl, thereTo_get _ _ _ (by rw [thereTo_length] at hl; exact hl), if_neg (Nat.lt_irrefl _)]
    · rw [if_neg hl, List.getElem?_eq_none (by omega)]
  · rw [if_neg hj]

theorem info_PcR : (Try.prog.info? 71).map (fun i => (i.zero, i.size, i.bytes)) = some (some (.agg #[.int .i64 0, .bool false, .slice none 0 0]), 3, 40) := by kernel_rfl

/-- new memory for pieces: none is there -/
theorem there_made (w : World) (S : List (List UInt8)) (N : Nat → Prop) : ThereAt (w.alloc (.cells (madeCells (Value.agg #[.int .i64 0, .bool false, .slice none 0 0]).cells (S.length * 3)) 71)) N w.heap.size (thereTo S 0) := by
  refine ⟨_, heap_alloc_new w _, by rw [size_madeCells, thereTo_length], fun i o ho => ?_⟩
  have hi : i < S.length := by have := (List.getElem?_eq_some_iff.1 ho).1; rwa [thereTo_length] at this
  rw [thereTo_get _ _ _ hi, if_neg (Nat.not_lt_zero _)] at ho
  obtain rfl := (Option.some.inj ho).symm
  have key : ∀ k, k < S.length * 3 → (madeCells (Value.agg #[.int .i64 0, .bool false, .slice none 0 0]).cells (S.length * 3))[k]? = some ((#[.int .i64 0, .bool false, .slice none 0 0] : Array Value)[k % 3]!) := fun k hk => by
    unfold madeCells
    rw [Array.getElem?_map, Array.getElem?_range, if_pos hk]
    rfl
  refine ⟨none, 0, 0, ?_, ?_, ?_, RdN.nil _ _⟩
  · rw [key _ (by omega), Nat.mul_mod_left]; rfl
  · rw [key _ (by omega), show (i * 3 + 1) % 3 = 1 by omega]; rfl
  · rw [key _ (by omega), show (i * 3 + 2) % 3 = 2 by omega]; rfl
/-- a piece is noted -/
theorem ThereAt.put {w : World} {N : Nat → Prop} {g j : Nat} {L : List (Option Pc)} (h : ThereAt w N g L) (hj : j < L.length) (hN : ∀ x, N x → x ≠ g) (o : Option Pc) (Au : Option Addr) (nu cu : Nat) (hu : RdN w N (.slice Au nu cu) (dataO o)) :
    ThereAt (((w.setCell ⟨g, j * 3, none⟩ (.int .i64 (numO o : Int))).setCell ⟨g, j * 3 + 1, none⟩ (.bool (lastO o))).setCell ⟨g, j * 3 + 2, none⟩ (.slice Au nu cu)) N g (L.set j o) := by
  obtain ⟨C, h1, h2, h3⟩ := h
  have hb := Joins.block_setCell (Joins.block_setCell (Joins.block_setCell h1 (.int .i64 (numO o : Int)) (i := j * 3)) (.bool (lastO o)) (i := j * 3 + 1)) (.slice Au nu cu) (i := j * 3 + 2)
  have hk : ∀ x, N x → x < w.heap.size → (((w.setCell ⟨g, j * 3, none⟩ (.int .i64 (numO o : Int))).setCell ⟨g, j * 3 + 1, none⟩ (.bool (lastO o))).setCell ⟨g, j * 3 + 2, none⟩ (.slice Au nu cu)).heap[x]? = w.heap[x]? := fun x hx _ => by
    have := hN x hx
    rw [set_other this, set_other this, set_other this]
  refine ⟨_, hb, by simp only [Array.size_setIfInBounds, List.length_set]; exact h2, fun i o' ho => ?_⟩
  rw [List.getElem?_set] at ho
  have hC : C.size = L.length * 3 := h2
  by_cases hi : j = i
  · subst hi
    rw [if_pos rfl, if_pos hj] at ho
    obtain rfl := Option.some.inj ho
    refine ⟨Au, nu, cu, ?_, ?_, ?_, hu.kept (fun _ h _ => h) (by simp) hk⟩
    · rw [Array.getElem?_setIfInBounds_ne (by omega), Array.getElem?_setIfInBounds_ne (by omega), Array.getElem?_setIfInBounds_self_of_lt (by omega)]
    · rw [Array.getElem?_setIfInBounds_ne (by omega), Array.getElem?_setIfInBounds_self_of_lt (by simp only [Array.size_setIfInBounds]; omega)]
    · rw [Array.getElem?_setIfInBounds_self_of_lt (by simp only [Array.size_setIfInBounds]; omega)]
  · rw [if_neg hi] at ho
    obtain ⟨A', n', c', k1, k2, k3, k4⟩ := h3 i o' ho
    refine ⟨A', n', c', ?_, ?_, ?_, k4.kept (fun _ h _ => h) (by simp) hk⟩
    all_goals rw [Array.getElem?_setIfInBounds_ne (by omega), Array.getElem?_setIfInBounds_ne (by omega), Array.getElem?_setIfInBounds_ne (by omega)]
    · exact k1
    · exact k2
    · exact k3

/-- what a ring's sectors read as -/
def seen (D : DS) (first count : Nat) : List (List UInt8) := secs (setAll D.lasts D.waits) first count
theorem seen_length {D : DS} {first count : Nat} (h : first + count ≤ D.lasts.length) : (seen D first count).length = count := by unfold seen; exact secs_length (by rw [setAll_length]; exact h)
theorem seen_get {D : DS} {first count i : Nat} (h : first + count ≤ D.lasts.length) (hi : i < count) : (seen D first count).getD i [] = look D.lasts D.waits (first + i) := by
  unfold seen
  rw [secs_get hi, look_all _ _ _ (by omega)]

/-- what look's loop keeps -/
structure LookInv (w wr : World) (r q : Nat) (R : RG) (S : List (List UInt8)) (g j : Nat) : Prop where
  kept : Kept w wr (fun x => x = r)
  ring : RgAt wr r q { R with top := topTo S R.top j }
  there : ThereAt wr (fun x => w.heap.size < x) g (thereTo S j)
  top : topTo S R.top j ≤ 4611686018427387904
end Go.Proofs.Ytlokehekkllbeaa
namespace Go.Proofs.Ytlokehekkllbeaa
open Go.RowKit

theorem topTo_most (S : List (List UInt8)) (base : Nat) (hb : base ≤ 4611686018427387904) : ∀ j, topTo S base j ≤ 4611686018427387904 := by
  intro j
  induction j with
  | zero => exact hb
  | succ j ih =>
    rw [topTo_snoc]
    cases hp : pcOf (S.getD j []) j S.length with
    | none => exact ih
    | some p => have := (pcOf_fine hp).2.1; show max _ _ ≤ _; omega

theorem PcAt.form {w : World} {N : Nat → Prop} {o : Option Pc} {x : Value} (h : PcAt w N o x) : ∃ Au nu cu, x = .agg #[.int .i64 (numO o : Int), .bool (lastO o), .slice Au nu cu] ∧ RdN w N (.slice Au nu cu) (dataO o) := by
  obtain ⟨u, h1, h2⟩ := h
  obtain ⟨Au, cu, hue, -⟩ := id h2
  cases o with
  | none => exact ⟨Au, _, cu, by rw [h1, hue]; rfl, hue ▸ h2⟩
  | some p => exact ⟨Au, _, cu, by rw [h1, hue]; rfl, hue ▸ h2⟩

set_option maxHeartbeats 4000000 in
set_option maxRecDepth 100000 in
theorem plook_any {w : World} {G S : Nat → Prop} {r q : Nat} {R : RG} {D : DS} (h : RgAt w r q R) (hR : R.fine) (hD : PD w G S q D) (hF : Fine D) (hG : ∀ b, G b → b < w.heap.size ∧ b ≠ r) (hdead : D.dead = false) (hroom : R.first + R.count ≤ D.lasts.length) :
    Calls Try.prog 22 #[.pointer (some ⟨r, 0, none⟩)] w fun e w' => ∃ g, e = .returned (.tuple #[.slice (some ⟨g, 0, none⟩) R.count R.count, .int .i64 0]) ∧ w.heap.size ≤ g ∧ g < w'.heap.size ∧ LookInv w w' r q R (seen D R.first R.count) g R.count := by
  obtain ⟨ip, hip, hpz0, hpz1, hpz2⟩ := info_parts info_PcR
  have hsl := seen_length hroom
  obtain ⟨T, hT⟩ : ∃ T, T = seen D R.first R.count := ⟨_, rfl⟩
  rw [← hT] at hsl ⊢
  have i1 := hR.room
  have i2 := hR.pos
  have i3 := hR.most
  have c2 := h.c2
  have hmk := run_make (P := Try.prog) w 58 71 ip _ Try.underlying58 hip hpz0 .i64 .i64 (R.count : Int) (R.count : Int) (by omega) (Int.le_refl _) (by rw [hpz2]; omega) (by omega)
  rw [hpz1, Int.toNat_natCast] at hmk
  have htm := there_made w T (fun x => w.heap.size < x)
  rw [hsl] at htm
  obtain ⟨w1, hw1⟩ : ∃ w1, w1 = w.alloc (.cells (madeCells (Value.agg #[.int .i64 0, .bool false, .slice none 0 0]).cells (R.count * 3)) 71) := ⟨_, rfl⟩
  rw [← hw1] at hmk htm
  have hb1 : Below w.heap.size w w1 := by rw [hw1]; exact (Below.refl _ _).alloc (Nat.le_refl _) _
  have hz1 : w1.heap.size = w.heap.size + 1 := by rw [hw1]; simp
  have hinv0 : LookInv w w1 r q R T w.heap.size 0 := ⟨Kept.ofBelow hb1, h.kept (hb1.block r h.lt), htm, i3⟩
  have lr := h.lt
  have H := Lib.hid h
  have HD := Lib.hid hD
  have HF := Lib.hid hF
  have HG := Lib.hid hG
  have HT := Lib.hid hT
  have HI0 := Lib.hid hinv0
  obtain ⟨g0, hg0⟩ : ∃ g0, g0 = w.heap.size := ⟨_, rfl⟩
  have HG0 := Lib.hid hg0
  rw [← hg0] at HI0 hmk
  have hzz : g0 < w1.heap.size := by omega
  clear h hD hF hG hR htm hw1 hb1 hinv0 hT hg0
  go_enter Try.func22, Try.ntmps22
  go_wp2_with fail
  go_loopw [17] (fun v wr => ∃ j : Nat, v = .int .i64 j ∧ j ≤ R.count ∧ g0 < wr.heap.size ∧ Hid (LookInv w wr r q R T g0 j)) (fun v _ => R.count - (intOf v).toNat)
  case atStart => exact ⟨0, rfl, Nat.zero_le _, hzz, HI0⟩
  case round =>
    obtain ⟨j, rfl, hj, hgr, hinv⟩ := hrel
    clear HI0 hmk
    by_cases hjl : j < R.count
    · have a1 : (j : Int) < (R.count : Int) := by omega
      have a0 : (0 : Int) ≤ (j : Int) := by omega
      have hkw := hinv.out.kept
      have hsw := hkw.size
      have hrg := hinv.out.ring
      have hpd : PD wr.drew G S q D := HD.out.kept (fun _ h => h) (fun _ h => h) (fun b hb hm => hkw.block b hb (fun e => (HG.out b hm.1).2 e)) (fun b _ hi hb => hkw.block b hb (fun e => not_sec H.out (by decide) (e ▸ hi)))
      have hrd := pRead_any G S q D ((R.first : Int) + (j : Int)) wr.drew hpd HF.out.ok HF.out.lasts
      have hread : D.read ((R.first : Int) + (j : Int)) = (0, T.getD j []) := by
        unfold DS.read inside
        rw [hdead, decide_eq_true (by omega), decide_eq_true (by omega), HT.out, seen_get hroom hjl]
        rfl
      have hlen : (T.getD j []).length = 512 := by rw [HT.out, seen_get hroom hjl]; exact look_length HF.out.ok (by omega)
      rw [hread] at hrd
      have hwr : IntKind.i64.wrap ((R.first : Int) + (j : Int)) = (R.first : Int) + (j : Int) := by rw [IntKind.wrap_i64]; omega
      have hst : wr.drew.cell? ⟨r, 0, none⟩ = some (.pointer (some ⟨q, 0, none⟩)) ∧ wr.drew.cell? ⟨r, 1, none⟩ = some (.int .i64 (R.first : Int)) := ⟨hrg.c0, hrg.c1⟩
      have hkeep : ∀ W, Below wr.drew.heap.size wr.drew W → W.cell? ⟨r, 0, none⟩ = some (.pointer (some ⟨q, 0, none⟩)) ∧ W.cell? ⟨r, 1, none⟩ = some (.int .i64 (R.first : Int)) := fun W hW =>
        ⟨(hW.cell (p := ⟨r, 0, none⟩) hrg.lt).trans hst.1, (hW.cell (p := ⟨r, 1, none⟩) hrg.lt).trans hst.2⟩
      have HRD := Lib.hid hrd
      have HK := Lib.hid hkeep
      have HKW := Lib.hid hkw
      have HRG := Lib.hid hrg
      clear hrd hkeep hkw hrg hpd hread
      go_upto_region 5 with fail
      go_region_held3 (fun w' => w'.cell? ⟨r, 0, none⟩ = some (.pointer (some ⟨q, 0, none⟩)) ∧ w'.cell? ⟨r, 1, none⟩ = some (.int .i64 (R.first : Int))) (first | exact hst | exact hst2)
        (first
          | (go_at_call 26; refine HRD.out.mono ?_; rintro e w2 ⟨v2, n2, rfl, hn2, ho2, hb2⟩; have hst2 := HK.out w2 hb2))
      obtain ⟨s, hs⟩ : ∃ s, s = T.getD j [] := ⟨_, rfl⟩
      have ho2' : w2.ownsRow wr.drew.heap.size 85 1 v2 n2 (BS s) := by rw [hs]; exact ho2
      have hr2 := Rd.own ho2'
      obtain ⟨A2, c2', hv2, -⟩ := id hr2
      have hv2' : ∃ A n c, v2 = .slice A n c := ⟨_, _, _, hv2⟩
      clear hv2
      obtain ⟨A2, m2, c2', rfl⟩ := hv2'
      rw [← hs] at hlen
      have hpi := ppieceIn_any s _ w2 hr2 hlen
      obtain ⟨o, ho⟩ : ∃ o, o = pcIn s := ⟨_, rfl⟩
      rw [← ho] at hpi
      have hpc : pcOf s j R.count = o.filter fun p => p.n % R.count == j := by rw [ho]; exact pcOf_pcIn hlen j R.count
      have hfi : ∀ p, o = some p → p.fine := fun p hp => (pcIn_some hlen (ho.symm.trans hp)).1
      have hTj : T.getD j [] = s := hs.symm
      have hb2w : Below wr.heap.size wr w2 := (Below.refl _ _).drew.trans hb2
      have HPC := Lib.hid hpc
      have HFI := Lib.hid hfi
      have HTJ := Lib.hid hTj
      have HB2 := Lib.hid hb2w
      clear ho2 ho2' hr2 hs hpc hfi hTj hb2w hst2 hst ho hb2 hn2 hlen HRD HK
      go_wp2_with fail
      refine hpi.mono ?_
      rintro e w3 ⟨x, rfl, hx, hb3⟩
      clear hpi
      obtain ⟨Au, nu, cu, rfl, hu3⟩ := hx.form
      have hs2 := HB2.out.size
      have hs3 := hb3.size
      have hb3w : Below wr.heap.size wr w3 := HB2.out.trans (Joins.below_le hb3 HB2.out.size)
      have HU3 := Lib.hid hu3
      have HB3 := Lib.hid hb3w
      obtain ⟨num, hnum⟩ : ∃ num, num = numO o := ⟨_, rfl⟩
      obtain ⟨lst, hlst⟩ : ∃ lst, lst = lastO o := ⟨_, rfl⟩
      rw [← hnum, ← hlst]
      obtain ⟨w4, hw4⟩ : ∃ w4, w4 = w3.alloc (.cells #[.int .i64 (num : Int), .bool lst, .slice Au nu cu] 71) := ⟨_, rfl⟩
      have HW4 := Lib.hid hw4
      have hn4 : w4.heap[w3.heap.size]? = some (.cells #[.int .i64 (num : Int), .bool lst, .slice Au nu cu] 71 (0, 0)) := by rw [hw4]; exact heap_alloc_new _ _
      have hb4 : Below w3.heap.size w3 w4 := by rw [hw4]; exact (Below.refl _ _).alloc (Nat.le_refl _) _
      have hb4w : Below wr.heap.size wr w4 := hb3w.trans (Joins.below_le hb4 hb3w.size)
      have hinv4 : LookInv w w4 r q R T g0 j := ⟨HKW.out.trans (Kept.ofBelow hb4w) (fun _ h => .inl h), HRG.out.kept (hb4w.block r HRG.out.lt), hinv.out.there.kept (fun _ h _ => h) hb4w.size (hb4w.block g0 hgr) (fun b _ hb => hb4w.block b hb), hinv.out.top⟩
      have hu4 : RdN w4 (fun x => w.heap.size < x) (.slice Au nu cu) (dataO o) := hu3.kept (fun b hb _ => by have := HG0.out; omega) hb4.size (fun b _ hb => hb4.block b hb)
      have p0 : w4.cell? ⟨w3.heap.size, 0, none⟩ = some (.int .i64 (num : Int)) := (row7 hn4).1 0
      have p1 : w4.cell? ⟨w3.heap.size, 1, none⟩ = some (.bool lst) := (row7 hn4).1 1
      have p2 : w4.cell? ⟨w3.heap.size, 2, none⟩ = some (.slice Au nu cu) := (row7 hn4).1 2
      have k2 : w4.cell? ⟨r, 2, none⟩ = some (.int .i64 (R.count : Int)) := hinv4.ring.c2
      have HINV4 := Lib.hid hinv4
      have HU4 := Lib.hid hu4
      have HNUM := Lib.hid hnum
      have HLST := Lib.hid hlst
      have hs4 := hb4.size
      have hg4 : g0 < w4.heap.size := by omega
      have hsz4 : w3.heap.size < w4.heap.size := (Array.getElem?_eq_some_iff.1 hn4).1
      clear hw4 hn4 hb4 hb4w hinv4 hu4 hu3 hb3w hx hnum hlst hb3
      cases o with
      | none =>
        have hno : pcOf s j R.count = none := HPC.out
        have HNO := Lib.hid hno
        clear hno
        go_upto_region 9 with fail
        rw [← HW4.out]
        go_quiet (fail)
        have hnx : LookInv w (w4.drewN nq) r q R T g0 (j + 1) := by
          have hh : pcOf (T.getD j []) j T.length = none := by rw [HTJ.out, hsl]; exact HNO.out
          have ht : topTo T R.top (j + 1) = topTo T R.top j := by rw [topTo_snoc, hh]
          refine ⟨HINV4.out.kept.trans ⟨rfl, rfl, rfl, Nat.le_refl _, fun _ _ _ => rfl⟩ (fun _ h => .inl h), ?_, ?_, ?_⟩
          · rw [ht]; exact HINV4.out.ring
          · rw [thereTo_same _ _ hh]; exact HINV4.out.there
          · rw [ht]; exact HINV4.out.top
        have HNX := Lib.hid hnx
        clear hnx p0 p1 p2 k2
        go_wp2_with fail
        exact ⟨⟨j + 1, by go_num, hjl, hg4, HNX⟩, by simp [intOf]; omega⟩
      | some p =>
        have hnp : num = p.n := HNUM.out
        have hfine := HFI.out p rfl
        have hn1 := hfine.1
        have hn2 := hfine.2.1
        have hcz : ¬ R.count = 0 := by omega
        have hmod : (num : Int).tmod (R.count : Int) = ((num % R.count : Nat) : Int) := by rw [Int.tmod_eq_emod_of_nonneg (by omega)]; exact (Int.natCast_emod _ _).symm
        obtain ⟨m, hm⟩ : ∃ m, m = num % R.count := ⟨_, rfl⟩
        rw [← hm] at hmod
        have hpc : pcOf s j R.count = if m = j then some p else none := by
          rw [HPC.out]
          by_cases h : m = j
          · rw [if_pos h]; exact Option.filter_eq_some_iff.2 ⟨rfl, by rw [beq_iff_eq, ← hnp, ← hm]; exact h⟩
          · rw [if_neg h]; exact Option.filter_eq_none_iff.2 fun q hq => by obtain rfl := Option.some.inj hq; rw [beq_iff_eq, ← hnp, ← hm]; exact h
        have HNP := Lib.hid hnp
        have hn1' : 1 ≤ num := by omega
        have hn2' : num ≤ 4611686018427387904 := by omega
        clear hm hfine hnp hn1 hn2
        by_cases hmj : m = j
        · have hme : ((m : Int) == (j : Int)) = true := by rw [hmj]; simp
          rw [if_pos hmj] at hpc
          have HPC2 := Lib.hid hpc
          clear hpc hmj
          go_upto_region 9 with fail
          rw [← HW4.out]
          go_quiet (fail)
          obtain ⟨w5, hw5⟩ : ∃ w5, w5 = w4.drewN nq := ⟨_, rfl⟩
          rw [← hw5]
          have hinv5 : LookInv w w5 r q R T g0 j := by rw [hw5]; exact ⟨HINV4.out.kept.trans ⟨rfl, rfl, rfl, Nat.le_refl _, fun _ _ _ => rfl⟩ (fun _ h => .inl h), HINV4.out.ring, HINV4.out.there, HINV4.out.top⟩
          have hu5 : RdN w5 (fun x => w.heap.size < x) (.slice Au nu cu) (dataO (some p)) := by rw [hw5]; exact HU4.out
          have p0' : w5.cell? ⟨w3.heap.size, 0, none⟩ = some (.int .i64 (num : Int)) := by rw [hw5]; exact p0
          have p1' : w5.cell? ⟨w3.heap.size, 1, none⟩ = some (.bool lst) := by rw [hw5]; exact p1
          have p2' : w5.cell? ⟨w3.heap.size, 2, none⟩ = some (.slice Au nu cu) := by rw [hw5]; exact p2
          have hs5 : w5.heap.size = w4.heap.size := by rw [hw5]; rfl
          obtain ⟨C, hC, hCs, -⟩ := hinv5.there
          rw [thereTo_length, hsl] at hCs
          have e0 : w5.cell? ⟨g0, j * 3, none⟩ = some (C[j * 3]'(by omega)) := ((row7 hC).1 _).trans (Array.getElem?_eq_getElem (by omega))
          have e1 : w5.cell? ⟨g0, j * 3 + 1, none⟩ = some (C[j * 3 + 1]'(by omega)) := ((row7 hC).1 _).trans (Array.getElem?_eq_getElem (by omega))
          have e2 : w5.cell? ⟨g0, j * 3 + 2, none⟩ = some (C[j * 3 + 2]'(by omega)) := ((row7 hC).1 _).trans (Array.getElem?_eq_getElem (by omega))
          generalize C[j * 3]'(by omega) = y0 at e0
          generalize C[j * 3 + 1]'(by omega) = y1 at e1
          generalize C[j * 3 + 2]'(by omega) = y2 at e2
          have f0 := (row7 hC).2 (j * 3)
          have f1 := (row7 hC).2 (j * 3 + 1)
          have f2 := (row7 hC).2 (j * 3 + 2)
          have hput := hinv5.there.put (j := j) (by rw [thereTo_length]; omega) (fun x hx => by have := HG0.out; omega) (some p) Au nu cu hu5
          rw [← HNUM.out, ← HLST.out] at hput
          have HPUT := Lib.hid hput
          have HINV5 := Lib.hid hinv5
          have ng : w3.heap.size ≠ g0 := by omega
          have ngr : r ≠ g0 := by have := HG0.out; omega
          clear p0 p1 p2 k2 hw5 hC hCs hput hinv5 hu5
          go_upto_region 11 with fail
          obtain ⟨w6, hw6⟩ : ∃ w6, w6 = ((w5.setCell ⟨g0, j * 3, none⟩ (.int .i64 (num : Int))).setCell ⟨g0, j * 3 + 1, none⟩ (.bool lst)).setCell ⟨g0, j * 3 + 2, none⟩ (.slice Au nu cu) := ⟨_, rfl⟩
          rw [← hw6]
          rw [← hw6] at HPUT
          have ho6 : ∀ x, x ≠ g0 → w6.heap[x]? = w5.heap[x]? := fun x hx => by rw [hw6, set_other hx, set_other hx, set_other hx]
          have hs6 : w6.heap.size = w5.heap.size := by rw [hw6]; simp
          have hrg6 : RgAt w6 r q { R with top := topTo T R.top j } := HINV5.out.ring.kept (ho6 r ngr)
          have hkk6 : Kept w w6 (fun x => x = r) := by
            have k6 : Kept w5 w6 (fun x => x = g0) := by
              rw [hw6]
              exact ((Kept.setCell w5 ⟨g0, j * 3, none⟩ _ (fun x => x = g0) rfl).trans (Kept.setCell _ ⟨g0, j * 3 + 1, none⟩ _ (fun x => x = g0) rfl) (fun _ h => .inl h)).trans (Kept.setCell _ ⟨g0, j * 3 + 2, none⟩ _ (fun x => x = g0) rfl) (fun _ h => .inl h)
            exact HINV5.out.kept.trans k6 (fun x hx => .inr (by have := HG0.out; omega))
          have q0 : w6.cell? ⟨w3.heap.size, 0, none⟩ = some (.int .i64 (num : Int)) := (World.cell?_of_block (a := ⟨w3.heap.size, 0, none⟩) (ho6 _ ng)).trans p0'
          have q5 : w6.cell? ⟨r, 5, none⟩ = some (.int .i64 ((topTo T R.top j : Nat) : Int)) := hrg6.c5
          have z5 := hrg6.fz 5
          obtain ⟨tp, htp⟩ : ∃ tp, tp = topTo T R.top j := ⟨_, rfl⟩
          rw [← htp] at q5
          have HRG6 := Lib.hid hrg6
          have HKK6 := Lib.hid hkk6
          have HTP := Lib.hid htp
          have nr : w3.heap.size ≠ r := by have := HG0.out; omega
          clear hw6 ho6 hrg6 hkk6 htp p0' p1' p2' e0 e1 e2 f0 f1 f2
          go_region
          have hmx : (if tp < num then (num : Int) else (tp : Int)) = ((max tp num : Nat) : Int) := by split <;> omega
          have hnx : LookInv w (w6.setCell ⟨r, 5, none⟩ (.int .i64 (if tp < num then (num : Int) else (tp : Int)))).drew r q R T g0 (j + 1) := by
            have hh : pcOf (T.getD j []) j T.length = some p := by rw [HTJ.out, hsl]; exact HPC2.out
            have ht : topTo T R.top (j + 1) = max tp num := by rw [topTo_snoc, hh, HTP.out, HNP.out]
            rw [hmx]
            refine ⟨(HKK6.out.trans (Kept.setCell _ ⟨r, 5, none⟩ _ (fun x => x = r) rfl) (fun _ h => .inl h)).trans (Kept.drew _ _) (fun _ h => .inl h), ?_, ?_, ?_⟩
            · rw [ht]; exact HRG6.out.top (max tp num)
            · rw [thereTo_next, hh]
              exact HPUT.out.kept (fun _ h _ => h) (by simp) (set_other (Ne.symm ngr)) (fun b hb _ => set_other (by have := HG0.out; show b ≠ r; omega))
            · exact topTo_most _ _ i3 _
          have HNX := Lib.hid hnx
          have hgl6 : g0 < (w6.setCell ⟨r, 5, none⟩ (.int .i64 (if tp < num then (num : Int) else (tp : Int)))).drew.heap.size := by simp; omega
          clear hnx hmx q0 q5 z5
          go_wp2_with fail
          exact ⟨⟨j + 1, by go_num, hjl, hgl6, HNX⟩, by simp [intOf]; omega⟩
        · have hme : ((m : Int) == (j : Int)) = false := by simp; omega
          rw [if_neg hmj] at hpc
          have HNO := Lib.hid hpc
          clear hpc
          go_upto_region 9 with fail
          rw [← HW4.out]
          go_quiet (fail)
          have hnx : LookInv w (w4.drewN nq) r q R T g0 (j + 1) := by
            have hh : pcOf (T.getD j []) j T.length = none := by rw [HTJ.out, hsl]; exact HNO.out
            have ht : topTo T R.top (j + 1) = topTo T R.top j := by rw [topTo_snoc, hh]
            refine ⟨HINV4.out.kept.trans ⟨rfl, rfl, rfl, Nat.le_refl _, fun _ _ _ => rfl⟩ (fun _ h => .inl h), ?_, ?_, ?_⟩
            · rw [ht]; exact HINV4.out.ring
            · rw [thereTo_same _ _ hh]; exact HINV4.out.there
            · rw [ht]; exact HINV4.out.top
          have HNX := Lib.hid hnx
          clear hnx p0 p1 p2 k2
          go_wp2_with fail
          exact ⟨⟨j + 1, by go_num, hjl, hg4, HNX⟩, by simp [intOf]; omega⟩
    · have a1 : ¬ (j : Int) < (R.count : Int) := by omega
      obtain rfl : j = R.count := by omega
      go_wp2_with fail
      go_ret2
      exact ⟨g0, rfl, by have := HG0.out; omega, hgr, hinv.out⟩
end Go.Proofs.Ytlokehekkllbeaa
namespace Go.Proofs.Ytlokehekkllbeaa
open Go.RowKit

theorem own_slice {w : World} {base : Nat} {e : TypeId} {size : Nat} {v : Value} {n : Nat} {xs : List Value} (h : w.ownsRow base e size v n xs) : ∃ A c, v = .slice A n c := by
  rcases h.2 with ⟨rfl, h0⟩ | ⟨g, cap, cur, rfl, _⟩
  · subst h0; exact ⟨none, 0, rfl⟩
  · exact ⟨_, cap, rfl⟩

section
variable {P : Program} {w : World}
theorem run_appAt (base : Nat) (t ty e : TypeId) (i : TypeInfo) (z : Value) (size bytes : Nat) (ht : P.underlying t = some (.slice e)) (hi : P.info? e = some i) (hz : i.zero = some z) (hsize : i.size = size) (hby : i.bytes = bytes) (hzs : z.cells.size = size) (hsz : 0 < size)
    (v x : Value) (n : Nat) (xs : List Value) (hown : w.ownsRow base e size v n xs) (m : Nat) (ys : List Value) (hx : RowAt w x m size ys) (h1 : ∀ u ∈ ys, u.oneCell' = true) (h63 : n + m ≤ maxLen) (hbytes : (n + m) * bytes ≤ 140737488355328) (hbase : base ≤ w.heap.size) :
    ∃ A c w', (Builtin.append_ #[t, t] ty #[v, x]).run P w = .ok (.slice A (n + m) c) w' ∧ w'.ownsRow base e size (.slice A (n + m) c) (n + m) (xs ++ ys) ∧ w.grownBy w' v.ownBlock ∧ ((Value.slice A (n + m) c).ownBlock = v.ownBlock ∨ (Value.slice A (n + m) c).ownBlock = some w.heap.size) := by
  obtain ⟨A, c, rfl, hl, hmc, hcm, h3, h4⟩ := hx
  cases A with
  | none =>
    have hc := h3 rfl
    have hm : m = 0 := by omega
    subst hm
    subst hc
    have hys : ys = [] := List.eq_nil_of_length_eq_zero (by omega)
    subst hys
    obtain ⟨A0, c0, rfl⟩ := own_slice hown
    exact ⟨A0, c0, w, run_append_owned_none w base t ty e i size ht hi _ n xs hown, by simpa using hown, ⟨rfl, rfl, rfl, Nat.le_refl _, fun _ _ _ => rfl⟩, .inl rfl⟩
  | some ad =>
    obtain ⟨v', w', hr, k2, k3, _, k5⟩ := run_append_own_at (P := P) w base t ty e i z size bytes ht hi hz hsize hby hzs hsz v n xs hown ad m c ys hl
      (fun j u hj => by
        obtain ⟨b, o, hA, hc⟩ := h4 (by
          rcases Nat.eq_zero_or_pos m with h0 | h0
          · subst h0
            have : ys = [] := List.eq_nil_of_length_eq_zero (by omega)
            subst this
            simp at hj
          · exact h0)
        injection hA with hA
        subst hA
        rw [plus_zero]
        exact hc j u hj) h1 h63 hbytes hbase
    obtain ⟨A0, c0, rfl⟩ := own_slice k2
    exact ⟨A0, c0, w', hr, k2, k3, k5⟩
theorem wpList_appAt {ops : Array Oper} {rest : List Oper} {o : Oper} {a : Act} {Q : Exit → Act → World → Prop} (hgd : o.guard = none) (s x : Operand) (t : TypeId)
    (ho : o.op = .call { callee := .builtin .append, args := #[s, x], argTypes := #[t, t] })
    (base : Nat) (e : TypeId) (i : TypeInfo) (z : Value) (size bytes : Nat) (ht : P.underlying t = some (.slice e)) (hi : P.info? e = some i) (hz : i.zero = some z) (hsize : i.size = size) (hby : i.bytes = bytes) (hzs : z.cells.size = size) (hsz : 0 < size)
    (v y : Value) (n : Nat) (xs : List Value) (m : Nat) (ys : List Value) (hs : a.eval s = v) (hy : a.eval x = y) (hown : w.ownsRow base e size v n xs) (hx : RowAt w y m size ys) (h1 : ∀ u ∈ ys, u.oneCell' = true)
    (h63 : n + m ≤ maxLen) (hbytes : (n + m) * bytes ≤ 140737488355328) (hbase : base ≤ w.heap.size)
    (h : ∀ A c w', w'.ownsRow base e size (.slice A (n + m) c) (n + m) (xs ++ ys) → w.grownBy w' v.ownBlock → ((Value.slice A (n + m) c).ownBlock = v.ownBlock ∨ (Value.slice A (n + m) c).ownBlock = some w.heap.size) → wpList P ops Q rest (a.put o.dst (.slice A (n + m) c)) w') : wpList P ops Q (o :: rest) a w := by
  refine wpList_plain hgd fun K hK => ?_
  obtain ⟨A, c, w', hr, h2, h3, h4⟩ := run_appAt (P := P) (w := w) base t o.type e i z size bytes ht hi hz hsize hby hzs hsz v y n xs hown m ys hx h1 h63 hbytes hbase
  unfold Oper.wp execOp
  simp only [ho, resolve, invoke, builtin, Sem.run_bind, Sem.run_pure, Result.andThen_ok, List.map_toArray, List.map_cons, List.map_nil, hs, hy, hr]
  exact hK _ _ (h A c w' h2 h3 h4)
end
theorem Rd.rowAt {w : World} {B : Nat} {v : Value} {l : List UInt8} (h : Rd w B v l) : RowAt w v l.length 1 (BS l) := by
  obtain ⟨A, c, rfl, h1, h2, h3, h4⟩ := h
  refine ⟨A, c, rfl, by rw [BS_length, Nat.mul_one], h1, h2, h3, fun hn => ?_⟩
  obtain ⟨b, o, rfl, _, hc⟩ := h4 (by intro e; rw [e] at hn; exact absurd hn (Nat.lt_irrefl _))
  refine ⟨b, o, rfl, fun j u hu => ?_⟩
  obtain ⟨x, hx, rfl⟩ := BS_get hu
  exact hc j x hx

/-- cells that read as lists of bytes, all of them in blocks of N -/
def Els (w : World) (N : Nat → Prop) (xs : List Value) (Ls : List (List UInt8)) : Prop := xs.length = Ls.length ∧ ∀ (i : Nat) (l : List UInt8), Ls[i]? = some l → ∃ (A : Option Addr) (n c : Nat), xs[i]? = some (Value.slice A n c) ∧ RdN w N (Value.slice A n c) l
theorem Els.kept {w w' : World} {N N' : Nat → Prop} {xs : List Value} {Ls : List (List UInt8)} (h : Els w N xs Ls) (hN : ∀ b, N b → b < w.heap.size → N' b) (hs : w.heap.size ≤ w'.heap.size) (hk : ∀ b, N b → b < w.heap.size → w'.heap[b]? = w.heap[b]?) : Els w' N' xs Ls :=
  ⟨h.1, fun i l hl => by obtain ⟨A, n, c, h1, h2⟩ := h.2 i l hl; exact ⟨A, n, c, h1, h2.kept hN hs hk⟩⟩
theorem Els.nil (w : World) (N : Nat → Prop) : Els w N [] [] := ⟨rfl, fun i l h => by simp at h⟩
theorem Els.snoc {w : World} {N : Nat → Prop} {xs : List Value} {Ls : List (List UInt8)} (h : Els w N xs Ls) {A : Option Addr} {n c : Nat} {l : List UInt8} (hl : RdN w N (.slice A n c) l) : Els w N (xs ++ [Value.slice A n c]) (Ls ++ [l]) := by
  refine ⟨by simp [h.1], fun i l' hi => ?_⟩
  by_cases hlt : i < Ls.length
  · rw [List.getElem?_append_left hlt] at hi
    rw [List.getElem?_append_left (by rw [h.1]; exact hlt)]
    exact h.2 i l' hi
  · have hil : i = Ls.length := by
      have := (List.getElem?_eq_some_iff.1 hi).1
      simp at this
      omega
    subst hil
    rw [List.getElem?_append_right (Nat.le_refl _), Nat.sub_self] at hi
    rw [List.getElem?_append_right (by rw [h.1]; exact Nat.le_refl _), h.1, Nat.sub_self]
    simp at hi
    subst hi
    exact ⟨A, n, c, rfl, hl⟩
theorem Els.one {w : World} {N : Nat → Prop} {xs : List Value} {Ls : List (List UInt8)} (h : Els w N xs Ls) : ∀ u ∈ xs, u.oneCell' = true := by
  intro u hu
  obtain ⟨i, hi, rfl⟩ := List.getElem_of_mem hu
  obtain ⟨A, n, c, h1, _⟩ := h.2 i (Ls[i]'(by rw [← h.1]; exact hi)) (List.getElem?_eq_getElem _)
  rw [List.getElem?_eq_getElem hi] at h1
  injection h1 with h1
  rw [h1]
  rfl
/-- the slice reads as lists of bytes; its own block in M -/
def LLN (w : World) (M N : Nat → Prop) (v : Value) (Ls : List (List UInt8)) : Prop := ∃ xs, Els w N xs Ls ∧ ∃ (A : Option Addr) (c : Nat), v = Value.slice A Ls.length c ∧ Ls.length ≤ c ∧ c ≤ maxLen ∧ (A = none → c = 0) ∧ (Ls ≠ [] → ∃ b o, A = some ⟨b, o, none⟩ ∧ M b ∧ b < w.heap.size ∧ ∀ (j : Nat) (u : Value), xs[j]? = some u → w.cell? ⟨b, o + j, none⟩ = some u)
theorem LLN.kept {w w' : World} {M N M' N' : Nat → Prop} {v : Value} {Ls : List (List UInt8)} (h : LLN w M N v Ls) (hM : ∀ b, M b → b < w.heap.size → M' b) (hN : ∀ b, N b → b < w.heap.size → N' b) (hs : w.heap.size ≤ w'.heap.size) (hk : ∀ b, (M b ∨ N b) → b < w.heap.size → w'.heap[b]? = w.heap[b]?) : LLN w' M' N' v Ls := by
  obtain ⟨xs, h1, A, c, rfl, h2, h3, h4, h5⟩ := h
  refine ⟨xs, h1.kept hN hs (fun b hb => hk b (.inr hb)), A, c, rfl, h2, h3, h4, fun hn => ?_⟩
  obtain ⟨b, o, rfl, hb, hs', hc⟩ := h5 hn
  exact ⟨b, o, rfl, hM b hb hs', by omega, fun i x hx => (World.cell?_of_block (a := ⟨b, o + i, none⟩) (hk b (.inl hb) hs')).trans (hc i x hx)⟩
theorem LLN.own {w : World} {base : Nat} {v : Value} {n : Nat} {xs : List Value} {Ls : List (List UInt8)} {M N : Nat → Prop} (h : w.ownsRow base 39 1 v n xs) (he : Els w N xs Ls) (hM : ∀ b, v.ownBlock = some b → M b) : LLN w M N v Ls := by
  have hn : n = Ls.length := by have := h.1; have := he.1; omega
  subst hn
  refine ⟨xs, he, ?_⟩
  rcases h.2 with ⟨rfl, h0⟩ | ⟨g, cap, cur, rfl, _, hg, hnc, hcm, _, _⟩
  · exact ⟨none, 0, by rw [h0], by omega, by unfold maxLen; omega, fun _ => rfl, fun hne => absurd (List.eq_nil_of_length_eq_zero h0) hne⟩
  · refine ⟨_, cap, rfl, hnc, hcm, (fun h => by cases h), fun hne => ⟨g, 0, rfl, hM g rfl, (Array.getElem?_eq_some_iff.1 hg).1, fun i x hx => ?_⟩⟩
    have hc := h.cells (g := g) rfl i x hx
    rw [plus_zero] at hc
    exact hc
end Go.Proofs.Ytlokehekkllbeaa
