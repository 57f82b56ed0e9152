/-
  The program's ring: the pieces that are there, one by one. No statement is proved here. No condition.
-/
import Derived.Test.YtplpfhgdanclhaaRAppend
namespace Go.Proofs.Ytplpfhgdanclhaa
open Go.RowKit

def numO : Option Pc → Nat
  | none => 0
  | some p => p.n
def lastO : Option Pc → Bool
  | none => false
  | some p => p.last
def dataO : Option Pc → List UInt8
  | none => []
  | some p => p.data

/-- block g has the pieces L -/
def ThereAt (w : World) (N : Nat → Prop) (g : Nat) (L : List (Option Pc)) : Prop :=
  ∃ C : Array Value, w.heap[g]? = some (.cells C 81 (0, 0)) ∧ C.size = L.length * 3 ∧
    ∀ (i : Nat) (o : Option Pc), L[i]? = some o → ∃ Au nu cu, C[i * 3]? = some (.int .i64 (numO o : Int)) ∧ C[i * 3 + 1]? = some (.bool (lastO o)) ∧ C[i * 3 + 2]? = some (.slice Au nu cu) ∧ RdN w N (.slice Au nu cu) (dataO o)
theorem ThereAt.kept {w w' : World} {N N' : Nat → Prop} {g : Nat} {L : List (Option Pc)} (h : ThereAt w N g L) (hN : ∀ b, N b → b < w.heap.size → N' b) (hs : w.heap.size ≤ w'.heap.size) (hg : w'.heap[g]? = w.heap[g]?) (hk : ∀ b, N b → b < w.heap.size → w'.heap[b]? = w.heap[b]?) : ThereAt w' N' g L := by
  obtain ⟨C, h1, h2, h3⟩ := h
  refine ⟨C, hg.trans h1, h2, fun i o ho => ?_⟩
  obtain ⟨Au, nu, cu, k1, k2, k3, k4⟩ := h3 i o ho
  exact ⟨Au, nu, cu, k1, k2, k3, k4.kept hN hs hk⟩

/-- where a walk over pieces stands -/
structure RunSt (w : World) (N : Nat → Prop) (a b g : Nat) (L : List (Option Pc)) (n : Nat) : Prop where
  ca : w.heap[a]? = some (.cells #[.int .i64 (n : Int)] 3 (0, 0))
  cb : w.heap[b]? = some (.cells #[.slice (some ⟨g, 0, none⟩) L.length L.length] 69 (0, 0))
  there : ThereAt w N g L
  na : ∀ x, N x → x ≠ a
theorem RunSt.ab {w : World} {N : Nat → Prop} {a b g : Nat} {L : List (Option Pc)} {n : Nat} (h : RunSt w N a b g L n) : a ≠ b ∧ a ≠ g := by
  refine ⟨?_, ?_⟩
  · rintro rfl
    have := h.ca.symm.trans h.cb
    injection this with this
    injection this with _ this
    exact absurd this (by decide)
  · rintro rfl
    obtain ⟨C, h1, -⟩ := h.there
    have := h.ca.symm.trans h1
    injection this with this
    injection this with _ this
    exact absurd this (by decide)
theorem RunSt.kept {w w' : World} {N : Nat → Prop} {a b g : Nat} {L : List (Option Pc)} {n : Nat} (h : RunSt w N a b g L n) (hs : w.heap.size ≤ w'.heap.size) (hk : ∀ x, x < w.heap.size → (x = a ∨ x = b ∨ x = g ∨ N x) → w'.heap[x]? = w.heap[x]?) : RunSt w' N a b g L n :=
  ⟨(hk a (Array.getElem?_eq_some_iff.1 h.ca).1 (.inl rfl)).trans h.ca, (hk b (Array.getElem?_eq_some_iff.1 h.cb).1 (.inr (.inl rfl))).trans h.cb, h.there.kept (fun _ h _ => h) hs (hk g (by obtain ⟨C, h1, -⟩ := h.there; exact (Array.getElem?_eq_some_iff.1 h1).1) (.inr (.inr (.inl rfl)))) (fun x hx hl => hk x hl (.inr (.inr (.inr hx)))), h.na⟩

theorem prun_any (g : Nat) (N : Nat → Prop) (L : List (Option Pc)) (base : Nat) (w : World) (h : ThereAt w N g L) (hN : ∀ x, N x → x < w.heap.size) :
    Calls Try.prog 54 #[.slice (some ⟨g, 0, none⟩) L.length L.length, .int .i64 (base : Int)] w fun e w' => ∃ a b, e = .returned (.func (.func 63) #[] #[.pointer (some ⟨a, 0, none⟩), .pointer (some ⟨b, 0, none⟩)]) ∧ RunSt w' N a b g L base ∧ w.heap.size ≤ a ∧ w.heap.size ≤ b ∧ Below w.heap.size w w' := by
  have hmf : ∀ (fn : Fn) (first cap : Array Value) (w : World), (Instr.makeFunc fn first cap).run Try.prog w = .ok (.func fn first cap) w := fun _ _ _ _ => rfl
  have H := Lib.hid h
  clear h
  go_enter Try.func54, Try.ntmps54
  go_wp2_with fail
  go_ret
  have hgl : g < w.heap.size := by obtain ⟨C, h1, -⟩ := H.out; exact (Array.getElem?_eq_some_iff.1 h1).1
  have h1 : (w.alloc (.cells #[.slice (some ⟨g, 0, none⟩) L.length L.length] 69)).heap.size = w.heap.size + 1 := by simp
  have hb : Below w.heap.size w ((w.alloc (.cells #[.slice (some ⟨g, 0, none⟩) L.length L.length] 69)).alloc (.cells #[.int .i64 (base : Int)] 3)) := ((Below.refl _ _).alloc (Nat.le_refl _) _).alloc (by simp) _
  refine ⟨_, _, rfl, ⟨?_, ?_, H.out.kept (fun _ h _ => h) hb.size (hb.block g hgl) (fun x _ hx => hb.block x hx), fun x hx => by have := hN x hx; omega⟩, by omega, Nat.le_refl _, hb⟩
  · have := heap_alloc_new (w.alloc (.cells #[.slice (some ⟨g, 0, none⟩) L.length L.length] 69)) (.cells #[.int .i64 (base : Int)] 3)
    rw [h1] at this
    exact this
  · rw [Below.heap_alloc _ _ _ (by omega)]
    exact heap_alloc_new _ _

set_option maxHeartbeats 2000000 in
set_option maxRecDepth 100000 in
theorem prun1_any {w : World} {N : Nat → Prop} {a b g : Nat} {L : List (Option Pc)} {n : Nat} (h : RunSt w N a b g L n) (hc : 1 ≤ L.length) (hl : L.length ≤ 65536) (hn : n < 9223372036854775806) (o : Option Pc) (ho : L[(n + 1) % L.length]? = some o) :
    Calls Try.prog 63 #[.pointer (some ⟨a, 0, none⟩), .pointer (some ⟨b, 0, none⟩)] w fun e w' => ∃ Au nu cu, e = .returned (.tuple #[.agg #[.int .i64 (numO o : Int), .bool (lastO o), .slice Au nu cu], .bool (decide (numO o = n + 1))]) ∧ RdN w' N (.slice Au nu cu) (dataO o) ∧ RunSt w' N a b g L (n + 1) ∧ Kept w w' (fun x => x = a) := by
  obtain ⟨C, h1, h2, h3⟩ := h.there
  obtain ⟨Au, nu, cu, e0, e1, e2, hrd⟩ := h3 _ o ho
  obtain ⟨ab, ag⟩ := h.ab
  have c0 : w.cell? ⟨a, 0, none⟩ = some (.int .i64 (n : Int)) := (row7 h.ca).1 0
  have z0 := (row7 h.ca).2 0
  have la : a < w.heap.size := (Array.getElem?_eq_some_iff.1 h.ca).1
  have lb : b < w.heap.size := (Array.getElem?_eq_some_iff.1 h.cb).1
  have lg : g < w.heap.size := (Array.getElem?_eq_some_iff.1 h1).1
  have hmod : ((n : Int) + 1).tmod (L.length : Int) = (((n + 1) % L.length : Nat) : Int) := by
    rw [show (n : Int) + 1 = ((n + 1 : Nat) : Int) from rfl, Int.tmod_eq_emod_of_nonneg (by omega)]
    exact (Int.natCast_emod _ _).symm
  have hml : (n + 1) % L.length < L.length := Nat.mod_lt _ (by omega)
  obtain ⟨m, hm⟩ : ∃ m, m = (n + 1) % L.length := ⟨_, rfl⟩
  rw [← hm] at hmod hml e0 e1 e2
  have hcz : ¬ L.length = 0 := by omega
  obtain ⟨cn, hcn⟩ : ∃ cn, cn = L.length := ⟨_, rfl⟩
  have i0 : (0 : Int) ≤ (m : Int) := by omega
  have i1 : (m : Int) < (cn : Int) := by omega
  have H := Lib.hid h
  have HRD := Lib.hid hrd
  obtain ⟨w1, hw1⟩ : ∃ w1, w1 = w.setCell ⟨a, 0, none⟩ (.int .i64 ((n : Int) + 1)) := ⟨_, rfl⟩
  have hk1 : Kept w w1 (fun x => x = a) := by rw [hw1]; exact Kept.setCell w ⟨a, 0, none⟩ _ _ rfl
  have ha1 : w1.heap[a]? = some (.cells #[.int .i64 ((n : Int) + 1)] 3 (0, 0)) := by
    rw [hw1, Joins.block_setCell h.ca _]
    simp
  have hb1 := (hk1.block b lb (Ne.symm ab)).trans h.cb
  have hg1 := (hk1.block g lg (Ne.symm ag)).trans h1
  rw [← hcn] at hb1 hmod hcz
  have HK1 := Lib.hid hk1
  have HA1 := Lib.hid ha1
  have HB1 := Lib.hid hb1
  have hs1 := hk1.size
  have q0 : w1.cell? ⟨a, 0, none⟩ = some (.int .i64 ((n : Int) + 1)) := (row7 ha1).1 0
  have q1 : w1.cell? ⟨b, 0, none⟩ = some (.slice (some ⟨g, 0, none⟩) cn cn) := (row7 hb1).1 0
  have p0 : w1.cell? ⟨g, m * 3, none⟩ = some (.int .i64 (numO o : Int)) := ((row7 hg1).1 _).trans e0
  have p1 : w1.cell? ⟨g, m * 3 + 1, none⟩ = some (.bool (lastO o)) := ((row7 hg1).1 _).trans e1
  have p2 : w1.cell? ⟨g, m * 3 + 2, none⟩ = some (.slice Au nu cu) := ((row7 hg1).1 _).trans e2
  have HW1 := Lib.hid hw1
  have HM := Lib.hid hm
  have HCN := Lib.hid hcn
  clear h h3 hrd hk1 ha1 hb1 hg1 e0 e1 e2 hm ho hw1 hcn
  go_enter Try.func63, Try.ntmps63
  go_upto_region 2 with fail
  rw [← HW1.out]
  obtain ⟨wz, hwz⟩ : ∃ wz, wz = w1.alloc (.cells #[.int .i64 0, .bool false, .slice none 0 0] 81) := ⟨_, rfl⟩
  rw [← hwz]
  have hs1e : w1.heap.size = w.heap.size := by rw [HW1.out]; simp
  have hbz : Below w1.heap.size w1 wz := by rw [hwz]; exact (Below.refl _ _).alloc (Nat.le_refl _) _
  have hz : wz.heap[w.heap.size]? = some (.cells #[.int .i64 0, .bool false, .slice none 0 0] 81 (0, 0)) := by rw [hwz, ← hs1e]; exact heap_alloc_new _ _
  have hsz : wz.heap.size = w.heap.size + 1 := by rw [hwz]; simp; omega
  have hkz : Kept w wz (fun x => x = a) := HK1.out.trans (Kept.ofBelow (F := fun x => x = a) hbz) (fun _ h => .inl h)
  have haz := (hbz.block a (by omega)).trans HA1.out
  replace q0 := (hbz.cell (p := ⟨a, 0, none⟩) (by show a < _; omega)).trans q0
  replace q1 := (hbz.cell (p := ⟨b, 0, none⟩) (by show b < _; omega)).trans q1
  replace p0 := (hbz.cell (p := ⟨g, m * 3, none⟩) (by show g < _; omega)).trans p0
  replace p1 := (hbz.cell (p := ⟨g, m * 3 + 1, none⟩) (by show g < _; omega)).trans p1
  replace p2 := (hbz.cell (p := ⟨g, m * 3 + 2, none⟩) (by show g < _; omega)).trans p2
  have la2 : a < wz.heap.size := by omega
  have lb2 : b < wz.heap.size := by omega
  have lg2 : g < wz.heap.size := by omega
  have HZ := Lib.hid hz
  have HKZ := Lib.hid hkz
  have HAZ := Lib.hid haz
  have HSZ := Lib.hid hsz
  have hdec : ((numO o : Int) == (n : Int) + 1) = decide (numO o = n + 1) := by
    by_cases hh : numO o = n + 1
    · rw [decide_eq_true hh, hh]; simp
    · rw [decide_eq_false hh]
      simp only [beq_eq_false_iff_ne, ne_eq]
      omega
  obtain ⟨dd, hdd⟩ : ∃ dd, dd = decide (numO o = n + 1) := ⟨_, rfl⟩
  obtain ⟨num, hnum⟩ : ∃ num, num = numO o := ⟨_, rfl⟩
  obtain ⟨lst, hlst⟩ : ∃ lst, lst = lastO o := ⟨_, rfl⟩
  rw [← hdd, ← hnum] at hdec
  rw [← hnum] at p0
  rw [← hlst] at p1
  have HDD := Lib.hid hdd
  have HNUM := Lib.hid hnum
  have HLST := Lib.hid hlst
  clear hz hkz haz hwz hbz hsz HK1 HA1 HB1 HW1 hs1e hs1 c0 z0 hdd hnum hlst
  go_region
  obtain ⟨g4, hg4⟩ : ∃ g4, g4 = wz.heap.size := ⟨_, rfl⟩
  obtain ⟨w4, hw4⟩ : ∃ w4, w4 = (wz.alloc (.cells #[.int .i64 (num : Int), .bool lst, .slice Au nu cu] 81)).drew := ⟨_, rfl⟩
  rw [← hg4, ← hw4]
  have hb4 : Below wz.heap.size wz w4 := by rw [hw4]; exact ((Below.refl _ _).alloc (Nat.le_refl _) _).drew
  have hn4 : w4.heap[g4]? = some (.cells #[.int .i64 (num : Int), .bool lst, .slice Au nu cu] 81 (0, 0)) := by rw [hw4, hg4]; exact heap_alloc_new wz _
  have hz4 := (hb4.block w.heap.size (by have := HSZ.out; omega)).trans HZ.out
  have ha4 := (hb4.block a la2).trans HAZ.out
  have r0 : w4.cell? ⟨g4, 0, none⟩ = some (.int .i64 (num : Int)) := (row7 hn4).1 0
  have r1 : w4.cell? ⟨g4, 1, none⟩ = some (.bool lst) := (row7 hn4).1 1
  have r2 : w4.cell? ⟨g4, 2, none⟩ = some (.slice Au nu cu) := (row7 hn4).1 2
  have s0 : w4.cell? ⟨w.heap.size, 0, none⟩ = some (.int .i64 0) := (row7 hz4).1 0
  have s1 : w4.cell? ⟨w.heap.size, 1, none⟩ = some (.bool false) := (row7 hz4).1 1
  have s2 : w4.cell? ⟨w.heap.size, 2, none⟩ = some (.slice none 0 0) := (row7 hz4).1 2
  have s3 := (row7 hz4).2 0
  have s4 := (row7 hz4).2 1
  have s5 := (row7 hz4).2 2
  have t0 : w4.cell? ⟨a, 0, none⟩ = some (.int .i64 ((n : Int) + 1)) := (row7 ha4).1 0
  have n1 : g4 ≠ w.heap.size := by have := HSZ.out; omega
  have n2 : a ≠ w.heap.size := by omega
  have n3 : a ≠ g4 := by omega
  have HB4 := Lib.hid hb4
  have HA4 := Lib.hid ha4
  clear hb4 hn4 hz4 ha4 hw4 hg4 p0 p1 p2 q0 q1
  go_wp2_with fail
  go_region
  all_goals go_wp2_with fail
  obtain ⟨W, hW⟩ : ∃ W, W = (((w4.setCell ⟨w.heap.size, 0, none⟩ (.int .i64 (num : Int))).setCell ⟨w.heap.size, 1, none⟩ (.bool lst)).setCell ⟨w.heap.size, 2, none⟩ (.slice Au nu cu)).drew := ⟨_, rfl⟩
  refine bodyPost_ret (v := .tuple #[.agg #[.int .i64 (num : Int), .bool lst, .slice Au nu cu], .bool dd]) (by rw [results_cell_tmp rfl]; go_simp) rfl ?_
  rw [show (((w4.setCell ⟨w.heap.size, 0, none⟩ (.int .i64 (num : Int))).setCell ⟨w.heap.size, 1, none⟩ (.bool lst)).setCell ⟨w.heap.size, 2, none⟩ (.slice Au nu cu)).drew = W from hW.symm]
  have k1 : Kept w4 W (fun x => x = w.heap.size) := by
    rw [hW]
    exact (((Kept.setCell w4 ⟨w.heap.size, 0, none⟩ _ (fun x => x = w.heap.size) rfl).trans (Kept.setCell _ ⟨w.heap.size, 1, none⟩ _ (fun x => x = w.heap.size) rfl) (fun _ h => .inl h)).trans (Kept.setCell _ ⟨w.heap.size, 2, none⟩ _ (fun x => x = w.heap.size) rfl) (fun _ h => .inl h)).trans (Kept.drew _ _) (fun _ h => .inl h)
  have k2 : Kept wz w4 (fun x => x = a) := Kept.ofBelow HB4.out
  have hK : Kept w W (fun x => x = a) := (HKZ.out.trans k2 (fun _ h => .inl h)).trans k1 (fun x hx => .inr (Nat.le_of_eq hx.symm))
  have haW : W.heap[a]? = some (.cells #[.int .i64 ((n : Int) + 1)] 3 (0, 0)) := (k1.block a (by have := HB4.out.size; omega) n2).trans HA4.out
  have hother : ∀ x, x < w.heap.size → x ≠ a → W.heap[x]? = w.heap[x]? := fun x hx hne => hK.block x hx hne
  refine ⟨Au, nu, cu, ?_, HRD.out.kept (fun _ h _ => h) hK.size (fun x hx hs => hother x hs (H.out.na x hx)), ⟨haW, (hother b lb (Ne.symm ab)).trans H.out.cb, H.out.there.kept (fun _ h _ => h) hK.size (hother g lg (Ne.symm ag)) (fun x hx hs => hother x hs (H.out.na x hx)), H.out.na⟩, hK⟩
  rw [HNUM.out, HLST.out, HDD.out]
end Go.Proofs.Ytplpfhgdanclhaa
