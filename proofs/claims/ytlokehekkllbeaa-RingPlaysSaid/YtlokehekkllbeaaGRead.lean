/-
  The document's ring (butteryref04): Read: the piece of a sector. No statement is proved here. Condition: the sector has 512 bytes.
-/
import Derived.Test.YtlokehekkllbeaaGMem
import Derived.Deep.RegionLaw
import Derived.Deep.DeepCutAuto
namespace Go.Proofs.Ytlokehekkllbeaa
open Go.RowKit

/-- append, as one step of a region that draws: by the run itself -/
theorem stepApp {P : Program} {ops : Array Oper} {o : Oper} {a : Act} {w w' : World} {v' : Value} {K : Act → World → Prop} {Q : Exit → Act → World → Prop} {E : Prop} (hg : o.guard = none) (s x : Operand) (t : TypeId)
    (hop : o.op = Op.call { callee := Callee.builtin Builtin.append, args := #[s, x], argTypes := #[t, t] }) (vs vx : Value) (hs : a.eval s = vs) (hx : a.eval x = vx)
    (hrun : (Builtin.append_ #[t, t] o.type #[vs, vx]).run P w = .ok v' w') (hK : K (a.put o.dst v') w') : if Region.wanted o (yielded ops a.tmps) = true then Oper.wp P o a w K Q else E := by
  have hw : Region.wanted o (yielded ops a.tmps) = true := by simp [Region.wanted, hg]
  rw [if_pos hw]
  unfold Oper.wp execOp
  simp only [hop, resolve, invoke, builtin, Sem.run_bind, Sem.run_pure, Result.andThen_ok, List.map_toArray, List.map_cons, List.map_nil, hs, hx, hrun]
  exact hK
theorem sliceMid (W : World) (b o len c : Nat) (h : Int) (k m : Nat) (hk : h = (m : Int)) (hl : k ≤ m) (hc : m ≤ c) (hkc : k < c) :
    (Instr.slice 39 (.slice (some ⟨b, o, none⟩) len c) (some (.int .i64 (k : Int))) (some (.int .i64 h)) none).run Try.prog W = .ok (.slice (some ⟨b, o + k, none⟩) (m - k) (c - k)) W := by
  subst hk
  rw [run_slice_lh _ _ _ _ _ elem_bytes .i64 .i64 (k : Int) (m : Int) (by omega) (by omega) (by omega), size_bytes]
  simp only [Result.andThen, sliced, Int.toNat_natCast, Nat.mul_one]
  rw [if_neg (by omega)]
  simp [plus_zero]

/-- all noughts, from there to there -/
def noughts (b : List UInt8) (i j : Nat) : Prop := ∀ k, i ≤ k → k < j → b.getD k 0 = 0
theorem noughts_all {b : List UInt8} (h : b.length = 512) {i : Nat} (hn : noughts b i 512) : (b.drop i).all (· == 0) = true := by
  rw [List.all_eq_true]
  intro x hx
  obtain ⟨k, hk, rfl⟩ := List.getElem_of_mem hx
  have h1 : i + k < 512 := by rw [List.length_drop] at hk; omega
  have := hn (i + k) (by omega) h1
  rw [List.getD_eq_getElem?_getD, List.getElem?_eq_getElem (by omega)] at this
  rw [List.getElem_drop]
  simpa using this
theorem noughts_no {b : List UInt8} (h : b.length = 512) {i k : Nat} (hi : i ≤ k) (hk : k < 512) (hx : b.getD k 0 ≠ 0) : (b.drop i).all (· == 0) = false := by
  apply Bool.eq_false_iff.2
  intro hh
  rw [List.all_eq_true] at hh
  apply hx
  have hm : b[k]'(by omega) ∈ b.drop i := by
    rw [List.mem_iff_getElem?]
    exact ⟨k - i, by rw [List.getElem?_drop, show i + (k - i) = k by omega, List.getElem?_eq_getElem (by omega)]⟩
  have := hh _ hm
  rw [List.getD_eq_getElem?_getD, List.getElem?_eq_getElem (by omega)]
  simpa using this

theorem wrapU (z : Int) (h0 : 0 ≤ z) (h1 : z < 18446744073709551616) : IntKind.u64.wrap z = z := by rw [IntKind.wrap_u64]; omega
theorem wrapI (z : Int) (h0 : 0 ≤ z) (h1 : z < 9223372036854775808) : IntKind.i64.wrap z = z := by rw [IntKind.wrap_i64]; omega

/-- what Read tells -/
def ReadPost (w : World) (o : Option Pc) (e : Ending) (w' : World) : Prop := ∃ Au nu cu, e = .returned (.tuple #[.agg #[.int .i64 (numO o : Int), .bool (lastO o), .slice Au nu cu], .bool o.isSome]) ∧ RdN w' (fun b => w.heap.size ≤ b) (.slice Au nu cu) (dataO o) ∧ Below w.heap.size w w'

set_option maxHeartbeats 4000000 in
set_option maxRecDepth 100000 in
theorem xread_any (b : List UInt8) (hl : b.length = 512) (v : Value) (w : World) (hv : Rd w w.heap.size v b) (place count : Nat) (hc : 1 ≤ count) (hc2 : count ≤ 65536) :
    Calls Try.prog 27 #[v, .int .i64 (place : Int), .int .i64 (count : Int)] w (ReadPost w (pcOf b place count)) := by
  obtain ⟨A, c, rfl, h1, h2, h3, h4⟩ := hv
  obtain ⟨g, o, rfl, hgs, hcell⟩ := h4 (by intro e; rw [e] at hl; simp at hl)
  rw [hl] at h1 ⊢
  have HL := Lib.hid hl
  have hcl : ∀ W : World, Below w.heap.size w W → ∀ i, i < 512 → W.cell? ⟨g, o + i, none⟩ = some (.int .u8 ((b.getD i 0).toNat : Int)) := fun W hW i hi => by
    rw [hW.cell (p := ⟨g, o + i, none⟩) hgs]
    refine hcell i _ ?_
    rw [List.getD_eq_getElem?_getD, List.getElem?_eq_getElem (by rw [HL.out]; exact hi)]
    rfl
  have HC := Lib.hid hcl
  clear hcell h4 hcl hl
  go_enter Try.func27, Try.ntmps27
  go_upto_region 1 with fail
  obtain ⟨r, hr⟩ : ∃ r, r = w.heap.size := ⟨_, rfl⟩
  obtain ⟨w1, hw1⟩ : ∃ w1, w1 = w.alloc (.cells #[.int .i64 0, .bool false, .slice none 0 0] 49) := ⟨_, rfl⟩
  rw [← hw1, ← hr]
  have hb1 : Below w.heap.size w w1 := by rw [hw1]; exact (Below.refl _ _).alloc (Nat.le_refl _) _
  have hr1 : w1.heap[r]? = some (.cells #[.int .i64 0, .bool false, .slice none 0 0] 49 (0, 0)) := by rw [hw1, hr]; exact heap_alloc_new _ _
  have hs1 : w1.heap.size = w.heap.size + 1 := by rw [hw1]; simp
  have hcells := HC.out w1 hb1
  have HB1 := Lib.hid hb1
  have HR1 := Lib.hid hr1
  have HR := Lib.hid hr
  have HS1 := Lib.hid hs1
  have HCE := Lib.hid hcells
  clear hb1 hr1 hr hs1 hcells hw1
  go_wp2_with fail
  go_loopw [8, 9] (fun n i wr => ∃ k : Nat, i = .int .i64 ((k : Int) - 1) ∧ k ≤ 8 ∧ n = .int .u64 (val ((b.take 8).drop k) : Int) ∧ w1 = wr) (fun _ i _ => (intOf i + 1).toNat)
  case atStart => exact ⟨8, rfl, by omega, by rw [List.drop_eq_nil_of_le (by rw [List.length_take]; omega)]; rfl, rfl⟩
  case round =>
    obtain ⟨k, rfl, hk, rfl, rfl⟩ := hrel
    by_cases hk0 : 0 < k
    · have i1 : (0 : Int) ≤ (k : Int) - 1 := by omega
      have i2 : (k : Int) - 1 < 512 := by omega
      have hce := HCE.out (k - 1) (by omega)
      have ek : ((k - 1 : Nat) : Int) = (k : Int) - 1 := by omega
      have hstep : val ((b.take 8).drop (k - 1)) = (b.getD (k - 1) 0).toNat + 256 * val ((b.take 8).drop k) := by
        have := val_step (b.take 8) (k - 1) (by rw [List.length_take, HL.out]; omega)
        rw [this, show k - 1 + 1 = k by omega, List.getD_eq_getElem?_getD, List.getD_eq_getElem?_getD, List.getElem?_take, if_pos (by omega)]
      have hlt := val_lt ((b.take 8).drop (k - 1))
      have hle : (256 : Nat) ^ ((b.take 8).drop (k - 1)).length ≤ 256 ^ 8 := Nat.pow_le_pow_right (by omega) (by rw [List.length_drop, List.length_take]; omega)
      have h98 : (256 : Nat) ^ 8 = 18446744073709551616 := rfl
      obtain ⟨x, hx⟩ : ∃ x, x = (b.getD (k - 1) 0).toNat := ⟨_, rfl⟩
      obtain ⟨y, hy⟩ : ∃ y, y = val ((b.take 8).drop k) := ⟨_, rfl⟩
      obtain ⟨z, hz⟩ : ∃ z, z = val ((b.take 8).drop (k - 1)) := ⟨_, rfl⟩
      rw [← hx] at hce hstep
      rw [← hy] at hstep ⊢
      rw [← hz] at hstep hlt
      have w1' : IntKind.u64.wrap ((y : Int) * 256) = (y : Int) * 256 := wrapU _ (by omega) (by omega)
      have w2' : IntKind.u64.wrap ((y : Int) * 256 + (x : Int)) = (y : Int) * 256 + (x : Int) := wrapU _ (by omega) (by omega)
      have hcx : w1.cell? ⟨g, o + ((k : Int) - 1).toNat, none⟩ = some (.int .u8 (x : Int)) := by rw [show ((k : Int) - 1).toNat = k - 1 by omega]; exact hce
      have hcy : w1.cell? ⟨g, o + (k - 1), none⟩ = some (.int .u8 (x : Int)) := hce
      have hz2 : (z : Int) = (y : Int) * 256 + (x : Int) := by omega
      have hx256 : x < 256 := by rw [hx]; exact UInt8.toNat_lt _
      have HE3 : Hid (IntKind.u64.wrap ((y : Int) * 256 + IntKind.u64.wrap (x : Int)) = (y : Int) * 256 + (x : Int)) := by rw [wrapU (x : Int) (by omega) (by omega)]; exact Lib.hid w2'
      have HZ := Lib.hid hz
      have HZ2 := Lib.hid hz2
      clear hx hy hz hz2 hstep hlt hle h98 hce ek
      go_wp2_with fail
      refine ⟨⟨k - 1, by go_num, by omega, ?_, trivial⟩, by simp [intOf]; omega⟩
      rw [← HZ.out, HZ2.out]
    · obtain rfl : k = 0 := by omega
      have i1 : ¬ (0 : Int) ≤ (((0 : Nat) : Int) - 1) := by omega
      rw [List.drop_zero]
      obtain ⟨n, hn⟩ : ∃ n, n = val (b.take 8) := ⟨_, rfl⟩
      have c9 := HCE.out 9 (by omega)
      have c10 := HCE.out 10 (by omega)
      have c8 := HCE.out 8 (by omega)
      have b9 := (b.getD 9 0).toNat_lt
      have b10 := (b.getD 10 0).toNat_lt
      obtain ⟨l, hl⟩ : ∃ l, l = lenOf b := ⟨_, rfl⟩
      have hl' : (l : Int) = ((b.getD 9 0).toNat : Int) + 256 * ((b.getD 10 0).toNat : Int) := by rw [hl]; unfold lenOf; omega
      obtain ⟨x9, hx9⟩ : ∃ x, x = (b.getD 9 0).toNat := ⟨_, rfl⟩
      obtain ⟨x10, hx10⟩ : ∃ x, x = (b.getD 10 0).toNat := ⟨_, rfl⟩
      obtain ⟨f, hf⟩ : ∃ x, x = (b.getD 8 0).toNat := ⟨_, rfl⟩
      rw [← hx9] at c9 b9 hl'
      rw [← hx10] at c10 b10 hl'
      rw [← hf] at c8
      rw [← hn]
      have m1 : IntKind.i64.wrap (256 * (x10 : Int)) = 256 * (x10 : Int) := wrapI _ (by omega) (by omega)
      have m2 : IntKind.i64.wrap ((x9 : Int) + 256 * (x10 : Int)) = (l : Int) := by rw [wrapI _ (by omega) (by omega), hl']
      have m3 : (x9 : Int) + 256 * (x10 : Int) = (l : Int) := hl'.symm
      have hl65 : l < 66000 := by omega
      have hn64 : n < 18446744073709551616 := by
        have h1 := val_lt (b.take 8)
        have h2 : (256 : Nat) ^ (b.take 8).length ≤ 256 ^ 8 := Nat.pow_le_pow_right (by omega) (by rw [List.length_take]; omega)
        have h3 : (256 : Nat) ^ 8 = 18446744073709551616 := rfl
        omega
      have hf256 : f < 256 := by rw [hf]; exact (b.getD 8 0).toNat_lt
      have hf1 : (1 < b.getD 8 0) ↔ 1 < f := by rw [hf]; exact UInt8.lt_iff_toNat_lt
      have hf0 : (b.getD 8 0 = 0) ↔ f = 0 := by rw [hf]; exact ⟨fun e => by rw [e]; rfl, fun e => UInt8.toNat_inj.1 e⟩
      have hfe : (b.getD 8 0 == 1) = (f == 1) := by
        rw [hf]
        by_cases hh : b.getD 8 0 = 1
        · rw [hh]; rfl
        · have : (b.getD 8 0).toNat ≠ 1 := fun e => hh (UInt8.toNat_inj.1 e)
          rw [show (b.getD 8 0 == 1) = false by simpa using hh, show ((b.getD 8 0).toNat == 1) = false by simpa using this]
      obtain ⟨bad, hbad⟩ : ∃ bad : Bool, bad = decide (n < 1 ∨ 4611686018427387904 < n ∨ n % count ≠ place ∨ 1 < f ∨ 501 < l ∨ (f = 0 ∧ l ≠ 501)) := ⟨_, rfl⟩
      have hpc : pcOf b place count = if bad = true then none else if (b.drop (11 + l)).all (· == 0) then some ⟨n, f == 1, (b.drop 11).take l⟩ else none := by
        unfold pcOf
        rw [← hn, ← hl, hbad, hfe]
        simp only [hf1, hf0, decide_eq_true_eq]
      have HPC := Lib.hid hpc
      have HBAD := Lib.hid hbad
      have HF := Lib.hid hf
      have HN := Lib.hid hn
      have HLL := Lib.hid hl
      clear hpc hbad hf hn hl hl' hx9 hx10 hf1 hf0 hfe
      go_wp2_with fail
      go_region
      go_upto_region 7 with fail
      go_cut [67] (fun c wx => wx = w1.drew ∧ c = .bool bad)
      case first =>
        have c8' : w1.drew.cell? ⟨g, o + 8, none⟩ = some (.int .u8 (f : Int)) := c8
        clear c8 c9 c10 m1 m2 m3
        have key : n < 1 ∨ (¬ n < 1 ∧ 4611686018427387904 < n) ∨ (¬ n < 1 ∧ ¬ 4611686018427387904 < n) := by omega
        rcases key with a1 | ⟨a1, a2⟩ | ⟨a1, a2⟩
        · have j1 : (n : Int) < 1 := by omega
          have hb : bad = true := by rw [HBAD.out]; exact decide_eq_true (.inl a1)
          have HB := Lib.hid hb
          clear hb
          go_wp2_with fail
          go_meet
          exact ⟨rfl, by rw [HB.out]⟩
        · have j1 : ¬ (n : Int) < 1 := by omega
          have j2 : (4611686018427387904 : Int) < (n : Int) := by omega
          have hb : bad = true := by rw [HBAD.out]; exact decide_eq_true (.inr (.inl a2))
          have HB := Lib.hid hb
          clear hb
          go_wp2_with fail
          go_meet
          exact ⟨rfl, by rw [HB.out]⟩
        · have j1 : ¬ (n : Int) < 1 := by omega
          have j2 : ¬ (4611686018427387904 : Int) < (n : Int) := by omega
          have hmod : (n : Int).tmod (count : Int) = ((n % count : Nat) : Int) := by rw [Int.tmod_eq_emod_of_nonneg (by omega)]; exact (Int.natCast_emod _ _).symm
          have hcz : ¬ count = 0 := by omega
          obtain ⟨m, hm⟩ : ∃ m, m = n % count := ⟨_, rfl⟩
          have hml : m < count := by rw [hm]; exact Nat.mod_lt _ (by omega)
          rw [← hm] at hmod
          have hbm : bad = decide (n < 1 ∨ 4611686018427387904 < n ∨ m ≠ place ∨ 1 < f ∨ 501 < l ∨ (f = 0 ∧ l ≠ 501)) := by rw [hm]; exact HBAD.out
          have HBM := Lib.hid hbm
          clear hm hbm HBAD
          by_cases a3 : m = place
          · have j3 : ((m : Int) != (place : Int)) = false := by rw [a3]; simp
            by_cases a4 : 1 < f
            · have j4 : (1 : Int) < (f : Int) := by omega
              have hb : bad = true := by rw [HBM.out]; exact decide_eq_true (.inr (.inr (.inr (.inl a4))))
              have HB := Lib.hid hb
              clear hb a3 a4
              go_wp2_with fail
              go_meet
              exact ⟨rfl, by rw [HB.out]⟩
            · have j4 : ¬ (1 : Int) < (f : Int) := by omega
              by_cases a5 : 501 < l
              · have j5 : (501 : Int) < (l : Int) := by omega
                have hb : bad = true := by rw [HBM.out]; exact decide_eq_true (.inr (.inr (.inr (.inr (.inl a5)))))
                have HB := Lib.hid hb
                clear hb a3 a4 a5
                go_wp2_with fail
                go_meet
                exact ⟨rfl, by rw [HB.out]⟩
              · have j5 : ¬ (501 : Int) < (l : Int) := by omega
                by_cases a6 : f = 0
                · have j6 : ((f : Int) == 0) = true := by rw [a6]; rfl
                  have hb : bad = ((l : Int) != 501) := by
                    rw [HBM.out]
                    by_cases a7 : l = 501
                    · rw [show ((l : Int) != 501) = false by rw [a7]; rfl]
                      exact decide_eq_false (by omega)
                    · rw [show ((l : Int) != 501) = true by simp; omega]
                      exact decide_eq_true (by omega)
                  have HB := Lib.hid hb
                  clear hb a3 a4 a5 a6
                  go_wp2_with fail
                  go_meet
                  exact ⟨rfl, by rw [HB.out]⟩
                · have j6 : ((f : Int) == 0) = false := by simp; omega
                  have hb : bad = false := by rw [HBM.out]; exact decide_eq_false (by omega)
                  have HB := Lib.hid hb
                  clear hb a3 a4 a5 a6
                  go_wp2_with fail
                  go_meet
                  exact ⟨rfl, by rw [HB.out]⟩
          · have j3 : ((m : Int) != (place : Int)) = true := by simp; omega
            have hb : bad = true := by rw [HBM.out]; exact decide_eq_true (.inr (.inr (.inl a3)))
            have HB := Lib.hid hb
            clear hb a3
            go_wp2_with fail
            go_meet
            exact ⟨rfl, by rw [HB.out]⟩
      case rest =>
        obtain ⟨hwc, rfl⟩ := hcut
        obtain ⟨w2, hw2⟩ : ∃ w2, w2 = w1.drew := ⟨_, rfl⟩
        have hr2 : w2.heap[r]? = some (.cells #[.int .i64 0, .bool false, .slice none 0 0] 49 (0, 0)) := by rw [hw2]; exact HR1.out
        have hb2 : Below w.heap.size w w2 := by rw [hw2]; exact HB1.out.drew
        have hs2 : w2.heap.size = w.heap.size + 1 := by rw [hw2]; exact HS1.out
        have hwd := hwc.symm
        clear hwc
        subst hwd
        rw [← hw2]
        clear c8 c9 c10 m1 m2 m3 hw2
        have q0 : w2.cell? ⟨r, 0, none⟩ = some (.int .i64 0) := (row7 hr2).1 0
        have q1 : w2.cell? ⟨r, 1, none⟩ = some (.bool false) := (row7 hr2).1 1
        have q2 : w2.cell? ⟨r, 2, none⟩ = some (.slice none 0 0) := (row7 hr2).1 2
        have z0 : w2.frozen? ⟨r, 0, none⟩ = false := (row7 hr2).2 0
        have z1 : w2.frozen? ⟨r, 1, none⟩ = false := (row7 hr2).2 1
        have z2 : w2.frozen? ⟨r, 2, none⟩ = false := (row7 hr2).2 2
        have hcells := HC.out w2 hb2
        have hrge : w.heap.size ≤ r := by rw [HR.out]; exact Nat.le_refl _
        have HB2 := Lib.hid hb2
        have HS2 := Lib.hid hs2
        have HR2 := Lib.hid hr2
        have HC2 := Lib.hid hcells
        have hnone : ∀ a b c : Value, Below w.heap.size w (((w2.setCell ⟨r, 0, none⟩ a).setCell ⟨r, 1, none⟩ b).setCell ⟨r, 2, none⟩ c) := fun a b c => ((HB2.out.setCell hrge a).setCell hrge b).setCell hrge c
        have HNONE := Lib.hid hnone
        clear hcells hr2 hb2 hs2 HR1 HB1 HS1 HCE hrge hnone
        cases bad with
        | true =>
          have ho : pcOf b place count = none := by rw [HPC.out, if_pos rfl]
          have HO := Lib.hid ho
          clear ho
          go_wp2_with fail
          refine bodyPost_ret (v := .tuple #[.agg #[.int .i64 0, .bool false, .slice none 0 0], .bool false]) (by rw [results_cell_tmp rfl]; go_simp) rfl ?_
          rw [HO.out]
          exact ⟨none, 0, 0, rfl, RdN.nil _ _, HNONE.out _ _ _⟩
        | false =>
          have hnb := HBAD.out
          have hok : n ≤ 4611686018427387904 ∧ l ≤ 501 := by
            have := of_decide_eq_false hnb.symm
            omega
          have HOK := Lib.hid hok
          clear hnb hok
          go_upto_region 10 with fail
          go_loopw [11] (fun i wr => ∃ k : Nat, i = .int .i64 (k : Int) ∧ 11 + l ≤ k ∧ k ≤ 512 ∧ Hid (noughts b (11 + l) k) ∧ w2 = wr) (fun i _ => 512 - (intOf i).toNat)
          case atStart => exact ⟨11 + l, by first | rfl | (congr 1; omega), Nat.le_refl _, by have := HOK.out; omega, Lib.hid (fun k h1 h2 => by omega), rfl⟩
          case round =>
            obtain ⟨k, rfl, hk1, hk2, hno, rfl⟩ := hrel
            by_cases hkl : k < 512
            · have i1 : (k : Int) < 512 := by omega
              have i0 : (0 : Int) ≤ (k : Int) := by omega
              have hce := HC2.out k hkl
              obtain ⟨x, hx⟩ : ∃ x, x = (b.getD k 0).toNat := ⟨_, rfl⟩
              rw [← hx] at hce
              by_cases hx0 : x = 0
              · have j1 : ((x : Int) != 0) = false := by rw [hx0]; rfl
                have hb0 : b.getD k 0 = 0 := UInt8.toNat_inj.1 (by rw [← hx, hx0]; rfl)
                have hno2 : noughts b (11 + l) (k + 1) := fun j h1 h2 => by
                  rcases Nat.lt_or_ge j k with h3 | h3
                  · exact hno.out j h1 h3
                  · rw [show j = k by omega]; exact hb0
                have HNO2 := Lib.hid hno2
                clear hx hx0 hb0 hno2 hno
                go_wp2_with fail
                exact ⟨⟨k + 1, by go_num, by omega, hkl, HNO2, trivial⟩, by simp [intOf]; omega⟩
              · have j1 : ((x : Int) != 0) = true := by simp; omega
                have ho : pcOf b place count = none := by
                  rw [HPC.out, if_neg Bool.false_ne_true, noughts_no HL.out hk1 hkl (fun e => hx0 (by rw [hx, e]; rfl))]
                  rfl
                have HO := Lib.hid ho
                clear ho hx hx0 hno
                go_wp2_with fail
                refine bodyPost_ret (v := .tuple #[.agg #[.int .i64 0, .bool false, .slice none 0 0], .bool false]) (by rw [results_cell_tmp rfl]; go_simp) rfl ?_
                rw [HO.out]
                exact ⟨none, 0, 0, rfl, RdN.nil _ _, HNONE.out _ _ _⟩
            · have i1 : ¬ (k : Int) < 512 := by omega
              obtain rfl : k = 512 := by omega
              have ho : pcOf b place count = some ⟨n, f == 1, (b.drop 11).take l⟩ := by
                rw [HPC.out, if_neg Bool.false_ne_true, noughts_all HL.out hno.out]
                rfl
              have hln : l ≤ 501 := HOK.out.2
              have hnn : n ≤ 4611686018427387904 := HOK.out.1
              obtain ⟨ff, hff⟩ : ∃ ff : Bool, ff = (f == 1) := ⟨_, rfl⟩
              rw [← hff] at ho
              have hfi : ((f : Int) == 1) = ff := by
                rw [hff]
                by_cases h : f = 1
                · rw [h]; rfl
                · rw [show (f == 1) = false by simpa using h]; simp; omega
              have c8 := HC2.out 8 (by omega)
              rw [← HF.out] at c8
              have hdl : ((b.drop 11).take l).length = l := by rw [List.length_take, List.length_drop, HL.out]; omega
              have hsl : ∀ W, (Instr.slice 39 (.slice (some ⟨g, o, none⟩) 512 c) (some (.int .i64 11)) (some (.int .i64 (11 + (l : Int)))) none).run Try.prog W = .ok (.slice (some ⟨g, o + 11, none⟩) l (c - 11)) W := fun W => (sliceMid W g o 512 c _ 11 (11 + l) (by omega) (by omega) (by omega) (by omega)).trans (by rw [show 11 + l - 11 = l by omega])
              have hwr : IntKind.i64.wrap (11 + (l : Int)) = 11 + (l : Int) := wrapI _ (by omega) (by omega)
              have hrd : Rd w w.heap.size (.slice (some ⟨g, o + 11, none⟩) l (c - 11)) ((b.drop 11).take l) := by
                refine ⟨some ⟨g, o + 11, none⟩, c - 11, by rw [hdl], by rw [hdl]; omega, by omega, (fun h => by cases h), fun _ => ⟨g, o + 11, rfl, hgs, fun i x hx => ?_⟩⟩
                have hi : i < l := by have := (List.getElem?_eq_some_iff.1 hx).1; omega
                have h9 := HC.out w (Below.refl _ _) (11 + i) (by omega)
                rw [List.getElem?_take, if_pos hi, List.getElem?_drop] at hx
                rw [List.getD_eq_getElem?_getD, hx] at h9
                rw [Nat.add_assoc]
                exact h9
              obtain ⟨i0, hi, hiz0, hiz1, hiz2⟩ := info_parts info_U8
              obtain ⟨d, hd⟩ : ∃ d, d = (b.drop 11).take l := ⟨_, rfl⟩
              rw [← hd] at hdl hrd ho
              have hba : Below w.heap.size w (w2.alloc (.cells #[] 5)).drew := (HB2.out.alloc HB2.out.size _).drew
              have hown : (w2.alloc (.cells #[] 5)).drew.ownsRow w.heap.size 5 1 (.slice (some ⟨w2.heap.size, 0, none⟩) 0 0) 0 (BS []) := World.ownsRow.drew (World.ownsRow_lit w2 #[] 0 HB2.out.size (by unfold maxLen; omega) rfl)
              obtain ⟨v5, w5, hap, ho5, hg5⟩ := run_app (P := Try.prog) (w := (w2.alloc (.cells #[] 5)).drew) w.heap.size 39 39 5 i0 Try.underlying39 hi hiz0 hiz1 hiz2 _ _ [] d 0 hown w.heap.size (hrd.below hba (Nat.le_refl _)) (by rw [hdl]; simp; omega) hba.size
              have hb5 : Below w.heap.size w w5 := hba.grown hg5 hba.size (fun k h => (hown.lt k h).1)
              obtain ⟨A5, cc5, hv5⟩ := own_slice ho5
              have hr5 : w5.heap[r]? = some (.cells #[.int .i64 0, .bool false, .slice none 0 0] 49 (0, 0)) := by
                have hne : some r ≠ (Value.slice (some ⟨w2.heap.size, 0, none⟩) 0 0).ownBlock := fun e => by have h1 : r = w2.heap.size := Option.some.inj e; have := HS2.out; have := HR.out; omega
                refine (hg5.block r (by show r < (w2.alloc _).heap.size; simp; have := HS2.out; have := HR.out; omega) hne).trans ?_
                show (w2.alloc _).heap[r]? = _
                rw [Below.heap_alloc _ _ _ (by have := HS2.out; have := HR.out; omega)]
                exact HR2.out
              have p0 : w5.cell? ⟨r, 0, none⟩ = some (.int .i64 0) := (row7 hr5).1 0
              have p1 : w5.cell? ⟨r, 1, none⟩ = some (.bool false) := (row7 hr5).1 1
              have p2 : w5.cell? ⟨r, 2, none⟩ = some (.slice none 0 0) := (row7 hr5).1 2
              have y0 : w5.frozen? ⟨r, 0, none⟩ = false := (row7 hr5).2 0
              have y1 : w5.frozen? ⟨r, 1, none⟩ = false := (row7 hr5).2 1
              have y2 : w5.frozen? ⟨r, 2, none⟩ = false := (row7 hr5).2 2
              have c8d : w2.drew.cell? ⟨g, o + 8, none⟩ = some (.int .u8 (f : Int)) := c8
              have c8a : (w2.alloc (.cells #[] 5)).drew.cell? ⟨g, o + 8, none⟩ = some (.int .u8 (f : Int)) := by
                have := HC.out (w2.alloc (.cells #[] 5)).drew hba 8 (by omega)
                rw [← HF.out] at this
                exact this
              have c8b : w5.cell? ⟨g, o + 8, none⟩ = some (.int .u8 (f : Int)) := by
                have := HC.out w5 hb5 8 (by omega)
                rw [← HF.out] at this
                exact this
              subst hv5
              have HAP := Lib.hid hap
              have HO := Lib.hid ho
              have HO5 := Lib.hid ho5
              have HB5 := Lib.hid hb5
              have HD := Lib.hid hdl
              have HFI := Lib.hid hfi
              have hge : w.heap.size ≤ r := by rw [HR.out]; exact Nat.le_refl _
              have HGE := Lib.hid hge
              have hrne : ∀ x, (Value.slice A5 (0 + d.length) cc5).ownBlock = some x → x ≠ r := fun x hx e => by
                obtain ⟨cur, hcur⟩ := row_type HO5.out hx
                rw [e, hr5] at hcur
                injection hcur with hcur
                injection hcur with _ hcur
                exact absurd hcur (by decide)
              have HRNE := Lib.hid hrne
              clear hown hg5 hap ho hff hfi hrd hba ho5 hb5 hr5 hdl hd hge hrne hno
              go_wp2_with fail
              go_region_law (refine stepApp rfl (.tmp 87) (.tmp 91) 39 rfl _ _ rfl rfl HAP.out ?_)
              all_goals go_wp2_with fail
              all_goals refine bodyPost_ret (v := .tuple #[.agg #[.int .i64 (n : Int), .bool ((f : Int) == 1), .slice A5 (0 + d.length) cc5], .bool true]) (by rw [results_cell_tmp rfl]; go_simp; first | done | exact wrapI _ (by omega) (by omega)) rfl ?_
              all_goals rw [HO.out, HFI.out]
              all_goals exact ⟨A5, 0 + d.length, cc5, rfl, RdN.own (row_same HO5.out fun x hx => by rw [set_other (HRNE.out x hx), set_other (HRNE.out x hx), set_other (HRNE.out x hx)]) (fun x hx => (HO5.out.lt x hx).1), ((HB5.out.setCell HGE.out _).setCell HGE.out _).setCell HGE.out _⟩
end Go.Proofs.Ytlokehekkllbeaa
