/-
  The program's ring: Open. No statement is proved here. No condition.
-/
import Derived.Test.YtplpfhgdanclhaaRGatherW
namespace Go.Proofs.Ytplpfhgdanclhaa
open Go.RowKit

/-- a ring that is opened -/
def opened (D : DS) (first count base : Nat) : RG := ⟨first, count, base, lastIn base (run (seen D first count) count (base + 1)), topTo (seen D first count) base count⟩
/-- what is in it -/
def inRing (D : DS) (first count base : Nat) : List (List UInt8) := whole [] (run (seen D first count) count (base + 1))
theorem opened_fine {D : DS} {first count base : Nat} (hc : 1 ≤ count) (hr : first + count ≤ 65536) (hl : first + count ≤ D.lasts.length) (hb : base ≤ 4611686018427387904) : (opened D first count base).fine := by
  have hs := seen_length hl
  have hg := run_get (seen D first count) count (base + 1)
  have hn : ∀ i p, (run (seen D first count) count (base + 1))[i]? = some p → p.n = base + 1 + i := fun i p hp => pcAt_num (hg i p hp)
  obtain ⟨h1, h2, -⟩ := lastIn_row _ base base hn (Nat.le_refl _)
  have hlen := run_length (seen D first count) count (base + 1)
  have ht : topTo (seen D first count) base count = topIn (seen D first count) base := by
    have := topTo_all (seen D first count) base
    rw [hs] at this
    exact this
  refine ⟨hc, hr, h2, by show lastIn _ _ ≤ base + count; omega, ?_, topTo_most _ _ hb _⟩
  show lastIn _ _ ≤ topTo _ _ _
  rw [ht]
  rcases Nat.eq_zero_or_pos (run (seen D first count) count (base + 1)).length with h0 | h0
  · have := (topIn_ge (seen D first count) base).1
    omega
  · have hl' : (run (seen D first count) count (base + 1)).length - 1 < (run (seen D first count) count (base + 1)).length := by omega
    have := hg _ _ (List.getElem?_eq_getElem hl')
    have h4 := (topIn_ge (seen D first count) base).2 _ _ (Nat.mod_lt _ (by omega)) (pcAt_of this)
    have h5 := pcAt_num this
    omega

theorem popen_nil (f c b : Int) (w : World) : Calls Try.prog 8 #[.pointer none, .int .i64 f, .int .i64 c, .int .i64 b] w fun e w' => e = .returned (.tuple #[.pointer none, .slice none 0 0, .int .i64 2]) ∧ w = w' := by
  go_enter Try.func8, Try.ntmps8
  go_wp2_with fail
  go_ret3
  exact ⟨rfl, rfl⟩

set_option maxHeartbeats 1000000 in
theorem popen_arg {w : World} {G S : Nat → Prop} {q : Nat} {D : DS} (hD : PD w G S q D) (hll : D.lasts.length ≤ 65536) (f c b : Int) (hf : f < 9223372036854775808) (hbad : f < 0 ∨ c < 1 ∨ (D.lasts.length : Int) - f < c ∨ b < 0 ∨ 4611686018427387904 < b) : Calls Try.prog 8 #[.pointer (some ⟨q, 0, none⟩), .int .i64 f, .int .i64 c, .int .i64 b] w fun e w' => e = .returned (.tuple #[.pointer none, .slice none 0 0, .int .i64 1]) ∧ w = w' := by
  have hlen := pLen_any G S q D w hD
  have key : f < 0 ∨ (¬ f < 0 ∧ c < 1) ∨ (¬ f < 0 ∧ ¬ c < 1 ∧ (D.lasts.length : Int) - f < c) ∨ (¬ f < 0 ∧ ¬ c < 1 ∧ ¬ (D.lasts.length : Int) - f < c ∧ b < 0) ∨ (¬ f < 0 ∧ ¬ c < 1 ∧ ¬ (D.lasts.length : Int) - f < c ∧ ¬ b < 0 ∧ 4611686018427387904 < b) := by omega
  clear hbad hD
  rcases key with h1 | ⟨h1, h2⟩ | ⟨h1, h2, h3⟩ | ⟨h1, h2, h3, h4⟩ | ⟨h1, h2, h3, h4, h5⟩
  · go_enter Try.func8, Try.ntmps8
    go_wp2_with fail
    go_ret3
    exact ⟨rfl, rfl⟩
  · go_enter Try.func8, Try.ntmps8
    go_wp2_with fail
    go_ret3
    exact ⟨rfl, rfl⟩
  all_goals
    go_enter Try.func8, Try.ntmps8
    go_wp2_with fail
    refine hlen.mono ?_
    rintro e w1 ⟨rfl, rfl⟩
    go_wp2_with fail
    go_ret3
    exact ⟨rfl, rfl⟩

set_option maxHeartbeats 4000000 in
set_option maxRecDepth 100000 in
theorem popen_any {w : World} {G S : Nat → Prop} {q : Nat} {D : DS} (hD : PD w G S q D) (hF : Fine D) (hG : ∀ b, G b → b < w.heap.size) (hdead : D.dead = false) (first count base : Nat) (hc : 1 ≤ count) (hl : first + count ≤ D.lasts.length) (hll : D.lasts.length ≤ 65536) (hb : base ≤ 4611686018427387904) :
    Calls Try.prog 8 #[.pointer (some ⟨q, 0, none⟩), .int .i64 (first : Int), .int .i64 (count : Int), .int .i64 (base : Int)] w fun e w' => ∃ r v, e = .returned (.tuple #[.pointer (some ⟨r, 0, none⟩), v, .int .i64 0]) ∧ Below w.heap.size w w' ∧ w.heap.size ≤ r ∧ RgAt w' r q (opened D first count base) ∧ LLN w' (fun x => r < x) (fun x => r < x) v (inRing D first count base) := by
  have hlen := pLen_any G S q D w hD
  have hop := opened_fine hc (by omega) hl hb
  have HD := Lib.hid hD
  have HF := Lib.hid hF
  have HG := Lib.hid hG
  have HOP := Lib.hid hop
  have j1 : ¬ (first : Int) < 0 := by omega
  have j2 : ¬ (count : Int) < 1 := by omega
  have j3 : ¬ (D.lasts.length : Int) - (first : Int) < (count : Int) := by omega
  have j4 : ¬ (base : Int) < 0 := by omega
  have j5 : ¬ (4611686018427387904 : Int) < (base : Int) := by omega
  clear hD hF hG hop
  go_enter Try.func8, Try.ntmps8
  go_wp2_with fail
  refine hlen.mono ?_
  rintro e w1 ⟨rfl, rfl⟩
  go_wp2_with fail
  obtain ⟨r, hr⟩ : ∃ r, r = w.heap.size := ⟨_, rfl⟩
  obtain ⟨w1, hw1⟩ : ∃ w1, w1 = w.alloc (.cells #[.pointer (some ⟨q, 0, none⟩), .int .i64 (first : Int), .int .i64 (count : Int), .int .i64 (base : Int), .int .i64 (base : Int), .int .i64 (base : Int)] 68) := ⟨_, rfl⟩
  rw [← hw1, ← hr]
  have hb1 : Below w.heap.size w w1 := by rw [hw1]; exact (Below.refl _ _).alloc (Nat.le_refl _) _
  have hs1 : w1.heap.size = w.heap.size + 1 := by rw [hw1]; simp
  obtain ⟨R0, hR0⟩ : ∃ R0 : RG, R0 = ⟨first, count, base, base, base⟩ := ⟨_, rfl⟩
  have hrg : RgAt w1 r q R0 := by rw [hR0, hw1, hr]; exact heap_alloc_new _ _
  have hf0 : R0.fine := by rw [hR0]; exact ⟨hc, by show first + count ≤ 65536; omega, Nat.le_refl _, by show base ≤ base + count; omega, Nat.le_refl _, hb⟩
  have hD1 : PD w1 G S q D := HD.out.kept (fun _ h => h) (fun _ h => h) (fun b hb _ => hb1.block b hb) (fun b _ _ hb => hb1.block b hb)
  have hlk := plook_any hrg hf0 hD1 HF.out (fun b hb => ⟨by have := HG.out b hb; omega, by have := HG.out b hb; omega⟩) hdead (by rw [hR0]; exact hl)
  have hcR : R0.count = count := by rw [hR0]
  have hfR : R0.first = first := by rw [hR0]
  rw [hcR, hfR] at hlk
  have HR0 := Lib.hid hR0
  have HRR := Lib.hid hr
  have HB1 := Lib.hid hb1
  have HS1 := Lib.hid hs1
  clear hw1 hr hrg hf0 hD1 hcR hfR hR0 hb1 hs1
  refine hlk.mono ?_
  rintro e w2 ⟨g, rfl, hg1, hg2, hinv⟩
  clear hlk
  have hsl := seen_length hl
  obtain ⟨T, hT⟩ : ∃ T, T = seen D first count := ⟨_, rfl⟩
  rw [← hT] at hinv hsl
  have hfin : (RG.mk first count base base (topTo T base count)).fine := by
    rw [hT]
    have h0 := HOP.out
    exact ⟨hc, h0.room, Nat.le_refl _, by show base ≤ base + count; omega, by
      have h1 := h0.low
      have h2 := h0.up
      have e1 : (opened D first count base).base = base := rfl
      have e2 : (opened D first count base).top = topTo (seen D first count) base count := rfl
      rw [e1] at h1
      rw [e2] at h2
      show base ≤ topTo _ _ _
      omega, h0.most⟩
  have hrg2 : RgAt w2 r q ⟨first, count, base, base, topTo T base count⟩ := by
    have := hinv.ring
    rw [HR0.out] at this
    exact this
  have hth2 : ThereAt w2 (fun x => w1.heap.size < x ∧ x < w2.heap.size) g (thereTo T T.length) := by rw [hsl]; exact hinv.there.kept (fun b h1 h2 => ⟨h1, h2⟩) (Nat.le_refl _) rfl (fun _ _ _ => rfl)
  have hga := pgather_any hrg2 hfin rfl hsl hth2 (fun x hx => ⟨hx.2, by have := HRR.out; have := HS1.out; omega⟩)
  have HK2 := Lib.hid hinv.kept
  have HT := Lib.hid hT
  have hs2 := hinv.kept.size
  clear hinv hrg2 hth2 hT hfin
  go_wp2_with fail
  refine hga.mono ?_
  rintro e w3 ⟨v, rfl, hll3, hrg3, hk3⟩
  clear hga
  have HLL := Lib.hid hll3
  have HRG := Lib.hid hrg3
  have HK3 := Lib.hid hk3
  clear hll3 hrg3 hk3
  go_wp2_with fail
  go_ret3
  have hrr := HRR.out
  have hs1 := HS1.out
  have k2 : Below w.heap.size w1 w2 := HK2.out.below (by omega) (fun b hb => by omega)
  have k3 : Below w.heap.size w2 w3 := HK3.out.below (by omega) (fun b hb => by omega)
  refine ⟨r, v, rfl, (HB1.out.trans k2).trans k3, by omega, ?_, ?_⟩
  · have := HRG.out
    unfold opened
    rw [← HT.out]
    rw [hsl] at this
    exact this
  · have := HLL.out
    unfold inRing
    rw [← HT.out]
    rw [hsl] at this
    exact this.kept (fun b h _ => by omega) (fun b h _ => by omega) (Nat.le_refl _) (fun _ _ _ => rfl)
end Go.Proofs.Ytplpfhgdanclhaa
