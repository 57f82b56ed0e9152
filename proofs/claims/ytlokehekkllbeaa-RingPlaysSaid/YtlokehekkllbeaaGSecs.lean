/-
  The law's 'sectors': those of a ring, as they are read. No statement is proved here. No condition.
-/
import Derived.Test.YtlokehekkllbeaaGSmall
namespace Go.Proofs.Ytlokehekkllbeaa
open Go.RowKit

section
variable {w : World} {N : Nat → Prop} {x r q : Nat} {S : List (List UInt8)} {R : RG} {G S' : Nat → Prop} {D : DS}
/-- sectors that were read: i of them -/
structure SecsSt (w wr : World) (T : List (List UInt8)) (i : Nat) (v : Value) (xs : List Value) : Prop where
  own : wr.ownsRow w.heap.size 39 1 v i xs
  els : Els wr (fun x => w.heap.size ≤ x ∧ IsSec wr x) xs (T.take i)
  bel : Below w.heap.size w wr
theorem SecsSt.moved {w wr w' : World} {T : List (List UInt8)} {i : Nat} {v : Value} {xs : List Value} (h : SecsSt w wr T i v xs) (hb : Below wr.heap.size wr w') : SecsSt w w' T i v xs :=
  ⟨row_same h.own fun x hx => hb.block x (h.own.lt x hx).2, h.els.kept (fun x hx hl => ⟨hx.1, by obtain ⟨C, hC⟩ := hx.2; exact ⟨C, (hb.block x hl).trans hC⟩⟩) hb.size (fun x _ hl => hb.block x hl), h.bel.trans (Joins.below_le hb h.bel.size)⟩
theorem SecsSt.push {w wr w' : World} {T : List (List UInt8)} {i : Nat} {v v' : Value} {xs : List Value} (h : SecsSt w wr T i v xs) {A : Option Addr} {n c : Nat} {b : List UInt8} (hb : RdN wr (fun x => w.heap.size ≤ x ∧ IsSec wr x) (.slice A n c) b) (hT : T[i]? = some b) (ho : w'.ownsRow w.heap.size 39 1 v' (i + 1) (xs ++ [Value.slice A n c])) (hg : wr.grownBy w' v.ownBlock) : SecsSt w w' T (i + 1) v' (xs ++ [Value.slice A n c]) := by
  have hne : ∀ x, IsSec wr x → v.ownBlock ≠ some x := fun x hx e => by
    obtain ⟨C, hC⟩ := hx
    obtain ⟨cur, hcur⟩ := row_type h.own e
    rw [hcur] at hC
    injection hC with hC
    injection hC with _ hC
    exact absurd hC (by decide)
  have hk : ∀ x, (w.heap.size ≤ x ∧ IsSec wr x) → x < wr.heap.size → w'.heap[x]? = wr.heap[x]? := fun x hx hl => hg.block x hl (fun e => hne x hx.2 e.symm)
  refine ⟨ho, ?_, h.bel.grown hg h.bel.size (fun x hx => (h.own.lt x hx).1)⟩
  rw [take_snoc hT]
  exact (h.els.snoc hb).kept (fun x hx hl => ⟨hx.1, by obtain ⟨C, hC⟩ := hx.2; exact ⟨C, (hk x hx hl).trans hC⟩⟩) hg.size hk

set_option maxHeartbeats 2000000 in
theorem sectors_any (hD : PD w G S' q D) (hok : D.ok) (hlive : D.dead = false) (first count : Nat) (hl : first + count ≤ D.lasts.length) (hll : D.lasts.length ≤ 65536) :
    Calls Try.prog 7 #[.pointer (some ⟨q, 0, none⟩), .int .i64 (first : Int), .int .i64 (count : Int)] w fun e w' => ∃ v, e = .returned (.tuple #[v, .bool true]) ∧ LL w' v (seen D first count) ∧ Below w.heap.size w w' := by
  have hsl := seen_length hl
  have hread : ∀ i, i < count → ∃ b, (seen D first count)[i]? = some b ∧ b.length = 512 ∧ D.read ((first : Int) + (i : Int)) = (0, b) := fun i hi => by
    refine ⟨look D.lasts D.waits (first + i), ?_, look_length hok (by omega), ?_⟩
    · have := seen_get hl hi
      rw [List.getD_eq_getElem?_getD, List.getElem?_eq_getElem (by omega)] at this
      rw [List.getElem?_eq_getElem (by omega)]
      exact congrArg some this
    · unfold DS.read
      rw [hlive, if_neg Bool.false_ne_true, if_pos (by unfold inside; rw [decide_eq_true (by omega), decide_eq_true (by omega)]; rfl), show ((first : Int) + (i : Int)).toNat = first + i by omega]
  obtain ⟨T, hT⟩ : ∃ T, T = seen D first count := ⟨_, rfl⟩
  rw [← hT] at hsl hread ⊢
  obtain ⟨ib, hib, hzb0, hzb1, hzb2⟩ := info_parts info_BB
  have HR := Lib.hid hread
  have HSL := Lib.hid hsl
  have HPD := Lib.hid hD
  have HOK := Lib.hid hok
  have hfc : first + count ≤ 65536 := by omega
  have HDL := Lib.hid hll
  clear hread hsl hD hok hT hlive hll hl
  go_enter Try.func7, Try.ntmps7
  go_wp2_with fail
  go_loopw [8, 9, 10, 11] (fun v i _ _ wr => ∃ (k : Nat) (xs : List Value), i = .int .i64 k ∧ k ≤ count ∧ Hid (SecsSt w wr T k v xs)) (fun _ i _ _ _ => count - (intOf i).toNat)
  case atStart => exact ⟨0, [], rfl, Nat.zero_le _, Lib.hid ⟨World.ownsRow_nil _ _ _ _, Els.nil _ _, Below.refl _ _⟩⟩
  case round =>
    obtain ⟨k, xs, rfl, hk, hst⟩ := hrel
    obtain ⟨A8, c8, hv8⟩ := own_slice hst.out.own
    by_cases hkl : k < count
    · have i1 : (k : Int) < (count : Int) := by omega
      have hsw := hst.out.bel.size
      have hpd : PD wr G S' q D := HPD.out.kept (fun _ h => h) (fun _ h => h) (fun b hb _ => hst.out.bel.block b hb) (fun b _ _ hb => hst.out.bel.block b hb)
      obtain ⟨b, hb1, hb2, hb3⟩ := HR.out k hkl
      have cR := pRead_any G S' q D ((first : Int) + (k : Int)) wr hpd HOK.out (by have := HDL.out; omega)
      rw [hb3] at cR
      subst hv8
      have HB1 := Lib.hid hb1
      have HB2 := Lib.hid hb2
      clear hb1 hb2 hb3 hpd
      go_wp2_with fail
      refine cR.mono ?_
      rintro e w5 ⟨v5, n5, rfl, hn5, ho5, hb5⟩
      clear cR
      obtain ⟨A5, c5, rfl⟩ := own_slice ho5
      have hn5' : n5 = 512 := by rw [hn5]; exact HB2.out
      subst hn5'
      have hs5 := hb5.size
      have hst5 := hst.out.moved hb5
      have hrd5 : RdN w5 (fun x => w.heap.size ≤ x ∧ IsSec w5 x) (.slice A5 512 c5) b := RdN.own ho5 (fun x hx => ⟨by have := (ho5.lt x hx).1; omega, row_type ho5 hx⟩)
      have hb6 : Below w5.heap.size w5 (w5.alloc (.cells #[Value.slice A5 512 c5] 39)) := (Below.refl _ _).alloc (Nat.le_refl _) _
      have hst6 := hst5.moved hb6
      have hrd6 : RdN (w5.alloc (.cells #[Value.slice A5 512 c5] 39)) (fun x => w.heap.size ≤ x ∧ IsSec (w5.alloc (.cells #[Value.slice A5 512 c5] 39)) x) (.slice A5 512 c5) b := hrd5.kept (fun x hx hl => ⟨hx.1, by obtain ⟨C, hC⟩ := hx.2; exact ⟨C, (hb6.block x hl).trans hC⟩⟩) hb6.size (fun x _ hl => hb6.block x hl)
      have hrow6 : RowAt (w5.alloc (.cells #[Value.slice A5 512 c5] 39)) (.slice (some ⟨w5.heap.size, 0, none⟩) 1 1) 1 1 [Value.slice A5 512 c5] := RowAt.of_own (World.ownsRow_lit (base := 0) (e := 39) (size := 1) w5 #[Value.slice A5 512 c5] 1 (Nat.zero_le _) (by unfold maxLen; omega) rfl)
      have HST6 := Lib.hid hst6
      have HRD6 := Lib.hid hrd6
      have HROW6 := Lib.hid hrow6
      have hbase6 := hst6.bel.size
      clear hst5 hst6 hrd5 hrd6 hrow6 hb6 ho5 hb5 hn5
      go_upto_region 4 with (at_builtin; go_must (refine wpList_appAt rfl (.tmp 32) (.tmp 34) 28 rfl w.heap.size 39 ib _ 1 24 Try.underlying28 hib hzb0 hzb1 hzb2 rfl (by decide) _ _ k xs 1 [Value.slice A5 512 c5] rfl rfl HST6.out.own HROW6.out (fun u hu => by simp at hu; rw [hu]; rfl) (by unfold maxLen; omega) (by omega) hbase6 ?_; intro A9 c9 w9 ho9 hg9 hat9))
      have hnx := HST6.out.push HRD6.out HB1.out ho9 hg9
      have HNX := Lib.hid hnx
      clear hnx ho9 hg9 hat9 HST6 HRD6 HROW6
      go_wp2_with fail
      exact ⟨⟨k + 1, _, by go_num, hkl, HNX⟩, by simp [intOf]; omega⟩
    · have i1 : ¬ (k : Int) < (count : Int) := by omega
      obtain rfl : k = count := by omega
      subst hv8
      go_wp2_with fail
      go_ret2
      have hT : T.take k = T := List.take_of_length_le (by rw [HSL.out]; exact Nat.le_refl _)
      have he := hst.out.els
      rw [hT] at he
      exact ⟨_, rfl, (LLN.own (M := fun _ => True) hst.out.own he (fun _ _ => trivial)).ll, hst.out.bel⟩
end
end Go.Proofs.Ytlokehekkllbeaa
