/-
  The example that every law of package ring asks first, walked. No statement is proved here. No condition.
-/
import Derived.Test.YtplpfhgdanclhaaRAwake
namespace Go.Proofs.Ytplpfhgdanclhaa
open Go.RowKit

theorem sec_ab : (Pc.sec ⟨1, true, AB⟩).length = 512 ∧ (Pc.sec ⟨1, true, AB⟩)[0]? = some 1 ∧ (Pc.sec ⟨1, true, AB⟩)[8]? = some 1 ∧ (Pc.sec ⟨1, true, AB⟩)[9]? = some 2 ∧ (Pc.sec ⟨1, true, AB⟩)[11]? = some 97 := ⟨Pc.sec_length _ (by decide), rfl, rfl, rfl, rfl⟩

set_option maxHeartbeats 4000000 in
set_option maxRecDepth 100000 in
theorem awake_any (w : World) : Calls Try.prog 9 #[] w fun e w' => e = .returned (.bool true) ∧ Below w.heap.size w w' := by
  obtain ⟨D1, D2, e1, e2, d1, d2, f1, f2, hl2, ho2, hin2, hrd2⟩ := awake_disks
  obtain ⟨o0, i0, -⟩ := new_blank 20 2 4 0 (by omega) (by omega) (by omega)
  have f0 : Fit (DS.new 20) 0 := Fit.new (by omega)
  have hll : (DS.new 20).lasts.length = 20 := List.length_replicate
  have hdd : (DS.new 20).dead = false := rfl
  obtain ⟨D0, hD0⟩ : ∃ D0, D0 = DS.new 20 := ⟨_, rfl⟩
  rw [← hD0] at e1 o0 i0 f0 hll hdd
  have cN := pNew_yes 20 w (by omega) (by omega)
  rw [← hD0] at cN
  have E1 := Lib.hid e1
  have E2 := Lib.hid e2
  have O2 := Lib.hid ho2
  have I2 := Lib.hid hin2
  have R2 := Lib.hid hrd2
  have O0 := Lib.hid o0
  have I0 := Lib.hid i0
  have F0 := Lib.hid f0
  have F1 := Lib.hid f1
  have F2 := Lib.hid f2
  clear hD0 e1 e2 ho2 hin2 hrd2 o0 i0 f0 f1 f2
  go_enter Try.func9, Try.ntmps9
  go_wp2_with fail
  refine cN.mono ?_
  rintro e w1 ⟨hb1, q, rfl, hd1⟩
  clear cN
  have hs1 := hb1.size
  have cO := popen_any hd1 (F0.out.fine (by omega)) (fun b hb => hb.2) hdd 2 4 0 (by omega) (by rw [hll]; omega) (by rw [hll]; omega) (by omega)
  rw [O0.out, I0.out] at cO
  go_wp2_with fail
  refine cO.mono ?_
  rintro e w2 ⟨r, v, rfl, hb2, hr2, hrg2, hll2⟩
  clear cO
  have hs2 := hb2.size
  have hrl := hrg2.lt
  have hd2 : PD w2 (Made w w1) Nil q D0 := hd1.kept (fun _ h => h) (fun _ h => h) (fun b hb _ => hb2.block b hb) (fun b _ _ hb => hb2.block b hb)
  obtain ⟨w3, hcv, hr3, hb3⟩ := lit_bytes w2 #[.int .u8 97, .int .u8 98] AB 2 rfl rfl (by unfold maxLen; decide)
  have hs3 := hb3.size
  have hd3 : PD w3 (Made w w1) Nil q D0 := hd2.kept (fun _ h => h) (fun _ h => h) (fun b hb _ => hb3.block b hb) (fun b _ _ hb => hb3.block b hb)
  have hrg3 : RgAt w3 r q aR0 := hrg2.kept (hb3.block r hrg2.lt)
  have cA := pappend_any hrg3 ⟨by decide, by decide, by decide, by decide, by decide, by decide⟩ hd3 F0.out (fun b hb => ⟨by have := hb.2; omega, by have := hb.2; omega⟩) AB _ (hr3.mono (fun x hx _ hm => by have := hm.2; omega)) (by decide) (by decide)
  rw [E1.out] at cA
  clear hll2 hrg2 hd1 hd2 hrg3 hd3 hr3
  go_wp2_with fail
  refine cA.mono ?_
  rintro e w4 ⟨rfl, hk4, hd4, hrg4⟩
  have hk4' := hk4
  clear cA hcv
  have hs4 := hk4.size
  obtain ⟨w5, hmk, hz5, hb5⟩ := made_noughts 502 (by omega) w4
  have hmk : (Instr.makeSlice 39 (.int .i64 502) (.int .i64 502)).run Try.prog w4 = .ok (.slice (some ⟨w4.heap.size, 0, none⟩) 502 502) w5 := hmk
  have hs5 := hb5.size
  have hd5 : PD w5 (More (Made w w1) w3 w4) (More Nil w3 w4) q D1 := hd4.kept (fun _ h => h) (fun _ h => h) (fun b hb _ => hb5.block b hb) (fun b _ _ hb => hb5.block b hb)
  have hrg5 : RgAt w5 r q aR1 := hrg4.kept (hb5.block r hrg4.lt)
  have hG4 : ∀ b, More (Made w w1) w3 w4 b → b < w4.heap.size ∧ b ≠ r := fun b hb => by
    rcases hb with h | h
    · have := h.2; exact ⟨by omega, by omega⟩
    · exact ⟨h.2, by omega⟩
  have cB := pappend_any hrg5 ⟨by decide, by decide, by decide, by decide, by decide, by decide⟩ hd5 F1.out (fun b hb => ⟨by have := (hG4 b hb).1; omega, (hG4 b hb).2⟩) Z502 _ (RdN.own hz5 (fun b hb hm => by have h1 : w4.heap.size = b := Option.some.inj hb; have := (hG4 b hm).1; omega)) (by rw [z502_length]; omega) (by rw [z502_length]; decide)
  rw [E2.out] at cB
  clear hk4 hd4 hrg4 hd5 hrg5
  go_wp2_with fail
  refine cB.mono ?_
  rintro e w6 ⟨rfl, hk6, hd6, hrg6⟩
  have hk6' := hk6
  clear cB hmk hz5
  have hs6 := hk6.size
  obtain ⟨G6, hG6⟩ : ∃ G6, G6 = More (More (Made w w1) w3 w4) w5 w6 := ⟨_, rfl⟩
  have hG6b : ∀ b, G6 b → b < w6.heap.size ∧ b ≠ r := fun b hb => by
    rw [hG6] at hb
    rcases hb with h | h
    · have := hG4 b h; exact ⟨by omega, this.2⟩
    · exact ⟨h.2, by omega⟩
  have hG6w : ∀ b, G6 b → w.heap.size ≤ b := fun b hb => by
    rw [hG6] at hb
    rcases hb with (h | h) | h
    · exact h.1
    · have := h.1; omega
    · have := h.1; omega
  obtain ⟨S6, hS6⟩ : ∃ S6, S6 = More (More Nil w3 w4) w5 w6 := ⟨_, rfl⟩
  rw [← hG6, ← hS6] at hd6
  have cl := plast_any hrg6
  rw [show aR2.last = 3 from rfl, show ((3 : Nat) : Int) = 3 from rfl] at cl
  have cr := proom_any hrg6 ⟨by decide, by decide, by decide, by decide, by decide, by decide⟩
  rw [show aR2.room' = 1 by decide, show ((1 : Nat) : Int) = 1 from rfl] at cr
  have B1 : Below w.heap.size w w3 := (hb1.trans (Joins.below_le hb2 (by omega))).trans (Joins.below_le hb3 (by omega))
  have B4 : Below w.heap.size w w4 := B1.trans (hk4'.below (by omega) (fun b hb => by
    rcases hb with h | h
    · exact h.1.1
    · omega))
  have B5 : Below w.heap.size w w5 := B4.trans (Joins.below_le hb5 (by omega))
  have B6 : Below w.heap.size w w6 := B5.trans (hk6'.below (by omega) (fun b hb => by
    rcases hb with h | h
    · have := h.1
      rcases this with h' | h'
      · exact h'.1
      · have := h'.1; omega
    · omega))
  have HB6 := Lib.hid B6
  have HD6 := Lib.hid hd6
  have HR6 := Lib.hid hrg6
  have hr6l := hrg6.lt
  clear B1 B4 B5 B6 hk4' hk6' hk6 hd6 hrg6 hb1 hb2 hb3 hb5 hG6 hS6
  go_wp2_with fail
  refine cl.mono ?_
  rintro e w7 ⟨rfl, rfl⟩
  clear cl
  go_wp2_with fail
  refine cr.mono ?_
  rintro e w7 ⟨rfl, kk, rfl⟩
  clear cr
  obtain ⟨w7, hw7⟩ : ∃ w7, w7 = w6.drewN kk := ⟨_, rfl⟩
  have hb7 : Below w6.heap.size w6 w7 := by rw [hw7]; exact ⟨rfl, rfl, rfl, Nat.le_refl _, fun _ _ => rfl⟩
  rw [← hw7]
  have hs7 := hb7.size
  have hd7 : PD w7 G6 S6 q D2 := HD6.out.kept (fun _ h => h) (fun _ h => h) (fun b hb _ => hb7.block b hb) (fun b _ _ hb => hb7.block b hb)
  have cR := pRead_any G6 S6 q D2 3 w7 hd7 F2.out.ok (by omega)
  rw [R2.out] at cR
  clear hw7
  go_wp2_with fail
  refine cR.mono ?_
  rintro e w8 ⟨v8, n8, rfl, hn8, ho8, hb8⟩
  clear cR
  rw [sec_ab.1] at hn8
  subst hn8
  obtain ⟨g8, cap8, rfl, hg8, hg8'⟩ := ho8.form (by omega)
  have kx : ∀ (i : Nat) (x : UInt8), (Pc.sec ⟨1, true, AB⟩)[i]? = some x → w8.cell? ⟨g8, i, none⟩ = some (.int .u8 (x.toNat : Int)) := fun i x hx => by
    have hi : i < 512 := by rw [← sec_ab.1]; exact (List.getElem?_eq_some_iff.1 hx).1
    rw [ho8.cellAt i (by omega)]
    unfold BS
    rw [List.getElem?_map, hx]
    rfl
  have k0 := kx 0 1 sec_ab.2.1
  have k8 := kx 8 1 sec_ab.2.2.1
  have k9 := kx 9 2 sec_ab.2.2.2.1
  have k11 := kx 11 97 sec_ab.2.2.2.2
  have hs8 := hb8.size
  have hd8 : PD w8 G6 S6 q D2 := hd7.kept (fun _ h => h) (fun _ h => h) (fun b hb _ => hb8.block b hb) (fun b _ _ hb => hb8.block b hb)
  have cO := popen_any hd8 (F2.out.fine (by omega)) (fun b hb => by have := (hG6b b hb).1; omega) d2 2 4 0 (by omega) (by rw [hl2]; omega) (by rw [hl2]; omega) (by omega)
  rw [O2.out, I2.out] at cO
  clear hd7 hd8 ho8 kx
  go_wp2_with fail
  refine cO.mono ?_
  rintro e w9 ⟨r9, v9, rfl, hb9, hr9, hrg9, hll9⟩
  clear cO
  have hs9 := hb9.size
  have m0 : w9.cell? ⟨g8, 0, none⟩ = some (.int .u8 1) := (hb9.cell (p := ⟨g8, 0, none⟩) hg8').trans k0
  have m8 : w9.cell? ⟨g8, 8, none⟩ = some (.int .u8 1) := (hb9.cell (p := ⟨g8, 8, none⟩) hg8').trans k8
  have m9 : w9.cell? ⟨g8, 9, none⟩ = some (.int .u8 2) := (hb9.cell (p := ⟨g8, 9, none⟩) hg8').trans k9
  have m11 : w9.cell? ⟨g8, 11, none⟩ = some (.int .u8 97) := (hb9.cell (p := ⟨g8, 11, none⟩) hg8').trans k11
  obtain ⟨xs, hel, A9, c9, rfl, -, -, -, hbl⟩ := hll9
  obtain ⟨b9, o9, rfl, -, -, hc9⟩ := hbl (by simp)
  obtain ⟨Aa, na, ca, ha1, ha2⟩ := hel.2 0 AB rfl
  obtain ⟨Az, nz, cz, hz1, hz2⟩ := hel.2 1 Z502 rfl
  have l0 : w9.cell? ⟨b9, o9, none⟩ = some (.slice Aa na ca) := hc9 0 _ ha1
  have l1 : w9.cell? ⟨b9, o9 + 1, none⟩ = some (.slice Az nz cz) := hc9 1 _ hz1
  have hstr : (convert 39 9 (.slice Aa na ca)).run Try.prog w9 = .ok (.string ⟨AB.toArray⟩) w9 := run_str (P := Try.prog) 39 5 9 Try.underlying39 Try.underlying5 Try.underlying9 ha2.rd
  have hnz : nz = 502 := by
    obtain ⟨A', c', he, -⟩ := hz2
    cases he
    exact z502_length
  subst hnz
  have cl9 := plast_any hrg9
  rw [show aR2.last = 3 from rfl, show ((3 : Nat) : Int) = 3 from rfl] at cl9
  have HB8 := Lib.hid hb8
  have HB9 := Lib.hid hb9
  have HB7 := Lib.hid hb7
  clear k0 k8 k9 k11 hc9 ha1 hz1 ha2 hz2 hel hbl hrg9 hb8 hb9 hb7
  go_wp2_with fail
  refine cl9.mono ?_
  rintro e w10 ⟨rfl, rfl⟩
  go_wp2_with fail
  go_ret
  have l7 := HB6.out.trans (Joins.below_le HB7.out HB6.out.size)
  have l8 := l7.trans (Joins.below_le HB8.out l7.size)
  exact ⟨rfl, l8.trans (Joins.below_le HB9.out l8.size)⟩
end Go.Proofs.Ytplpfhgdanclhaa
