/-
  Lists of entries held against each other, by the document's words. No statement is proved here. No condition.
-/
import Derived.Test.YtjfcofalhajgfaaLSame
namespace Go.Proofs.Ytjfcofalhajgfaa
open Go.RowKit

set_option maxHeartbeats 4000000 in
set_option maxRecDepth 100000 in
theorem sames_any (l m : List EN) (v1 v2 : Value) (w : World) (h1 : EntN w Any v1 l) (h2 : EntN w Any v2 m) (heq : l = m) :
    Calls Try.prog 45 #[v1, v2] w fun e w' => e = .returned (.bool true) ∧ Below w.heap.size w w' := by
  subst heq
  obtain ⟨A1, c1, rfl, hl1, hm1⟩ := h1.slice
  obtain ⟨A2, c2, rfl, hl2, hm2⟩ := h2.slice
  have hl : l.length ≤ maxLen := Nat.le_trans hl1 hm1
  unfold maxLen at hl
  have H := Lib.hid (And.intro h1 h2)
  clear h1 h2 hl1 hm1 hl2 hm2
  go_enter Try.func45, Try.ntmps45
  go_wp2_with fail
  go_loopw [5] (fun s5 wr => ∃ i : Nat, s5 = .int .i64 (i : Int) ∧ i ≤ l.length ∧ Hid (Below w.heap.size w wr)) (fun s5 _ => l.length - (intOf s5).toNat)
  case atStart => exact ⟨0, rfl, Nat.zero_le _, Lib.hid (Below.refl _ _)⟩
  case round =>
    obtain ⟨i, rfl, hi, hW⟩ := hrel
    obtain ⟨wz, hwz⟩ : ∃ wz : World, wz = wr := ⟨_, rfl⟩
    subst hwz
    by_cases hil : i < l.length
    · have a1 : (i : Int) < (l.length : Int) := by omega
      have a0 : (0 : Int) ≤ (i : Int) := by omega
      obtain ⟨x, hx⟩ : ∃ x, l[i]? = some x := ⟨_, List.getElem?_eq_getElem hil⟩
      have hd : Below w.heap.size w wz.drew := hW.out.trans (Below.refl _ _).drew
      obtain ⟨b, o, n, k, A3, c3, hv, -, -, hli, y0, y1, y2, y3⟩ := (H.out.1.grow hd).cell hx
      injection hv with v1 v2 v3
      subst v1 v3
      obtain ⟨b', o', n', k', A4, c4, hv, -, -, hli2, z0, z1, z2, z3⟩ := (H.out.2.grow hd).cell hx
      injection hv with v4 v5 v6
      subst v4 v6
      have cS := same_any x x (.slice A3 x.list.length c3) (.slice A4 x.list.length c4) wz.drew hli.any hli2.any
      have hr : x.same x = true := by
        unfold EN.same
        have : sameL iSame x.list x.list = true := sameL_all rfl fun j a b ha hb => by
          have := Option.some.inj (ha.symm.trans hb)
          subst this
          simp [iSame]
        simp [this]
      rw [hr] at cS
      unfold EN.agg at cS
      obtain ⟨e0, e1, e2, e3⟩ : wz.cell? ⟨b, o + i * 4, none⟩ = some (.int .i64 x.term) ∧ wz.cell? ⟨b, o + i * 4 + 1, none⟩ = some (.int .u8 x.kind) ∧ wz.cell? ⟨b, o + i * 4 + 2, none⟩ = some (.string x.data) ∧ wz.cell? ⟨b, o + i * 4 + 3, none⟩ = some (.slice A3 x.list.length c3) := ⟨y0, y1, y2, y3⟩
      obtain ⟨f0, f1, f2, f3⟩ : wz.cell? ⟨b', o' + i * 4, none⟩ = some (.int .i64 x.term) ∧ wz.cell? ⟨b', o' + i * 4 + 1, none⟩ = some (.int .u8 x.kind) ∧ wz.cell? ⟨b', o' + i * 4 + 2, none⟩ = some (.string x.data) ∧ wz.cell? ⟨b', o' + i * 4 + 3, none⟩ = some (.slice A4 x.list.length c4) := ⟨z0, z1, z2, z3⟩
      have HD := Lib.hid hd
      clear hli hli2 hr hx hd v2 v5
      go_upto_region 6 with fail
      go_still_tail 8, (by kernel_rfl)
      change wpList _ _ _ _ _ wz.drew
      go_wp2_with fail
      refine cS.mono ?_
      rintro e w2 ⟨rfl, hb2⟩
      have HF := Lib.hid (HD.out.trans (Joins.below_le hb2 HD.out.size))
      clear hb2 cS
      go_wp2_with fail
      exact ⟨⟨i + 1, by go_num, hil, HF⟩, by simp [intOf]; omega⟩
    · have a1 : ¬ (i : Int) < (l.length : Int) := by omega
      go_wp2_with fail
      go_ret
      exact ⟨rfl, hW.out⟩
end Go.Proofs.Ytjfcofalhajgfaa
