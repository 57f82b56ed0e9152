/-
  What the document's own Open (butteryref02) comes to: the same. Condition: the bytes lie in memory.
-/
import Derived.Test.YtfmaocinckeagaaDoorOpen
import Derived.Test.YtfmaocinckeagaaDoorSumRef
import Derived.Deep.RegionLaw
namespace Go.Proofs.YtfmaocinckeagaaDoor
open Go.RowKit

theorem below_n {B : Nat} {a w : World} (h : Below B a w) (n : Nat) : Below B a (w.drewN n) := ⟨h.os, h.tape, h.output, h.size, h.block⟩
theorem byteAt_drop (l : List UInt8) (n q : Nat) : byteAt (l.drop n) q = byteAt l (n + q) := by
  unfold byteAt
  simp [List.getD]
theorem four_is {l : List UInt8} {s : Nat} (_hs : s < 4294967296) : s = fourAt l ↔ byteAt l 0 = s % 256 ∧ byteAt l 1 = s / 256 % 256 ∧ byteAt l 2 = s / 65536 % 256 ∧ byteAt l 3 = s / 16777216 := by
  have b0 := byteAt_lt l 0
  have b1 := byteAt_lt l 1
  have b2 := byteAt_lt l 2
  have b3 := byteAt_lt l 3
  unfold fourAt
  omega
theorem slice_between (W : World) (b o len c : Nat) (h : Int) (k m : Nat) (hk : h = (m : Int)) (hl : k ≤ m) (hc : m ≤ c) (hkc : k < c) :
    (Instr.slice 27 (.slice (some ⟨b, o, none⟩) len c) (some (.int .i64 (k : Int))) (some (.int .i64 h)) none).run Tryd.prog W = .ok (.slice (some ⟨b, o + k, none⟩) (m - k) (c - k)) W := by
  subst hk
  rw [run_slice_lh _ _ _ _ _ elem_bytes .i64 .i64 (k : Int) (m : Int) (by omega) (by omega) (by omega), size_bytes]
  simp only [Result.andThen, sliced, Int.toNat_natCast, Nat.mul_one]
  rw [if_neg (by omega)]
  simp [plus_zero]
/-- append, as one step of a region that draws: by the run itself -/
theorem step_app {P : Program} {ops : Array Oper} {o : Oper} {a : Act} {w w' : World} {v' : Value} {K : Act → World → Prop} {Q : Exit → Act → World → Prop} {E : Prop} (hg : o.guard = none) (s x : Operand) (t : TypeId)
    (hop : o.op = Op.call { callee := Callee.builtin Builtin.append, args := #[s, x], argTypes := #[t, t] }) (vs vx : Value) (hs : a.eval s = vs) (hx : a.eval x = vx)
    (hrun : (Builtin.append_ #[t, t] o.type #[vs, vx]).run P w = .ok v' w') (hK : K (a.put o.dst v') w') : if Region.wanted o (yielded ops a.tmps) = true then Oper.wp P o a w K Q else E := by
  have hw : Region.wanted o (yielded ops a.tmps) = true := by simp [Region.wanted, hg]
  rw [if_pos hw]
  unfold Oper.wp execOp
  simp only [hop, resolve, invoke, builtin, Sem.run_bind, Sem.run_pure, Result.andThen_ok, List.map_toArray, List.map_cons, List.map_nil, hs, hx, hrun]
  exact hK
/-- the sum's byte -/
def sumByte (s j : Nat) : Nat := s / 256 ^ j % 256

theorem sb0 (s : Nat) : sumByte s 0 = s % 256 := by simp [sumByte]
theorem sb1 (s : Nat) : sumByte s 1 = s / 256 % 256 := by simp [sumByte]
theorem sb2 (s : Nat) : sumByte s 2 = s / 65536 % 256 := by simp [sumByte]
theorem sb3 (s : Nat) : sumByte s 3 = s / 16777216 % 256 := by simp [sumByte]
theorem sum_right {l : List UInt8} {S : Nat} (hS : S < 4294967296) : S = fourAt l ↔ ∀ q, q < 4 → byteAt l q = sumByte S q := by
  rw [four_is hS]
  constructor
  · rintro ⟨h0, h1, h2, h3⟩ q hq
    have hcase : q = 0 ∨ q = 1 ∨ q = 2 ∨ q = 3 := by omega
    rcases hcase with rfl | rfl | rfl | rfl
    · rw [h0, sb0]
    · rw [h1, sb1]
    · rw [h2, sb2]
    · rw [h3, sb3]; omega
  · intro h
    have h3 := h 3 (by omega)
    rw [sb3] at h3
    exact ⟨(h 0 (by omega)).trans (sb0 S), (h 1 (by omega)).trans (sb1 S), (h 2 (by omega)).trans (sb2 S), by omega⟩
theorem no_sum {l : List UInt8} {n S j : Nat} (hS : S < 4294967296) (HSS : Hid (S = sumN 0 (l.take (n + 3)))) (HN : Hid (l.length = n + 7)) (HF : Hid (formOf l = true)) (hj : j < 4) (h : byteAt (l.drop (n + 3)) j ≠ sumByte S j) : Hid (openedOf l = (30, 0, [])) := by
  have hs : summed l = false := by
    unfold summed
    rw [show l.length - 4 = n + 3 by rw [HN.out]; omega, ← HSS.out]
    exact decide_eq_false fun e => h ((sum_right hS).1 e j hj)
  unfold Hid openedOf
  rw [HF.out, hs]
  rfl
theorem yes_sum {l : List UInt8} {n S : Nat} (hS : S < 4294967296) (HSS : Hid (S = sumN 0 (l.take (n + 3)))) (HN : Hid (l.length = n + 7)) (HF : Hid (formOf l = true)) (h : Hid (∀ q, q < 4 → byteAt (l.drop (n + 3)) q = sumByte S q)) : Hid (openedOf l = (0, l.getD 0 0, bodyOf l)) := by
  have hs : summed l = true := by
    unfold summed
    rw [show l.length - 4 = n + 3 by rw [HN.out]; omega, ← HSS.out]
    exact decide_eq_true ((sum_right hS).2 h.out)
  unfold Hid openedOf
  rw [HF.out, hs]
  rfl
theorem next_byte {l : List UInt8} {S j : Nat} (h : Hid (∀ q, q < j → byteAt l q = sumByte S q)) (e : byteAt l j = sumByte S j) : Hid (∀ q, q < j + 1 → byteAt l q = sumByte S q) := by
  intro q hq
  by_cases h1 : q < j
  · exact h.out q h1
  · obtain rfl : q = j := by omega
    exact e

set_option maxHeartbeats 2000000 in
set_option maxRecDepth 100000 in
theorem refopen_any (l : List UInt8) (v : Value) (w : World) (hv : Rd w w.heap.size v l) (hl : l.length ≤ 140737488355328) :
    Calls Tryd.prog 46 #[v] w (OpenedPost w l) := by
  have HV := Lib.hid hv
  by_cases h7 : 7 ≤ l.length
  · by_cases hbig : l.length ≤ 8199
    · obtain ⟨b, o, c, rfl, h1, h2, hb⟩ := hv.open (by omega)
      obtain ⟨n, hn⟩ : ∃ n, l.length = n + 7 := ⟨l.length - 7, by omega⟩
      have t1 : ((n : Int) + 7 < 7) = False := by simp; omega
      have t2 : ((8199 : Int) < (n : Int) + 7) = False := by simp; omega
      have c1 : ∀ q, (w.drewN q).cell? ⟨b, o + 1, none⟩ = some (.int .u8 (byteAt l 1 : Int)) := fun _ => byteAt_cell hv (i := 1) (by omega)
      have c2 : ∀ q, (w.drewN q).cell? ⟨b, o + 2, none⟩ = some (.int .u8 (byteAt l 2 : Int)) := fun _ => byteAt_cell hv (i := 2) (by omega)
      have l1 : (1 : Int) < (n : Int) + 7 := by omega
      have l2 : (2 : Int) < (n : Int) + 7 := by omega
      have b1 := byteAt_lt l 1
      have b2 := byteAt_lt l 2
      have hn8 : n ≤ 8192 := by omega
      have hc7 : n + 7 ≤ c := by omega
      rw [hn] at HV ⊢
      have HN := Lib.hid hn
      clear hn h1 hl h7 hbig hv
      by_cases hd : n = byteAt l 1 + 256 * byteAt l 2
      · have hform : formOf l = true := by
          unfold formOf
          rw [HN.out]
          simp
          omega
        have HF := Lib.hid hform
        have hneq : ((n : Int) != (byteAt l 1 : Int) + 256 * (byteAt l 2 : Int)) = false := by simp; omega
        clear hform
        obtain ⟨x, hx⟩ : ∃ x, x = byteAt l 1 := ⟨_, rfl⟩
        obtain ⟨y, hy⟩ : ∃ y, y = byteAt l 2 := ⟨_, rfl⟩
        rw [← hx] at hneq c1 b1
        rw [← hy] at hneq c2 b2
        clear hx hy hd
        have g7 : ¬ c = 0 := by omega
        have hs1 : ∀ W, (Instr.slice 27 (.slice (some ⟨b, o, none⟩) (n + 7) c) none (some (.int .i64 ((n : Int) + 3))) none).run Tryd.prog W = .ok (.slice (some ⟨b, o, none⟩) (n + 3) c) W := fun W => slice_till W _ _ _ _ _ (by omega) (by omega)
        have t3 : (n : Int) + 7 - 4 = (n : Int) + 3 := by omega
        go_enter Tryd.func46, Tryd.ntmps46
        go_wp2_with fail
        go_quiet (fail)
        go_wp2_with fail
        have hwide : Rd w w.heap.size (.slice (some ⟨b, o, none⟩) l.length c) l := HN.out ▸ HV.out
        have rt := Rd.takeAny hwide (n := n + 3) (by rw [HN.out]; omega)
        refine (refsum_any (l.take (n + 3)) _ (w.drewN nq) (rt.keep (Nat.le_refl _) fun _ _ => rfl) (by rw [List.length_take, HN.out]; omega)).mono ?_
        rintro e w1 ⟨rfl, rfl⟩
        have hS := sumN_lt (s := 0) (l.take (n + 3)) (by decide)
        obtain ⟨S, hSS⟩ : ∃ S, S = sumN 0 (l.take (n + 3)) := ⟨_, rfl⟩
        rw [← hSS] at hS ⊢
        have HSS := Lib.hid hSS
        have hb1 : Below w.heap.size w (w.drewN nq) := below_n (Below.refl _ _) _
        have HC : Hid (∀ q, q < 4 → w.cell? ⟨b, o + (n + 3 + q), none⟩ = some (.int .u8 (byteAt (l.drop (n + 3)) q : Int))) := by
          intro q hq
          rw [byteAt_drop]
          exact byteAt_cell hwide (by rw [HN.out]; omega)
        have HB0 : Hid (w.cell? ⟨b, o, none⟩ = some (.int .u8 (byteAt l 0 : Int))) := byteAt_cell hwide (i := 0) (by rw [HN.out]; omega)
        clear hSS c1 c2 b1 b2 rt
        have HW := Lib.hid hwide
        clear hwide
        go_wp2_with fail
        go_loopw [7] (fun i wr => ∃ j : Nat, i = .int .i64 j ∧ j ≤ 4 ∧ Hid (∀ q, q < j → byteAt (l.drop (n + 3)) q = sumByte S q) ∧ Below w.heap.size w wr) (fun i _ => 4 - (intOf i).toNat)
        case atStart => exact ⟨0, rfl, by omega, fun q hq => absurd hq (Nat.not_lt_zero _), hb1⟩
        case round =>
          obtain ⟨j, rfl, hj, hsame, hbj⟩ := hrel
          have hcase : j = 0 ∨ j = 1 ∨ j = 2 ∨ j = 3 ∨ j = 4 := by omega
          have HCj : Hid (j < 4 → wr.drew.cell? ⟨b, o + (n + 3 + j), none⟩ = some (.int .u8 (byteAt (l.drop (n + 3)) j : Int))) := fun h => (hbj.drew.cell (p := ⟨b, o + (n + 3 + j), none⟩) hb).trans (HC.out j h)
          rcases hcase with rfl | rfl | rfl | rfl | rfl
          · have hc := HCj.out (by omega)
            have i1 : IntKind.i64.wrap ((n : Int) + 3 + 0) = (n : Int) + 3 := by rw [IntKind.wrap_i64]; omega
            have i2 : (n : Int) + 3 < (n : Int) + 7 := by omega
            go_wp2_with fail
            go_region
            all_goals go_wp2_with fail
            · rename_i h
              go_ret3
              exact OpenedPost.sum (no_sum hS HSS HN HF (j := 0) (by omega) (fun e => by rw [e, sb0] at h; simp at h; try omega)) rfl hbj.drew
            · rename_i h
              exact ⟨⟨1, rfl, by omega, next_byte hsame (by rw [sb0]; simp at h; omega), hbj.drew⟩, by simp [intOf]⟩
          · have hc := HCj.out (by omega)
            have i1 : IntKind.i64.wrap ((n : Int) + 3 + 1) = (n : Int) + 3 + 1 := by rw [IntKind.wrap_i64]; omega
            have i2 : (n : Int) + 3 + 1 < (n : Int) + 7 := by omega
            go_wp2_with fail
            go_region
            all_goals go_wp2_with fail
            · rename_i h
              go_ret3
              exact OpenedPost.sum (no_sum hS HSS HN HF (j := 1) (by omega) (fun e => by rw [e, sb1] at h; simp at h; try omega)) rfl hbj.drew
            · rename_i h
              exact ⟨⟨2, rfl, by omega, next_byte hsame (by rw [sb1]; simp at h; omega), hbj.drew⟩, by simp [intOf]⟩
          · have hc := HCj.out (by omega)
            have i1 : IntKind.i64.wrap ((n : Int) + 3 + 2) = (n : Int) + 3 + 2 := by rw [IntKind.wrap_i64]; omega
            have i2 : (n : Int) + 3 + 2 < (n : Int) + 7 := by omega
            go_wp2_with fail
            go_region
            all_goals go_wp2_with fail
            · rename_i h
              go_ret3
              exact OpenedPost.sum (no_sum hS HSS HN HF (j := 2) (by omega) (fun e => by rw [e, sb2] at h; simp at h; try omega)) rfl hbj.drew
            · rename_i h
              exact ⟨⟨3, rfl, by omega, next_byte hsame (by rw [sb2]; simp at h; omega), hbj.drew⟩, by simp [intOf]⟩
          · have hc := HCj.out (by omega)
            have i1 : IntKind.i64.wrap ((n : Int) + 3 + 3) = (n : Int) + 3 + 3 := by rw [IntKind.wrap_i64]; omega
            have i2 : (n : Int) + 3 + 3 < (n : Int) + 7 := by omega
            go_wp2_with fail
            go_region
            all_goals go_wp2_with fail
            · rename_i h
              go_ret3
              exact OpenedPost.sum (no_sum hS HSS HN HF (j := 3) (by omega) (fun e => by rw [e, sb3] at h; simp at h; try omega)) rfl hbj.drew
            · rename_i h
              exact ⟨⟨4, rfl, by omega, next_byte hsame (by rw [sb3]; simp at h; omega), hbj.drew⟩, by simp [intOf]⟩
          · have HO := yes_sum hS HSS HN HF hsame
            have hs2 : ∀ W, (Instr.slice 27 (.slice (some ⟨b, o, none⟩) (n + 7) c) (some (.int .i64 3)) (some (.int .i64 ((n : Int) + 3))) none).run Tryd.prog W = .ok (.slice (some ⟨b, o + 3, none⟩) n (c - 3)) W := fun W => (slice_between W b o (n + 7) c _ 3 (n + 3) (by omega) (by omega) (by omega) (by omega)).trans (by rw [show n + 3 - 3 = n by omega])
            have hc0 : wr.cell? ⟨b, o, none⟩ = some (.int .u8 (byteAt l 0 : Int)) := (hbj.cell (p := ⟨b, o, none⟩) hb).trans HB0.out
            have hbody : (bodyOf l).length = n := by unfold bodyOf; rw [List.length_take, List.length_drop, HN.out]; omega
            have hrb : Rd w w.heap.size (.slice (some ⟨b, o + 3, none⟩) n (c - 3)) (bodyOf l) := by
              have h1 := Rd.cut HW.out (k := 3) (by rw [HN.out]; omega) (by rw [HN.out]; omega) _ (.inl rfl)
              have h2 := Rd.takeAny (n := n) (by rw [List.length_drop]; exact h1) (by rw [List.length_drop, HN.out]; omega)
              unfold bodyOf
              rw [HN.out, show n + 7 - 7 = n by omega]
              exact h2
            obtain ⟨i0, hi, hz0, hz1, hz2⟩ := info_parts info_u8
            have hba : Below w.heap.size w (wr.alloc (.cells #[] 5)).drew := (hbj.alloc hbj.size _).drew
            have hown : (wr.alloc (.cells #[] 5)).drew.ownsRow w.heap.size 5 1 (.slice (some ⟨wr.heap.size, 0, none⟩) 0 0) 0 (BS []) := World.ownsRow.drew (World.ownsRow_lit wr #[] 0 hbj.size (by unfold maxLen; omega) rfl)
            obtain ⟨v5, w5, hap, ho5, hg5⟩ := run_app (P := Tryd.prog) (w := (wr.alloc (.cells #[] 5)).drew) w.heap.size 27 27 5 i0 Tryd.underlying27 hi hz0 hz1 hz2 _ _ [] (bodyOf l) 0 hown w.heap.size (hrb.below hba (Nat.le_refl _)) (by rw [hbody]; simp; omega) hba.size
            have hb5 : Below w.heap.size w w5 := hba.grown hg5 hba.size (fun k h => (hown.lt k h).1)
            have i1 : (0 : Int) < (n : Int) + 7 := by omega
            have HAP := Lib.hid hap
            have hc1 : (wr.alloc (.cells #[] 5)).cell? ⟨b, o, none⟩ = some (.int .u8 (byteAt l 0 : Int)) := ((hbj.alloc hbj.size _).cell (p := ⟨b, o, none⟩) hb).trans HB0.out
            have hc5 : w5.cell? ⟨b, o, none⟩ = some (.int .u8 (byteAt l 0 : Int)) := (hb5.cell (p := ⟨b, o, none⟩) hb).trans HB0.out
            clear hown hg5 hap
            go_wp2_with fail
            go_region_law (refine step_app rfl (.tmp 58) (.tmp 61) 27 rfl _ _ rfl rfl HAP.out ?_)
            all_goals go_wp2_with fail
            all_goals go_ret3
            all_goals exact OpenedPost.yes HO rfl ho5 hb5
      · have hform : formOf l = false := by
          unfold formOf
          rw [HN.out]
          simp
          omega
        have hop : openedOf l = (4, 0, []) := by unfold openedOf; rw [hform]; rfl
        have HO := Lib.hid hop
        clear hform hop
        have hneq : ((n : Int) != (byteAt l 1 : Int) + 256 * (byteAt l 2 : Int)) = true := by simp; omega
        obtain ⟨x, hx⟩ : ∃ x, x = byteAt l 1 := ⟨_, rfl⟩
        obtain ⟨y, hy⟩ : ∃ y, y = byteAt l 2 := ⟨_, rfl⟩
        rw [← hx] at hneq c1 b1
        rw [← hy] at hneq c2 b2
        clear hx hy hd
        go_enter Tryd.func46, Tryd.ntmps46
        go_wp2_with fail
        go_quiet (fail)
        all_goals go_wp2_with fail
        all_goals go_ret3
        all_goals exact OpenedPost.no HO rfl (below_n (Below.refl _ _) _)
    · have hop : openedOf l = (4, 0, []) := by
        unfold openedOf formOf
        rw [decide_eq_false hbig]
        simp
      have HO := Lib.hid hop
      obtain ⟨A, c, rfl, -⟩ := hv
      clear hop
      have t1 : ((l.length : Int) < 7) = False := by simp; omega
      have t2 : ((8199 : Int) < (l.length : Int)) = True := by simp; omega
      go_enter Tryd.func46, Tryd.ntmps46
      go_wp2_with fail
      go_quiet (fail)
      all_goals go_wp2_with fail
      all_goals go_ret3
      all_goals exact OpenedPost.no HO rfl (below_n (Below.refl _ _) _)
  · have hop : openedOf l = (4, 0, []) := by
      unfold openedOf formOf
      rw [decide_eq_false h7]
      rfl
    have HO := Lib.hid hop
    obtain ⟨A, c, rfl, -⟩ := hv
    clear hop
    have t1 : ((l.length : Int) < 7) = True := by simp; omega
    go_enter Tryd.func46, Tryd.ntmps46
    go_wp2_with fail
    go_quiet (fail)
    all_goals go_wp2_with fail
    all_goals go_ret3
    all_goals exact OpenedPost.no HO rfl (below_n (Below.refl _ _) _)
end Go.Proofs.YtfmaocinckeagaaDoor
