/-
  The document's ring (butteryref04): Sector. No statement is proved here.
-/
import Derived.Test.YtplpfhgdanclhaaRRef
import Derived.Test.YtplpfhgdanclhaaDFull
import Derived.Deep.DeepCutAuto
import Derived.Deep.RegionWith
import Derived.BigRegion
import Derived.Test.YtplpfhgdanclhaaPRead
namespace Go.Proofs.Ytplpfhgdanclhaa
open Go.RowKit

/-- a piece as a value -/
def pcv (p : Pc) (v : Value) : Value := .agg #[.int .i64 (p.n : Int), .bool p.last, v]

/-- the first i bytes of the number, the rest noughts -/
def lowed (n i : Nat) : List UInt8 := low i n ++ List.replicate (512 - i) 0
theorem low_snoc (i : Nat) : ∀ n, low (i + 1) n = low i n ++ [UInt8.ofNat (n / 256 ^ i)] := by
  induction i with
  | zero => intro n; simp [low]
  | succ i ih =>
    intro n
    rw [low, ih, low, Nat.div_div_eq_div_mul, Nat.pow_succ', List.cons_append]
theorem lowed_set (n i : Nat) (h : i < 512) : (lowed n i).set i (UInt8.ofNat (n / 256 ^ i)) = lowed n (i + 1) := by
  unfold lowed
  rw [List.set_append_right _ _ (by rw [low_length]; exact Nat.le_refl _), low_length, Nat.sub_self, show 512 - i = (512 - (i + 1)) + 1 by omega, List.replicate_succ, List.set_cons_zero, low_snoc, List.append_assoc]
  rfl
theorem lowed_length (n i : Nat) (h : i ≤ 512) : (lowed n i).length = 512 := by unfold lowed; rw [List.length_append, low_length, List.length_replicate]; omega

theorem low_byte (n r : Nat) : (n : Int) / 2 ^ (8 * r) % 256 = ((UInt8.ofNat (n / 256 ^ r)).toNat : Int) := by
  have e : (2 : Int) ^ (8 * r) = ((256 ^ r : Nat) : Int) := by rw [show (256 : Nat) = 2 ^ 8 from rfl, ← Nat.pow_mul, Int.natCast_pow]; rfl
  rw [e, UInt8.toNat_ofNat', Int.natCast_emod, Int.natCast_ediv]
  rfl

theorem own_heap {w : World} {B g : Nat} {e : TypeId} {l : List UInt8} (h : w.ownsRow B e 1 (.slice (some ⟨g, 0, none⟩) 512 512) 512 (BS l)) : w.heap[g]? = some (.cells (BS l).toArray e (0, 0)) ∧ B ≤ g := by
  obtain ⟨_, h | ⟨g', cap, cur, hv, hb, hh, _, _, hs, ht⟩⟩ := h
  · exact absurd h.1 (by simp)
  · injection hv with h1 h2 h3
    injection h1 with h1
    injection h1 with h1
    obtain rfl := h1
    have h3' : cap = 512 := by omega
    subst h3'
    refine ⟨?_, hb⟩
    rw [hh, ← ht, List.take_of_length_le (by rw [Array.length_toList]; omega)]

theorem u8_ones : (Try.prog.info? 5).map (·.size) = some 1 := by kernel_rfl
set_option maxRecDepth 100000 in
/-- bytes copied behind the first eleven -/
theorem copy_tail {w w0 : World} {B g cv : Nat} {A : Option Addr} (ty : TypeId) (H data : List UInt8) (hH : H.length = 11) (hl : data.length ≤ 501) (hg : w.heap[g]? = some (.cells (BS (H ++ List.replicate 501 0)).toArray 5 (0, 0)))
    (hsrc : data ≠ [] → ∃ b o, A = some ⟨b, o, none⟩ ∧ ∀ i x, data[i]? = some x → w.cell? ⟨b, o + i, none⟩ = some (.int .u8 (x.toNat : Int))) (hb : Below B w0 w) (hB : B ≤ g) :
    ∃ w', (Builtin.copy_ #[39, 39] ty #[.slice (some ⟨g, 11, none⟩) 501 501, .slice A data.length cv]).run Try.prog w = .ok (goInt data.length) w' ∧
      w'.heap[g]? = some (.cells (BS (H ++ (data ++ List.replicate (501 - data.length) 0))).toArray 5 (0, 0)) ∧ Below B w0 w' := by
  by_cases hn : data = []
  · subst hn
    exact ⟨w, run_copy_none (P := Try.prog) w 39 39 ty 5 _ A 501 501 0 cv Try.underlying39 u8_ones (by rfl), hg, hb⟩
  · obtain ⟨b, o, rfl, hc⟩ := hsrc hn
    have h := run_copy_row (P := Try.prog) w 39 39 ty 5 g 11 501 501 ⟨b, o, none⟩ data.length cv _ 5 (BS data) Try.underlying39 u8_ones hg (by rw [BS_length]; exact (Nat.min_eq_left hl).symm) (fun j u hu => by
      obtain ⟨x, hx, rfl⟩ := BS_get hu
      rw [plus_zero]
      exact hc j x hx) (by simp only [List.size_toArray, BS_length, List.length_append, List.length_replicate]; omega) (BS_one data)
    have e : ((BS (H ++ List.replicate 501 0)).toArray.toList.take 11 ++ BS data ++ (BS (H ++ List.replicate 501 0)).toArray.toList.drop (11 + (BS data).length)) = BS (H ++ (data ++ List.replicate (501 - data.length) 0)) := by
      rw [BS_length, BS_append, BS_append, BS_append]
      show (BS H ++ BS (List.replicate 501 0)).take 11 ++ BS data ++ (BS H ++ BS (List.replicate 501 0)).drop (11 + data.length) = _
      rw [List.take_left' (by rw [BS_length, hH]), ← List.drop_drop, List.drop_left' (by rw [BS_length, hH]), List.append_assoc]
      congr 2
      unfold BS
      rw [List.map_replicate, List.map_replicate, List.drop_replicate]
    rw [e, BS_length] at h
    exact ⟨_, h, setRow_heap w g _ _ _ _ hg, below_setRow hb hB _⟩

theorem flag_set (n : Nat) : (lowed n 8).set 8 1 = low 8 n ++ 1 :: List.replicate 503 0 := by
  unfold lowed
  rw [List.set_append_right _ _ (by rw [low_length]; exact Nat.le_refl _), low_length]
  rfl
theorem flag_length (n : Nat) (f : UInt8) : (low 8 n ++ f :: List.replicate 503 0).length = 512 := by rw [List.length_append, low_length, List.length_cons, List.length_replicate]
theorem sizes_set (n : Nat) (f x y : UInt8) : ((low 8 n ++ f :: List.replicate 503 0).set 9 x).set 10 y = (low 8 n ++ [f, x, y]) ++ List.replicate 501 0 := by
  rw [List.set_append_right _ _ (by rw [low_length]; omega), low_length, List.set_append_right _ _ (by rw [low_length]; omega), low_length, List.append_assoc]
  rfl

set_option maxHeartbeats 1000000 in
theorem xsector_any (p : Pc) (v : Value) (w : World) (hp : p.fine) (hv : Rd w w.heap.size v p.data) : Calls Try.prog 20 #[pcv p v] w fun e w' => ∃ g, e = .returned (.slice (some ⟨g, 0, none⟩) 512 512) ∧ w.heap.size ≤ g ∧ w'.heap[g]? = some (.cells (BS p.sec).toArray 5 (0, 0)) ∧ Below w.heap.size w w' := by
  obtain ⟨w0, hw0⟩ : ∃ w0, w0 = w.alloc (.cells #[.int .i64 (p.n : Int), .bool p.last, v] 49) := ⟨_, rfl⟩
  obtain ⟨w1, hmk, ho1, hb1⟩ := made_bytes w0
  have hs0 : w0.heap.size = w.heap.size + 1 := by rw [hw0]; simp
  obtain ⟨g, hg⟩ : ∃ g, g = w0.heap.size := ⟨_, rfl⟩
  have hgw : w.heap.size < g := by omega
  rw [← hg] at hmk ho1
  have HO1 : Hid (w1.ownsRow g 5 1 (.slice (some ⟨g, 0, none⟩) 512 512) 512 (BS (lowed p.n 0))) := ho1
  have HB1 : Hid (Below w0.heap.size w0 w1) := hb1
  have HG := Lib.hid hg
  have HW0 := Lib.hid hw0
  have HS0 := Lib.hid hs0
  have HV := Lib.hid hv
  obtain ⟨n, last, data⟩ := p
  rw [hw0] at hmk
  clear ho1 hg hb1 hw0 hs0 hv
  unfold pcv
  go_enter Try.func20, Try.ntmps20
  go_wp2_with fail
  go_loopw [4] (fun i wr => ∃ r : Nat, i = .int .i64 r ∧ r ≤ 8 ∧ Hid (wr.ownsRow g 5 1 (.slice (some ⟨g, 0, none⟩) 512 512) 512 (BS (lowed n r))) ∧ Below w0.heap.size w0 wr) (fun i _ => 8 - (intOf i).toNat)
  case atStart => exact ⟨0, rfl, by omega, HO1, HB1.out⟩
  case round =>
    obtain ⟨r, rfl, hr, hox, hb⟩ := hrel
    by_cases hrl : r < 8
    · have i1 : (r : Int) < 8 := by omega
      have i0 : (0 : Int) ≤ (r : Int) := by omega
      obtain ⟨u, hu⟩ : ∃ u, wr.cell? ⟨g, r, none⟩ = some u := by
        rw [hox.out.cellAt r (by omega)]
        exact ⟨_, List.getElem?_eq_getElem (by rw [BS_length, lowed_length n r (by omega)]; omega)⟩
      have hz : wr.frozen? ⟨g, r, none⟩ = false := hox.out.frozenAt r
      have hcn : wr.cell? ⟨w.heap.size, 0, none⟩ = some (.int .i64 (n : Int)) := by
        rw [hb.cell (p := ⟨w.heap.size, 0, none⟩) (by show w.heap.size < _; rw [HS0.out]; omega), HW0.out]
        exact World.cell?_alloc_new _ _ _ _
      have hst := (hox.out.stored r (.int .u8 ((n : Int) / 2 ^ (8 * r) % 256))).1
      rw [low_byte, ← BS_set, lowed_set n r (by omega), ← low_byte] at hst
      have HST := Lib.hid hst
      have hbs := hb.setCell (p := ⟨g, r, none⟩) (by show w0.heap.size ≤ g; rw [HG.out]; exact Nat.le_refl _) (.int .u8 ((n : Int) / 2 ^ (8 * r) % 256))
      clear hst hox
      go_wp2_with fail
      exact ⟨⟨r + 1, by go_num, hrl, HST, hbs⟩, by simp [intOf]; omega⟩
    · have i1 : ¬ (r : Int) < 8 := by omega
      obtain rfl : r = 8 := by omega
      have hcl : wr.cell? ⟨w.heap.size, 1, none⟩ = some (.bool last) := by
        rw [hb.cell (p := ⟨w.heap.size, 1, none⟩) (by show w.heap.size < _; rw [HS0.out]; omega), HW0.out]
        exact World.cell?_alloc_new _ _ _ _
      have hcd : wr.cell? ⟨w.heap.size, 2, none⟩ = some v := by
        rw [hb.cell (p := ⟨w.heap.size, 2, none⟩) (by show w.heap.size < _; rw [HS0.out]; omega), HW0.out]
        exact World.cell?_alloc_new _ _ _ _
      cases last with
      | false =>
        have hst := hox.out
        rw [show lowed n 8 = low 8 n ++ 0 :: List.replicate 503 0 from rfl] at hst
        have HST := Lib.hid hst
        have hb' := hb
        clear hst hox hmk
        go_wp2_with fail
        obtain ⟨y9, hy9⟩ : ∃ u, wr.cell? ⟨g, 9, none⟩ = some u := ⟨_, (HST.out.cellAt 9 (by omega)).trans (List.getElem?_eq_getElem (by rw [BS_length, flag_length]; omega))⟩
        obtain ⟨y10, hy10⟩ : ∃ u, wr.cell? ⟨g, 10, none⟩ = some u := ⟨_, (HST.out.cellAt 10 (by omega)).trans (List.getElem?_eq_getElem (by rw [BS_length, flag_length]; omega))⟩
        have hz9 : wr.frozen? ⟨g, 9, none⟩ = false := HST.out.frozenAt 9
        have hz10 : wr.frozen? ⟨g, 10, none⟩ = false := HST.out.frozenAt 10
        have hl501 : data.length ≤ 501 := hp.2.2.1
        have e1 : (data.length : Int) % 256 = ((UInt8.ofNat data.length).toNat : Int) := by rw [UInt8.toNat_ofNat']; omega
        have e2 : (data.length : Int) / 256 = ((UInt8.ofNat (data.length / 256)).toNat : Int) := by rw [UInt8.toNat_ofNat']; omega
        have hs2 := ((HST.out.stored 9 (.int .u8 ((UInt8.ofNat data.length).toNat : Int))).1.stored 10 (.int .u8 ((UInt8.ofNat (data.length / 256)).toNat : Int))).1
        rw [← BS_set, ← BS_set, sizes_set] at hs2
        have hge := HG.out
        have hb2 := (hb'.setCell (p := ⟨g, 9, none⟩) (by show w0.heap.size ≤ g; omega) (.int .u8 ((UInt8.ofNat data.length).toNat : Int))).setCell (p := ⟨g, 10, none⟩) (by show w0.heap.size ≤ g; omega) (.int .u8 ((UInt8.ofNat (data.length / 256)).toNat : Int))
        have hb3 : Below w.heap.size w w0 := by rw [HW0.out]; exact (Below.refl _ _).alloc (Nat.le_refl _) _
        have hb4 := hb3.trans (hb2.mono (by rw [HS0.out]; omega))
        have hrd := HV.out.below hb4 (Nat.le_refl _)
        obtain ⟨A, cv, rfl, v1, v2, v3, v4⟩ := hrd
        obtain ⟨w9, hcp, hg9, hb9⟩ := copy_tail (w := ((wr.setCell ⟨g, 9, none⟩ (.int .u8 ((UInt8.ofNat data.length).toNat : Int))).setCell ⟨g, 10, none⟩ (.int .u8 ((UInt8.ofNat (data.length / 256)).toNat : Int))).drew.drew) (cv := cv) (A := A) 3 (low 8 n ++ [0, UInt8.ofNat data.length, UInt8.ofNat (data.length / 256)]) data (by rw [List.length_append, low_length]; rfl) hl501 (own_heap hs2).1 (fun hn => by
          obtain ⟨b, o, hA, _, hc⟩ := v4 hn
          exact ⟨b, o, hA, hc⟩) (hb4.drew.drew) (Nat.le_of_lt hgw)
        rw [← e1, ← e2] at hcp
        have HG9 := Lib.hid hg9
        have HB9 := Lib.hid hb9
        clear hs2 hb2 hb3 hb4 e1 e2 v1 v2 v3 v4 hg9 hb9 hge
        go_region
        go_wp2_with fail
        go_region
        all_goals go_wp2_with fail
        all_goals go_ret
        exact ⟨g, rfl, Nat.le_of_lt hgw, by rw [HG9.out]; unfold Pc.sec; rw [List.append_assoc]; rfl, HB9.out⟩
      | true =>
        obtain ⟨y8, hy8⟩ : ∃ u, wr.cell? ⟨g, 8, none⟩ = some u := ⟨_, (hox.out.cellAt 8 (by omega)).trans (List.getElem?_eq_getElem (by rw [BS_length, lowed_length n 8 (by omega)]; omega))⟩
        have hz8 : wr.frozen? ⟨g, 8, none⟩ = false := hox.out.frozenAt 8
        have hst := (hox.out.stored 8 (.int .u8 ((1 : UInt8).toNat : Int))).1
        rw [← BS_set, flag_set] at hst
        have HST := Lib.hid hst
        have hb' := hb.setCell (p := ⟨g, 8, none⟩) (by show w0.heap.size ≤ g; rw [HG.out]; exact Nat.le_refl _) (.int .u8 ((1 : UInt8).toNat : Int))
        have hcd' : (wr.setCell ⟨g, 8, none⟩ (.int .u8 ((1 : UInt8).toNat : Int))).cell? ⟨w.heap.size, 2, none⟩ = some v := by
          rw [hb'.cell (p := ⟨w.heap.size, 2, none⟩) (by show w.heap.size < _; rw [HS0.out]; omega), HW0.out]
          exact World.cell?_alloc_new _ _ _ _
        clear hst hox hmk
        go_wp2_with fail
        clear hb hcd hcl hy8 hz8
        obtain ⟨wq, hwq⟩ : ∃ wq, wq = wr.setCell ⟨g, 8, none⟩ (.int .u8 ((1 : UInt8).toNat : Int)) := ⟨_, rfl⟩
        have hcd := hcd'
        clear hcd'
        rw [show wr.setCell ⟨g, 8, none⟩ (.int .u8 1) = wq from hwq.symm]
        rw [← hwq] at hcd hb' HST
        clear hwq
        obtain ⟨y9, hy9⟩ : ∃ u, wq.cell? ⟨g, 9, none⟩ = some u := ⟨_, (HST.out.cellAt 9 (by omega)).trans (List.getElem?_eq_getElem (by rw [BS_length, flag_length]; omega))⟩
        obtain ⟨y10, hy10⟩ : ∃ u, wq.cell? ⟨g, 10, none⟩ = some u := ⟨_, (HST.out.cellAt 10 (by omega)).trans (List.getElem?_eq_getElem (by rw [BS_length, flag_length]; omega))⟩
        have hz9 : wq.frozen? ⟨g, 9, none⟩ = false := HST.out.frozenAt 9
        have hz10 : wq.frozen? ⟨g, 10, none⟩ = false := HST.out.frozenAt 10
        have hl501 : data.length ≤ 501 := hp.2.2.1
        have e1 : (data.length : Int) % 256 = ((UInt8.ofNat data.length).toNat : Int) := by rw [UInt8.toNat_ofNat']; omega
        have e2 : (data.length : Int) / 256 = ((UInt8.ofNat (data.length / 256)).toNat : Int) := by rw [UInt8.toNat_ofNat']; omega
        have hs2 := ((HST.out.stored 9 (.int .u8 ((UInt8.ofNat data.length).toNat : Int))).1.stored 10 (.int .u8 ((UInt8.ofNat (data.length / 256)).toNat : Int))).1
        rw [← BS_set, ← BS_set, sizes_set] at hs2
        have hge := HG.out
        have hb2 := (hb'.setCell (p := ⟨g, 9, none⟩) (by show w0.heap.size ≤ g; omega) (.int .u8 ((UInt8.ofNat data.length).toNat : Int))).setCell (p := ⟨g, 10, none⟩) (by show w0.heap.size ≤ g; omega) (.int .u8 ((UInt8.ofNat (data.length / 256)).toNat : Int))
        have hb3 : Below w.heap.size w w0 := by rw [HW0.out]; exact (Below.refl _ _).alloc (Nat.le_refl _) _
        have hb4 := hb3.trans (hb2.mono (by rw [HS0.out]; omega))
        have hrd := HV.out.below hb4 (Nat.le_refl _)
        obtain ⟨A, cv, rfl, v1, v2, v3, v4⟩ := hrd
        obtain ⟨w9, hcp, hg9, hb9⟩ := copy_tail (w := ((wq.setCell ⟨g, 9, none⟩ (.int .u8 ((UInt8.ofNat data.length).toNat : Int))).setCell ⟨g, 10, none⟩ (.int .u8 ((UInt8.ofNat (data.length / 256)).toNat : Int))).drew.drew) (cv := cv) (A := A) 3 (low 8 n ++ [1, UInt8.ofNat data.length, UInt8.ofNat (data.length / 256)]) data (by rw [List.length_append, low_length]; rfl) hl501 (own_heap hs2).1 (fun hn => by
          obtain ⟨b, o, hA, _, hc⟩ := v4 hn
          exact ⟨b, o, hA, hc⟩) (hb4.drew.drew) (Nat.le_of_lt hgw)
        rw [← e1, ← e2] at hcp
        have HG9 := Lib.hid hg9
        have HB9 := Lib.hid hb9
        clear hs2 hb2 hb3 hb4 e1 e2 v1 v2 v3 v4 hg9 hb9 hge
        go_region
        go_wp2_with fail
        go_region
        all_goals go_wp2_with fail
        all_goals go_ret
        exact ⟨g, rfl, Nat.le_of_lt hgw, by rw [HG9.out]; unfold Pc.sec; rw [List.append_assoc]; rfl, HB9.out⟩
end Go.Proofs.Ytplpfhgdanclhaa
