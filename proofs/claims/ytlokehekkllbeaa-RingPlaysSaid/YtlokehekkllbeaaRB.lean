/-
  RRef: The document's ring (butteryref04): Pieces. No statement is proved here. Conditions: none but that the numbers fit.
  RSec: The document's ring (butteryref04): Sector. No statement is proved here.
  RPiece: THE PLAIN RING: which piece a sector's bytes are, as the program finds it: by making its sector once more. No program in sight. No condition.
  RLeaf: The program's ring: what a sector says, how many pieces, the numbers that a ring tells. No statement is proved here. No condition.
  RSector: The program's ring: a piece's sector. No statement is proved here. No condition.
-/
import Derived.Test.YtlokehekkllbeaaRA
import Derived.Test.YtlokehekkllbeaaMM
import Derived.Test.YtlokehekkllbeaaDA
import Derived.Deep.DeepCutAuto
import Derived.Deep.RegionWith
import Derived.BigRegion
import Derived.Test.YtlokehekkllbeaaPB
namespace Go.Proofs.Ytlokehekkllbeaa
open Go.RowKit

set_option maxHeartbeats 400000 in
theorem xpieces_any (n : Nat) (w : World) (hn : n ≤ 9223372036854775807) :
    Calls Try.prog 32 #[.int .i64 (n : Int)] w fun e w' => e = .returned (.int .i64 ((pieces n : Nat) : Int)) ∧ w = w' := by
  have a0 : ¬ (n : Int) < 0 := by omega
  by_cases h : 0 < n ∧ n % 501 = 0
  · have h0 : (0 : Int) < (n : Int) := by omega
    have h1 : (n : Int) % 501 = 0 := by omega
    have e : pieces n = n / 501 := by unfold pieces; rw [if_pos h]
    go_enter Try.func32, Try.ntmps32
    go_wp2
    go_ret
    exact ⟨ret_int (by first | rfl | omega | (rw [e]; omega)), rfl⟩
  · have e : pieces n = n / 501 + 1 := by unfold pieces; rw [if_neg h]
    by_cases h0 : (0 : Int) < (n : Int)
    · have h1 : ¬ (n : Int) % 501 = 0 := by omega
      go_enter Try.func32, Try.ntmps32
      go_wp2
      go_ret
      exact ⟨ret_int (by first | rfl | omega | (rw [e]; omega)), rfl⟩
    · go_enter Try.func32, Try.ntmps32
      go_wp2
      go_ret
      exact ⟨ret_int (by first | rfl | omega | (rw [e]; omega)), rfl⟩
theorem xpieces_no (n : Int) (w : World) (hn : n < 0) :
    Calls Try.prog 32 #[.int .i64 n] w fun e w' => e = .returned (.int .i64 0) ∧ w = w' := by
  go_enter Try.func32, Try.ntmps32
  go_wp2
  go_ret
  exact ⟨rfl, rfl⟩
end Go.Proofs.Ytlokehekkllbeaa
namespace Go.Proofs.Ytlokehekkllbeaa
open Go.RowKit

/-- a piece as a value -/
def pcv (p : Pc) (v : Value) : Value := .agg #[.int .i64 (p.n : Int), .bool p.last, v]

/-- the first i bytes of the number, the rest noughts -/
def lowed (n i : Nat) : List UInt8 := low i n ++ List.replicate (512 - i) 0
theorem low_snoc (i : Nat) : ∀ n, low (i + 1) n = low i n ++ [UInt8.ofNat (n / 256 ^ i)] := by
  induction i with
  | zero => intro n; simp [low]
  | succ i ih =>
    intro n
    rw [low, ih, low, Nat.div_div_eq_div_mul, Nat.pow_succ', List.cons_append]
theorem lowed_set (n i : Nat) (h : i < 512) : (lowed n i).set i (UInt8.ofNat (n / 256 ^ i)) = lowed n (i + 1) := by
  unfold lowed
  rw [List.set_append_right _ _ (by rw [low_length]; exact Nat.le_refl _), low_length, Nat.sub_self, show 512 - i = (512 - (i + 1)) + 1 by omega, List.replicate_succ, List.set_cons_zero, low_snoc, List.append_assoc]
  rfl
theorem lowed_length (n i : Nat) (h : i ≤ 512) : (lowed n i).length = 512 := by unfold lowed; rw [List.length_append, low_length, List.length_replicate]; omega

theorem low_byte (n r : Nat) : (n : Int) / 2 ^ (8 * r) % 256 = ((UInt8.ofNat (n / 256 ^ r)).toNat : Int) := by
  have e : (2 : Int) ^ (8 * r) = ((256 ^ r : Nat) : Int) := by rw [show (256 : Nat) = 2 ^ 8 from rfl, ← Nat.pow_mul, Int.natCast_pow]; rfl
  rw [e, UInt8.toNat_ofNat', Int.natCast_emod, Int.natCast_ediv]
  rfl

theorem own_heap {w : World} {B g : Nat} {e : TypeId} {l : List UInt8} (h : w.ownsRow B e 1 (.slice (some ⟨g, 0, none⟩) 512 512) 512 (BS l)) : w.heap[g]? = some (.cells (BS l).toArray e (0, 0)) ∧ B ≤ g := by
  obtain ⟨_, h | ⟨g', cap, cur, hv, hb, hh, _, _, hs, ht⟩⟩ := h
  · exact absurd h.1 (by simp)
  · injection hv with h1 h2 h3
    injection h1 with h1
    injection h1 with h1
    obtain rfl := h1
    have h3' : cap = 512 := by omega
    subst h3'
    refine ⟨?_, hb⟩
    rw [hh, ← ht, List.take_of_length_le (by rw [Array.length_toList]; omega)]

theorem u8_ones : (Try.prog.info? 5).map (·.size) = some 1 := by kernel_rfl
set_option maxRecDepth 100000 in
/-- bytes copied behind the first eleven -/
theorem copy_tail {w w0 : World} {B g cv : Nat} {A : Option Addr} (ty : TypeId) (H data : List UInt8) (hH : H.length = 11) (hl : data.length ≤ 501) (hg : w.heap[g]? = some (.cells (BS (H ++ List.replicate 501 0)).toArray 5 (0, 0)))
    (hsrc : data ≠ [] → ∃ b o, A = some ⟨b, o, none⟩ ∧ ∀ i x, data[i]? = some x → w.cell? ⟨b, o + i, none⟩ = some (.int .u8 (x.toNat : Int))) (hb : Below B w0 w) (hB : B ≤ g) :
    ∃ w', (Builtin.copy_ #[39, 39] ty #[.slice (some ⟨g, 11, none⟩) 501 501, .slice A data.length cv]).run Try.prog w = .ok (goInt data.length) w' ∧
      w'.heap[g]? = some (.cells (BS (H ++ (data ++ List.replicate (501 - data.length) 0))).toArray 5 (0, 0)) ∧ Below B w0 w' := by
  by_cases hn : data = []
  · subst hn
    exact ⟨w, run_copy_none (P := Try.prog) w 39 39 ty 5 _ A 501 501 0 cv Try.underlying39 u8_ones (by rfl), hg, hb⟩
  · obtain ⟨b, o, rfl, hc⟩ := hsrc hn
    have h := run_copy_row (P := Try.prog) w 39 39 ty 5 g 11 501 501 ⟨b, o, none⟩ data.length cv _ 5 (BS data) Try.underlying39 u8_ones hg (by rw [BS_length]; exact (Nat.min_eq_left hl).symm) (fun j u hu => by
      obtain ⟨x, hx, rfl⟩ := BS_get hu
      rw [plus_zero]
      exact hc j x hx) (by simp only [List.size_toArray, BS_length, List.length_append, List.length_replicate]; omega) (BS_one data)
    have e : ((BS (H ++ List.replicate 501 0)).toArray.toList.take 11 ++ BS data ++ (BS (H ++ List.replicate 501 0)).toArray.toList.drop (11 + (BS data).length)) = BS (H ++ (data ++ List.replicate (501 - data.length) 0)) := by
      rw [BS_length, BS_append, BS_append, BS_append]
      show (BS H ++ BS (List.replicate 501 0)).take 11 ++ BS data ++ (BS H ++ BS (List.replicate 501 0)).drop (11 + data.length) = _
      rw [List.take_left' (by rw [BS_length, hH]), ← List.drop_drop, List.drop_left' (by rw [BS_length, hH]), List.append_assoc]
      congr 2
      unfold BS
      rw [List.map_replicate, List.map_replicate, List.drop_replicate]
    rw [e, BS_length] at h
    exact ⟨_, h, setRow_heap w g _ _ _ _ hg, below_setRow hb hB _⟩

theorem flag_set (n : Nat) : (lowed n 8).set 8 1 = low 8 n ++ 1 :: List.replicate 503 0 := by
  unfold lowed
  rw [List.set_append_right _ _ (by rw [low_length]; exact Nat.le_refl _), low_length]
  rfl
theorem flag_length (n : Nat) (f : UInt8) : (low 8 n ++ f :: List.replicate 503 0).length = 512 := by rw [List.length_append, low_length, List.length_cons, List.length_replicate]
theorem sizes_set (n : Nat) (f x y : UInt8) : ((low 8 n ++ f :: List.replicate 503 0).set 9 x).set 10 y = (low 8 n ++ [f, x, y]) ++ List.replicate 501 0 := by
  rw [List.set_append_right _ _ (by rw [low_length]; omega), low_length, List.set_append_right _ _ (by rw [low_length]; omega), low_length, List.append_assoc]
  rfl

set_option maxHeartbeats 1000000 in
theorem xsector_any (p : Pc) (v : Value) (w : World) (hp : p.data.length ≤ 501) (hv : Rd w w.heap.size v p.data) : Calls Try.prog 17 #[pcv p v] w fun e w' => ∃ g, e = .returned (.slice (some ⟨g, 0, none⟩) 512 512) ∧ w.heap.size ≤ g ∧ w'.heap[g]? = some (.cells (BS p.sec).toArray 5 (0, 0)) ∧ Below w.heap.size w w' := by
  obtain ⟨w0, hw0⟩ : ∃ w0, w0 = w.alloc (.cells #[.int .i64 (p.n : Int), .bool p.last, v] 49) := ⟨_, rfl⟩
  obtain ⟨w1, hmk, ho1, hb1⟩ := made_bytes w0
  have hs0 : w0.heap.size = w.heap.size + 1 := by rw [hw0]; simp
  obtain ⟨g, hg⟩ : ∃ g, g = w0.heap.size := ⟨_, rfl⟩
  have hgw : w.heap.size < g := by omega
  rw [← hg] at hmk ho1
  have HO1 : Hid (w1.ownsRow g 5 1 (.slice (some ⟨g, 0, none⟩) 512 512) 512 (BS (lowed p.n 0))) := ho1
  have HB1 : Hid (Below w0.heap.size w0 w1) := hb1
  have HG := Lib.hid hg
  have HW0 := Lib.hid hw0
  have HS0 := Lib.hid hs0
  have HV := Lib.hid hv
  have HP := Lib.hid hp
  clear hp
  obtain ⟨n, last, data⟩ := p
  rw [hw0] at hmk
  clear ho1 hg hb1 hw0 hs0 hv
  unfold pcv
  go_enter Try.func17, Try.ntmps17
  go_wp2_with fail
  go_loopw [4] (fun i wr => ∃ r : Nat, i = .int .i64 r ∧ r ≤ 8 ∧ Hid (wr.ownsRow g 5 1 (.slice (some ⟨g, 0, none⟩) 512 512) 512 (BS (lowed n r))) ∧ Below w0.heap.size w0 wr) (fun i _ => 8 - (intOf i).toNat)
  case atStart => exact ⟨0, rfl, by omega, HO1, HB1.out⟩
  case round =>
    obtain ⟨r, rfl, hr, hox, hb⟩ := hrel
    by_cases hrl : r < 8
    · have i1 : (r : Int) < 8 := by omega
      have i0 : (0 : Int) ≤ (r : Int) := by omega
      obtain ⟨u, hu⟩ : ∃ u, wr.cell? ⟨g, r, none⟩ = some u := by
        rw [hox.out.cellAt r (by omega)]
        exact ⟨_, List.getElem?_eq_getElem (by rw [BS_length, lowed_length n r (by omega)]; omega)⟩
      have hz : wr.frozen? ⟨g, r, none⟩ = false := hox.out.frozenAt r
      have hcn : wr.cell? ⟨w.heap.size, 0, none⟩ = some (.int .i64 (n : Int)) := by
        rw [hb.cell (p := ⟨w.heap.size, 0, none⟩) (by show w.heap.size < _; rw [HS0.out]; omega), HW0.out]
        exact World.cell?_alloc_new _ _ _ _
      have hst := (hox.out.stored r (.int .u8 ((n : Int) / 2 ^ (8 * r) % 256))).1
      rw [low_byte, ← BS_set, lowed_set n r (by omega), ← low_byte] at hst
      have HST := Lib.hid hst
      have hbs := hb.setCell (p := ⟨g, r, none⟩) (by show w0.heap.size ≤ g; rw [HG.out]; exact Nat.le_refl _) (.int .u8 ((n : Int) / 2 ^ (8 * r) % 256))
      clear hst hox
      go_wp2_with fail
      exact ⟨⟨r + 1, by go_num, hrl, HST, hbs⟩, by simp [intOf]; omega⟩
    · have i1 : ¬ (r : Int) < 8 := by omega
      obtain rfl : r = 8 := by omega
      have hcl : wr.cell? ⟨w.heap.size, 1, none⟩ = some (.bool last) := by
        rw [hb.cell (p := ⟨w.heap.size, 1, none⟩) (by show w.heap.size < _; rw [HS0.out]; omega), HW0.out]
        exact World.cell?_alloc_new _ _ _ _
      have hcd : wr.cell? ⟨w.heap.size, 2, none⟩ = some v := by
        rw [hb.cell (p := ⟨w.heap.size, 2, none⟩) (by show w.heap.size < _; rw [HS0.out]; omega), HW0.out]
        exact World.cell?_alloc_new _ _ _ _
      cases last with
      | false =>
        have hst := hox.out
        rw [show lowed n 8 = low 8 n ++ 0 :: List.replicate 503 0 from rfl] at hst
        have HST := Lib.hid hst
        have hb' := hb
        clear hst hox hmk
        go_wp2_with fail
        obtain ⟨y9, hy9⟩ : ∃ u, wr.cell? ⟨g, 9, none⟩ = some u := ⟨_, (HST.out.cellAt 9 (by omega)).trans (List.getElem?_eq_getElem (by rw [BS_length, flag_length]; omega))⟩
        obtain ⟨y10, hy10⟩ : ∃ u, wr.cell? ⟨g, 10, none⟩ = some u := ⟨_, (HST.out.cellAt 10 (by omega)).trans (List.getElem?_eq_getElem (by rw [BS_length, flag_length]; omega))⟩
        have hz9 : wr.frozen? ⟨g, 9, none⟩ = false := HST.out.frozenAt 9
        have hz10 : wr.frozen? ⟨g, 10, none⟩ = false := HST.out.frozenAt 10
        have hl501 : data.length ≤ 501 := HP.out
        have e1 : (data.length : Int) % 256 = ((UInt8.ofNat data.length).toNat : Int) := by rw [UInt8.toNat_ofNat']; omega
        have e2 : (data.length : Int) / 256 = ((UInt8.ofNat (data.length / 256)).toNat : Int) := by rw [UInt8.toNat_ofNat']; omega
        have hs2 := ((HST.out.stored 9 (.int .u8 ((UInt8.ofNat data.length).toNat : Int))).1.stored 10 (.int .u8 ((UInt8.ofNat (data.length / 256)).toNat : Int))).1
        rw [← BS_set, ← BS_set, sizes_set] at hs2
        have hge := HG.out
        have hb2 := (hb'.setCell (p := ⟨g, 9, none⟩) (by show w0.heap.size ≤ g; omega) (.int .u8 ((UInt8.ofNat data.length).toNat : Int))).setCell (p := ⟨g, 10, none⟩) (by show w0.heap.size ≤ g; omega) (.int .u8 ((UInt8.ofNat (data.length / 256)).toNat : Int))
        have hb3 : Below w.heap.size w w0 := by rw [HW0.out]; exact (Below.refl _ _).alloc (Nat.le_refl _) _
        have hb4 := hb3.trans (hb2.mono (by rw [HS0.out]; omega))
        have hrd := HV.out.below hb4 (Nat.le_refl _)
        obtain ⟨A, cv, rfl, v1, v2, v3, v4⟩ := hrd
        obtain ⟨w9, hcp, hg9, hb9⟩ := copy_tail (w := ((wr.setCell ⟨g, 9, none⟩ (.int .u8 ((UInt8.ofNat data.length).toNat : Int))).setCell ⟨g, 10, none⟩ (.int .u8 ((UInt8.ofNat (data.length / 256)).toNat : Int))).drew.drew) (cv := cv) (A := A) 3 (low 8 n ++ [0, UInt8.ofNat data.length, UInt8.ofNat (data.length / 256)]) data (by rw [List.length_append, low_length]; rfl) hl501 (own_heap hs2).1 (fun hn => by
          obtain ⟨b, o, hA, _, hc⟩ := v4 hn
          exact ⟨b, o, hA, hc⟩) (hb4.drew.drew) (Nat.le_of_lt hgw)
        rw [← e1, ← e2] at hcp
        have HG9 := Lib.hid hg9
        have HB9 := Lib.hid hb9
        clear hs2 hb2 hb3 hb4 e1 e2 v1 v2 v3 v4 hg9 hb9 hge
        go_region
        go_wp2_with fail
        go_region
        all_goals go_wp2_with fail
        all_goals go_ret
        exact ⟨g, rfl, Nat.le_of_lt hgw, by rw [HG9.out]; unfold Pc.sec; rw [List.append_assoc]; rfl, HB9.out⟩
      | true =>
        obtain ⟨y8, hy8⟩ : ∃ u, wr.cell? ⟨g, 8, none⟩ = some u := ⟨_, (hox.out.cellAt 8 (by omega)).trans (List.getElem?_eq_getElem (by rw [BS_length, lowed_length n 8 (by omega)]; omega))⟩
        have hz8 : wr.frozen? ⟨g, 8, none⟩ = false := hox.out.frozenAt 8
        have hst := (hox.out.stored 8 (.int .u8 ((1 : UInt8).toNat : Int))).1
        rw [← BS_set, flag_set] at hst
        have HST := Lib.hid hst
        have hb' := hb.setCell (p := ⟨g, 8, none⟩) (by show w0.heap.size ≤ g; rw [HG.out]; exact Nat.le_refl _) (.int .u8 ((1 : UInt8).toNat : Int))
        have hcd' : (wr.setCell ⟨g, 8, none⟩ (.int .u8 ((1 : UInt8).toNat : Int))).cell? ⟨w.heap.size, 2, none⟩ = some v := by
          rw [hb'.cell (p := ⟨w.heap.size, 2, none⟩) (by show w.heap.size < _; rw [HS0.out]; omega), HW0.out]
          exact World.cell?_alloc_new _ _ _ _
        clear hst hox hmk
        go_wp2_with fail
        clear hb hcd hcl hy8 hz8
        obtain ⟨wq, hwq⟩ : ∃ wq, wq = wr.setCell ⟨g, 8, none⟩ (.int .u8 ((1 : UInt8).toNat : Int)) := ⟨_, rfl⟩
        have hcd := hcd'
        clear hcd'
        rw [show wr.setCell ⟨g, 8, none⟩ (.int .u8 1) = wq from hwq.symm]
        rw [← hwq] at hcd hb' HST
        clear hwq
        obtain ⟨y9, hy9⟩ : ∃ u, wq.cell? ⟨g, 9, none⟩ = some u := ⟨_, (HST.out.cellAt 9 (by omega)).trans (List.getElem?_eq_getElem (by rw [BS_length, flag_length]; omega))⟩
        obtain ⟨y10, hy10⟩ : ∃ u, wq.cell? ⟨g, 10, none⟩ = some u := ⟨_, (HST.out.cellAt 10 (by omega)).trans (List.getElem?_eq_getElem (by rw [BS_length, flag_length]; omega))⟩
        have hz9 : wq.frozen? ⟨g, 9, none⟩ = false := HST.out.frozenAt 9
        have hz10 : wq.frozen? ⟨g, 10, none⟩ = false := HST.out.frozenAt 10
        have hl501 : data.length ≤ 501 := HP.out
        have e1 : (data.length : Int) % 256 = ((UInt8.ofNat data.length).toNat : Int) := by rw [UInt8.toNat_ofNat']; omega
        have e2 : (data.length : Int) / 256 = ((UInt8.ofNat (data.length / 256)).toNat : Int) := by rw [UInt8.toNat_ofNat']; omega
        have hs2 := ((HST.out.stored 9 (.int .u8 ((UInt8.ofNat data.length).toNat : Int))).1.stored 10 (.int .u8 ((UInt8.ofNat (data.length / 256)).toNat : Int))).1
        rw [← BS_set, ← BS_set, sizes_set] at hs2
        have hge := HG.out
        have hb2 := (hb'.setCell (p := ⟨g, 9, none⟩) (by show w0.heap.size ≤ g; omega) (.int .u8 ((UInt8.ofNat data.length).toNat : Int))).setCell (p := ⟨g, 10, none⟩) (by show w0.heap.size ≤ g; omega) (.int .u8 ((UInt8.ofNat (data.length / 256)).toNat : Int))
        have hb3 : Below w.heap.size w w0 := by rw [HW0.out]; exact (Below.refl _ _).alloc (Nat.le_refl _) _
        have hb4 := hb3.trans (hb2.mono (by rw [HS0.out]; omega))
        have hrd := HV.out.below hb4 (Nat.le_refl _)
        obtain ⟨A, cv, rfl, v1, v2, v3, v4⟩ := hrd
        obtain ⟨w9, hcp, hg9, hb9⟩ := copy_tail (w := ((wq.setCell ⟨g, 9, none⟩ (.int .u8 ((UInt8.ofNat data.length).toNat : Int))).setCell ⟨g, 10, none⟩ (.int .u8 ((UInt8.ofNat (data.length / 256)).toNat : Int))).drew.drew) (cv := cv) (A := A) 3 (low 8 n ++ [1, UInt8.ofNat data.length, UInt8.ofNat (data.length / 256)]) data (by rw [List.length_append, low_length]; rfl) hl501 (own_heap hs2).1 (fun hn => by
          obtain ⟨b, o, hA, _, hc⟩ := v4 hn
          exact ⟨b, o, hA, hc⟩) (hb4.drew.drew) (Nat.le_of_lt hgw)
        rw [← e1, ← e2] at hcp
        have HG9 := Lib.hid hg9
        have HB9 := Lib.hid hb9
        clear hs2 hb2 hb3 hb4 e1 e2 v1 v2 v3 v4 hg9 hb9 hge
        go_region
        go_wp2_with fail
        go_region
        all_goals go_wp2_with fail
        all_goals go_ret
        exact ⟨g, rfl, Nat.le_of_lt hgw, by rw [HG9.out]; unfold Pc.sec; rw [List.append_assoc]; rfl, HB9.out⟩
end Go.Proofs.Ytlokehekkllbeaa
namespace Go.Proofs.Ytlokehekkllbeaa

theorem low_val (l : List UInt8) : low l.length (val l) = l := by
  induction l with
  | nil => rfl
  | cons x l ih =>
    have hx := x.toNat_lt
    rw [List.length_cons, low, val]
    have h1 : UInt8.ofNat (x.toNat + 256 * val l) = x := by
      apply UInt8.toNat_inj.1
      rw [UInt8.toNat_ofNat']
      omega
    have h2 : (x.toNat + 256 * val l) / 256 = val l := by omega
    rw [h1, h2, ih]

/-- what a sector's bytes say, whatever they are -/
def rawPc (b : List UInt8) : Pc := ⟨val (b.take 8), b.getD 8 0 == 1, (b.drop 11).take (lenOf b)⟩
/-- the piece that a sector's bytes are -/
def pcIn (b : List UInt8) : Option Pc :=
  if val (b.take 8) < 1 ∨ 4611686018427387904 < val (b.take 8) ∨ 501 < lenOf b then none
  else if ((rawPc b).last = false ∧ lenOf b < 501) ∨ (rawPc b).sec ≠ b then none else some (rawPc b)

theorem raw_length {b : List UInt8} (hb : b.length = 512) (h : ¬ 501 < lenOf b) : (rawPc b).data.length = lenOf b := by
  show ((b.drop 11).take (lenOf b)).length = _
  rw [List.length_take, List.length_drop]
  omega
theorem pcIn_some {b : List UInt8} {p : Pc} (hb : b.length = 512) (h : pcIn b = some p) : p.fine ∧ p.sec = b ∧ p = rawPc b := by
  unfold pcIn at h
  split at h
  · exact absurd h (by simp)
  · rename_i h1
    split at h
    · exact absurd h (by simp)
    · rename_i h2
      obtain rfl := Option.some.inj h
      have hl := raw_length hb (fun hh => h1 (.inr (.inr hh)))
      refine ⟨⟨by show 1 ≤ val _; omega, by show val _ ≤ _; omega, by omega, fun hf => ?_⟩, Decidable.byContradiction fun hh => h2 (.inr hh), rfl⟩
      have : ¬ lenOf b < 501 := fun hh => h2 (.inl ⟨hf, hh⟩)
      omega
theorem raw_sec {b : List UInt8} (hb : b.length = 512) (h1 : ¬ 1 < b.getD 8 0) (h2 : ¬ 501 < lenOf b) (h3 : (b.drop (11 + lenOf b)).all (· == 0) = true) : (rawPc b).sec = b := by
  have hl := raw_length hb h2
  have e1 : low 8 (rawPc b).n = b.take 8 := by
    have := low_val (b.take 8)
    rw [List.length_take, Nat.min_eq_left (by omega)] at this
    exact this
  have e2 : (if (rawPc b).last = true then (1 : UInt8) else 0) = b.getD 8 0 := by
    show (if (b.getD 8 0 == 1) = true then (1 : UInt8) else 0) = _
    generalize b.getD 8 0 = x at h1 ⊢
    have hx : ¬ 1 < x.toNat := fun hh => h1 hh
    by_cases hq : x = 1
    · rw [hq]; rfl
    · rw [if_neg (by simpa using hq)]
      apply UInt8.toNat_inj.1
      have : x.toNat ≠ 1 := fun hh => hq (UInt8.toNat_inj.1 hh)
      show 0 = x.toNat
      omega
  have b9 := (b.getD 9 0).toNat_lt
  have b10 := (b.getD 10 0).toNat_lt
  have e3 : UInt8.ofNat (rawPc b).data.length = b.getD 9 0 := by
    rw [hl]
    apply UInt8.toNat_inj.1
    rw [UInt8.toNat_ofNat']
    unfold lenOf
    omega
  have e4 : UInt8.ofNat ((rawPc b).data.length / 256) = b.getD 10 0 := by
    rw [hl]
    apply UInt8.toNat_inj.1
    rw [UInt8.toNat_ofNat']
    unfold lenOf
    omega
  have e5 : (rawPc b).data ++ List.replicate (501 - (rawPc b).data.length) 0 = b.drop 11 := by
    rw [hl]
    show (b.drop 11).take (lenOf b) ++ _ = _
    have h4 : List.replicate (501 - lenOf b) (0 : UInt8) = (b.drop 11).drop (lenOf b) := by
      rw [List.drop_drop]
      symm
      rw [List.eq_replicate_iff]
      refine ⟨by rw [List.length_drop]; omega, fun x hx => ?_⟩
      exact eq_of_beq (List.all_eq_true.1 h3 x hx)
    rw [h4, List.take_append_drop]
  unfold Pc.sec
  rw [e1, e2, e3, e4, e5]
  have g : ∀ i, (hi : i < 512) → b.drop i = b.getD i 0 :: b.drop (i + 1) := fun i hi => by
    rw [List.drop_eq_getElem_cons (by omega), List.getD_eq_getElem?_getD, List.getElem?_eq_getElem (by omega)]
    rfl
  rw [← g 10 (by omega), ← g 9 (by omega), ← g 8 (by omega), List.take_append_drop]
theorem pcOf_pcIn {b : List UInt8} (hb : b.length = 512) (place count : Nat) : pcOf b place count = (pcIn b).filter fun p => p.n % count == place := by
  rcases hp : pcIn b with _ | p
  · rcases hq : pcOf b place count with _ | q
    · rfl
    · exfalso
      unfold pcOf at hq
      split at hq
      · exact absurd hq (by simp)
      · rename_i h1
        split at hq
        · rename_i h2
          unfold pcIn at hp
          have hs := raw_sec hb (fun hh => h1 (.inr (.inr (.inr (.inl hh))))) (fun hh => h1 (.inr (.inr (.inr (.inr (.inl hh)))))) h2
          rw [if_neg (fun hh => hh.elim (fun hh => h1 (.inl hh)) fun hh => hh.elim (fun hh => h1 (.inr (.inl hh))) fun hh => h1 (.inr (.inr (.inr (.inr (.inl hh)))))), if_neg] at hp
          · exact absurd hp (by simp)
          · rintro (⟨h3, h4⟩ | h3)
            · refine h1 (.inr (.inr (.inr (.inr (.inr ⟨?_, by omega⟩)))))
              have h5 : (b.getD 8 0 == 1) = false := h3
              have h6 : ¬ 1 < b.getD 8 0 := fun hh => h1 (.inr (.inr (.inr (.inl hh))))
              generalize b.getD 8 0 = x at h5 h6
              have hx : ¬ 1 < x.toNat := fun hh => h6 hh
              apply UInt8.toNat_inj.1
              have : x.toNat ≠ 1 := fun hh => by
                have : x = 1 := UInt8.toNat_inj.1 hh
                rw [this] at h5
                exact absurd h5 (by decide)
              show x.toNat = 0
              omega
            · exact h3 hs
        · exact absurd hq (by simp)
  · obtain ⟨h1, h2, h3⟩ := pcIn_some hb hp
    by_cases hm : p.n % count = place
    · have := pcOf_sec h1 count
      rw [h2, hm] at this
      rw [this]
      exact (Option.filter_eq_some_iff.2 ⟨rfl, by simpa using hm⟩).symm
    · have hn : val (b.take 8) = p.n := by rw [h3]; rfl
      unfold pcOf
      rw [hn, if_pos (.inr (.inr (.inl hm)))]
      symm
      exact Option.filter_eq_none_iff.2 fun q hq => by obtain rfl := Option.some.inj hq; simpa using hm
end Go.Proofs.Ytlokehekkllbeaa
namespace Go.Proofs.Ytlokehekkllbeaa
open Go.RowKit

theorem or_apart (a b k : Nat) (h : a < 2 ^ k) : a ||| (2 ^ k * b) = a + 2 ^ k * b := by
  rw [Nat.or_comm, ← Nat.two_pow_add_eq_or_of_lt h, Nat.add_comm]
theorem bits_or_i64 (a b : Nat) (ha : a < 9223372036854775808) (hb : b < 9223372036854775808) : bits .or .i64 (a : Int) (b : Int) = ((a ||| b : Nat) : Int) := by
  have hx : a ||| b < 2 ^ 63 := Nat.or_lt_two_pow (by omega) (by omega)
  show IntKind.i64.wrap ((BitVec.ofInt 64 (a : Int) ||| BitVec.ofInt 64 (b : Int)).toNat : Int) = _
  rw [BitVec.toNat_or, ofInt_u64 a (by omega), ofInt_u64 b (by omega), IntKind.wrap_i64]
  omega
theorem bits_or_u64 (a b : Nat) (ha : a < 18446744073709551616) (hb : b < 18446744073709551616) : bits .or .u64 (a : Int) (b : Int) = ((a ||| b : Nat) : Int) := by
  have hx : a ||| b < 2 ^ 64 := Nat.or_lt_two_pow (by omega) (by omega)
  show IntKind.u64.wrap ((BitVec.ofInt 64 (a : Int) ||| BitVec.ofInt 64 (b : Int)).toNat : Int) = _
  rw [BitVec.toNat_or, ofInt_u64 a (by omega), ofInt_u64 b (by omega), IntKind.wrap_u64]
  omega

/-- a new block of a sector's bytes -/
def SecB (w : World) (g : Nat) (s : List UInt8) : Prop := w.heap[g]? = some (.cells (sec s) 88 (0, 0)) ∧ s.length = 512
theorem SecB.cell {w : World} {g : Nat} {s : List UInt8} (h : SecB w g s) {i : Nat} (hi : i < 512) : w.cell? ⟨g, i, none⟩ = some (.int .u8 ((s.getD i 0).toNat : Int)) := by
  have hl := h.2
  have e : w.cell? ⟨g, i, none⟩ = (sec s)[i]? := by
    unfold World.cell?
    rw [h.1]
    rfl
  rw [e]
  unfold sec BS
  rw [List.getElem?_toArray, List.getElem?_map, List.getElem?_eq_getElem (by omega), List.getD_eq_getElem?_getD, List.getElem?_eq_getElem (by omega)]
  rfl

set_option maxHeartbeats 1000000 in
theorem psize_any (g : Nat) (s : List UInt8) (w : World) (h : SecB w g s) :
    Calls Try.prog 52 #[.pointer (some ⟨g, 0, none⟩)] w fun e w' => e = .returned (.int .i64 (lenOf s : Int)) ∧ Below w.heap.size w w' := by
  have c1 := h.cell (i := 9) (by omega)
  have c2 := h.cell (i := 10) (by omega)
  have b1 := (s.getD 9 0).toNat_lt
  have b2 := (s.getD 10 0).toNat_lt
  have hor : bits .or .i64 (((s.getD 9 0).toNat : Nat) : Int) (((s.getD 10 0).toNat : Nat) * 256 : Int) = (lenOf s : Int) := by
    rw [show (((s.getD 10 0).toNat : Nat) * 256 : Int) = ((2 ^ 8 * (s.getD 10 0).toNat : Nat) : Int) by omega, bits_or_i64 _ _ (by omega) (by omega), or_apart _ _ _ (by omega)]
    rfl
  obtain ⟨x, hx⟩ : ∃ x, x = (s.getD 9 0).toNat := ⟨_, rfl⟩
  obtain ⟨y, hy⟩ : ∃ y, y = (s.getD 10 0).toNat := ⟨_, rfl⟩
  obtain ⟨z, hz⟩ : ∃ z, z = lenOf s := ⟨_, rfl⟩
  rw [← hz] at hor ⊢
  rw [← hx] at c1 b1 hor
  rw [← hy] at c2 b2 hor
  clear hx hy hz h
  go_enter Try.func52, Try.ntmps52
  go_wp2_with fail
  go_region
  all_goals go_wp2_with fail
  all_goals go_ret
  all_goals exact ⟨rfl, (Below.refl _ _).drew⟩

theorem val_snoc (l : List UInt8) (x : UInt8) : val (l ++ [x]) = val l + 256 ^ l.length * x.toNat := by
  induction l with
  | nil => simp [val]
  | cons y l ih => rw [List.cons_append, val, val, ih, List.length_cons, Nat.pow_succ, Nat.mul_add]; rw [← Nat.mul_assoc, Nat.mul_comm 256 (256 ^ l.length), Nat.add_assoc]

theorem val_or (s : List UInt8) (r : Nat) (hr : r < 8) (hs : s.length = 512) : bits .or .u64 ((val (s.take r) : Nat) : Int) (IntKind.u64.wrap (((s.getD r 0).toNat : Int) * 2 ^ (8 * r))) = ((val (s.take (r + 1)) : Nat) : Int) := by
  have hx := (s.getD r 0).toNat_lt
  have hv := val_lt (s.take r)
  have hv' := val_lt (s.take (r + 1))
  have hl : (s.take r).length = r := by rw [List.length_take]; omega
  have hl' : (s.take (r + 1)).length = r + 1 := by rw [List.length_take]; omega
  rw [hl] at hv
  rw [hl'] at hv'
  have e0 : s.take (r + 1) = s.take r ++ [s.getD r 0] := take_snoc (by rw [List.getD_eq_getElem?_getD, List.getElem?_eq_getElem (by omega)]; rfl)
  have e1 : val (s.take (r + 1)) = val (s.take r) + 256 ^ r * (s.getD r 0).toNat := by rw [e0, val_snoc, hl]
  have e2 : (256 : Nat) ^ r = 2 ^ (8 * r) := by rw [show (256 : Nat) = 2 ^ 8 from rfl, ← Nat.pow_mul]
  have h8 : (256 : Nat) ^ (r + 1) ≤ 256 ^ 8 := Nat.pow_le_pow_right (by omega) (by omega)
  have h9 : (256 : Nat) ^ 8 = 18446744073709551616 := rfl
  have e3 : ((s.getD r 0).toNat : Int) * 2 ^ (8 * r) = ((2 ^ (8 * r) * (s.getD r 0).toNat : Nat) : Int) := by
    rw [Int.natCast_mul, Int.natCast_pow, Int.mul_comm]
    rfl
  rw [e2] at e1 hv
  have h10 : 2 ^ (8 * r) * (s.getD r 0).toNat < 18446744073709551616 := by omega
  rw [e3, IntKind.wrap_u64, show ((2 ^ (8 * r) * (s.getD r 0).toNat : Nat) : Int) % 18446744073709551616 = ((2 ^ (8 * r) * (s.getD r 0).toNat : Nat) : Int) by omega, bits_or_u64 _ _ (by omega) h10, or_apart _ _ _ hv, e1]

set_option maxHeartbeats 1000000 in
theorem pnumber_any (g : Nat) (s : List UInt8) (w : World) (h : SecB w g s) :
    Calls Try.prog 51 #[.pointer (some ⟨g, 0, none⟩)] w fun e w' => e = .returned (.int .u64 (val (s.take 8) : Int)) ∧ w = w' := by
  have H := Lib.hid h
  clear h
  go_enter Try.func51, Try.ntmps51
  go_wp2_with fail
  go_loopw [3, 5] (fun n i wr => ∃ r : Nat, i = .int .i64 r ∧ r ≤ 8 ∧ n = .int .u64 (val (s.take r) : Int) ∧ w = wr) (fun _ i _ => 8 - (intOf i).toNat)
  case atStart => exact ⟨0, rfl, by omega, rfl, rfl⟩
  case round =>
    obtain ⟨r, rfl, hr, rfl, rfl⟩ := hrel
    by_cases hrl : r < 8
    · have i1 : (r : Int) < 8 := by omega
      have i0 : (0 : Int) ≤ (r : Int) := by omega
      have i5 : (r : Int) < 512 := by omega
      have c1 := H.out.cell (i := r) (by omega)
      have hor := val_or s r hrl H.out.2
      obtain ⟨x, hx⟩ : ∃ x, x = (s.getD r 0).toNat := ⟨_, rfl⟩
      rw [← hx] at c1 hor
      obtain ⟨y, hy⟩ : ∃ y, y = val (s.take r) := ⟨_, rfl⟩
      rw [← hy] at hor ⊢
      have hxl : x < 256 := by rw [hx]; exact UInt8.toNat_lt _
      clear hx hy
      go_wp2_with fail
      exact ⟨⟨r + 1, by go_num, hrl, rfl, trivial⟩, by simp [intOf]; omega⟩
    · have i1 : ¬ (r : Int) < 8 := by omega
      obtain rfl : r = 8 := by omega
      go_wp2_with fail
      go_ret
      exact ⟨rfl, rfl⟩
end Go.Proofs.Ytlokehekkllbeaa
namespace Go.Proofs.Ytlokehekkllbeaa
open Go.RowKit

theorem info_RSec : (Try.prog.info? 88).map (fun i => (i.zero, i.size)) = some (some (.agg (sec (List.replicate 512 0))), 512) := by kernel_rfl
theorem rsec_zero (w : World) : (zeroValue 88).run Try.prog w = .ok (.agg (sec (List.replicate 512 0))) w := (zero_of_info info_RSec).1 w
theorem rsec_info : (Try.prog.info? 88).map (·.size) = some 512 := (zero_of_info info_RSec).2

set_option maxRecDepth 100000 in
/-- bytes copied behind the first eleven, whatever the block's type -/
theorem copy_tailE {w w0 : World} {B g cv : Nat} {A : Option Addr} {E : TypeId} (ty : TypeId) (H data : List UInt8) (hH : H.length = 11) (hl : data.length ≤ 501) (hg : w.heap[g]? = some (.cells (BS (H ++ List.replicate 501 0)).toArray E (0, 0)))
    (hsrc : data ≠ [] → ∃ b o, A = some ⟨b, o, none⟩ ∧ ∀ i x, data[i]? = some x → w.cell? ⟨b, o + i, none⟩ = some (.int .u8 (x.toNat : Int))) (hb : Below B w0 w) (hB : B ≤ g) :
    ∃ w', (Builtin.copy_ #[39, 39] ty #[.slice (some ⟨g, 11, none⟩) 501 501, .slice A data.length cv]).run Try.prog w = .ok (goInt data.length) w' ∧
      w'.heap[g]? = some (.cells (BS (H ++ (data ++ List.replicate (501 - data.length) 0))).toArray E (0, 0)) ∧ Below B w0 w' := by
  by_cases hn : data = []
  · subst hn
    exact ⟨w, run_copy_none (P := Try.prog) w 39 39 ty 5 _ A 501 501 0 cv Try.underlying39 u8_ones (by rfl), hg, hb⟩
  · obtain ⟨b, o, rfl, hc⟩ := hsrc hn
    have h := run_copy_row (P := Try.prog) w 39 39 ty 5 g 11 501 501 ⟨b, o, none⟩ data.length cv _ E (BS data) Try.underlying39 u8_ones hg (by rw [BS_length]; exact (Nat.min_eq_left hl).symm) (fun j u hu => by
      obtain ⟨x, hx, rfl⟩ := BS_get hu
      rw [plus_zero]
      exact hc j x hx) (by simp only [List.size_toArray, BS_length, List.length_append, List.length_replicate]; omega) (BS_one data)
    have e : ((BS (H ++ List.replicate 501 0)).toArray.toList.take 11 ++ BS data ++ (BS (H ++ List.replicate 501 0)).toArray.toList.drop (11 + (BS data).length)) = BS (H ++ (data ++ List.replicate (501 - data.length) 0)) := by
      rw [BS_length, BS_append, BS_append, BS_append]
      show (BS H ++ BS (List.replicate 501 0)).take 11 ++ BS data ++ (BS H ++ BS (List.replicate 501 0)).drop (11 + data.length) = _
      rw [List.take_left' (by rw [BS_length, hH]), ← List.drop_drop, List.drop_left' (by rw [BS_length, hH]), List.append_assoc]
      congr 2
      unfold BS
      rw [List.map_replicate, List.map_replicate, List.drop_replicate]
    rw [e, BS_length] at h
    exact ⟨_, h, setRow_heap w g _ _ _ _ hg, below_setRow hb hB _⟩
theorem own_heapE {w : World} {B g : Nat} {e : TypeId} {l : List UInt8} (h : w.ownsRow B e 1 (.slice (some ⟨g, 0, none⟩) 512 512) 512 (BS l)) : w.heap[g]? = some (.cells (BS l).toArray e (0, 0)) ∧ B ≤ g := own_heap h
/-- a new block of 512 noughts -/
theorem own_noughts (w : World) (B : Nat) (e : TypeId) (Z : Array Value) (hZ : Z = sec (List.replicate 512 0)) (hB : B ≤ w.heap.size) : (w.alloc (.cells Z e)).ownsRow B e 1 (.slice (some ⟨w.heap.size, 0, none⟩) 512 512) 512 (BS (List.replicate 512 0)) := by
  have hz : Z.size = 512 := by rw [hZ, sec_size, List.length_replicate]
  refine ⟨by rw [BS_length, List.length_replicate], .inr ⟨w.heap.size, 512, Z, rfl, hB, heap_alloc_new w _, Nat.le_refl _, by unfold maxLen; omega, hz, ?_⟩⟩
  rw [hZ]
  unfold sec
  rw [List.toList_toArray]
  exact List.take_of_length_le (by rw [BS_length, List.length_replicate]; exact Nat.le_refl _)

set_option maxHeartbeats 2000000 in
theorem psector_any (p : Pc) (v : Value) (w : World) (hp : p.fine) (hv : Rd w w.heap.size v p.data) : Calls Try.prog 46 #[pcv p v] w fun e w' => e = .returned (.agg (sec p.sec)) ∧ Below w.heap.size w w' := by
  have hzero := rsec_zero
  obtain ⟨Z, hZ⟩ : ∃ Z, Z = sec (List.replicate 512 0) := ⟨_, rfl⟩
  have hZs : Z.size = 512 := by rw [hZ, sec_size, List.length_replicate]
  simp only [← hZ] at hzero
  obtain ⟨w0, hw0⟩ : ∃ w0, w0 = w.alloc (.cells #[.int .i64 (p.n : Int), .bool p.last, v] 71) := ⟨_, rfl⟩
  have hs0 : w0.heap.size = w.heap.size + 1 := by rw [hw0]; simp
  obtain ⟨w2, hw2⟩ : ∃ w2, w2 = w0.alloc (.cells Z 88) := ⟨_, rfl⟩
  have hs2 : w2.heap.size = w.heap.size + 2 := by rw [hw2]; simp; omega
  have ho1 := own_noughts w2 (w.heap.size + 2) 88 Z hZ (by omega)
  obtain ⟨w1, hw1⟩ : ∃ w1, w1 = w2.alloc (.cells Z 88) := ⟨_, rfl⟩
  rw [← hw1] at ho1
  have hb1 : Below w.heap.size w w1 := by rw [hw1, hw2, hw0]; exact (((Below.refl _ _).alloc (Nat.le_refl _) _).alloc (by simp) _).alloc (by simp; omega) _
  have hnb : w1.heap[w.heap.size + 1]? = some (.cells Z 88 (0, 0)) := by
    rw [hw1, Below.heap_alloc w2 _ _ (by omega), hw2, ← hs0]
    exact heap_alloc_new _ _
  have hbp : Below (w.heap.size + 1) w0 w1 := by rw [hw1, hw2]; exact ((Below.refl _ _).alloc (by omega) _).alloc (by simp; omega) _
  have hcn : w1.cell? ⟨w.heap.size, 0, none⟩ = some (.int .i64 (p.n : Int)) := by
    rw [hbp.cell (p := ⟨w.heap.size, 0, none⟩) (by show w.heap.size < _; omega), hw0]
    exact World.cell?_alloc_new _ _ _ _
  have hcl : w1.cell? ⟨w.heap.size, 1, none⟩ = some (.bool p.last) := by
    rw [hbp.cell (p := ⟨w.heap.size, 1, none⟩) (by show w.heap.size < _; omega), hw0]
    exact World.cell?_alloc_new _ _ _ _
  have hcd : w1.cell? ⟨w.heap.size, 2, none⟩ = some v := by
    rw [hbp.cell (p := ⟨w.heap.size, 2, none⟩) (by show w.heap.size < _; omega), hw0]
    exact World.cell?_alloc_new _ _ _ _
  obtain ⟨g, hg⟩ : ∃ g, g = w2.heap.size := ⟨_, rfl⟩
  have hgw : w.heap.size + 2 = g := by omega
  rw [← hg] at ho1
  have HG := Lib.hid hgw
  have HV := Lib.hid hv
  have HO1 := Lib.hid ho1
  have HB1 := Lib.hid hb1
  have HNB := Lib.hid hnb
  have HCN := Lib.hid hcn
  have HCL := Lib.hid hcl
  have HCD := Lib.hid hcd
  have HW : Hid (w1 = ((w.alloc (.cells #[.int .i64 (p.n : Int), .bool p.last, v] 71)).alloc (.cells Z 88)).alloc (.cells Z 88)) := by rw [hw1, hw2, hw0]; exact Lib.hid rfl
  have HZ := Lib.hid hZ
  clear ho1 hb1 hnb hcn hcl hcd hw1 hw2 hw0 hs0 hs2 hg hgw hv hbp hZ
  obtain ⟨n, last, data⟩ := p
  unfold pcv
  go_enter Try.func46, Try.ntmps46
  go_upto_region 3 with fail
  rw [show w.heap.size + 1 + 1 = g from HG.out, ← HW.out]
  have HLO : Hid (w1.ownsRow (w.heap.size + 2) 88 1 (.slice (some ⟨g, 0, none⟩) 512 512) 512 (BS (lowed n 0))) := HO1
  clear HO1 HW
  go_loopw [5] (fun i wr => ∃ r : Nat, i = .int .i64 r ∧ r ≤ 8 ∧ Hid (wr.ownsRow (w.heap.size + 2) 88 1 (.slice (some ⟨g, 0, none⟩) 512 512) 512 (BS (lowed n r))) ∧ Below g w1 wr) (fun i _ => 8 - (intOf i).toNat)
  case atStart => exact ⟨0, rfl, by omega, HLO, Below.refl _ _⟩
  case round =>
    obtain ⟨r, rfl, hr, hox, hb⟩ := hrel
    by_cases hrl : r < 8
    · have i1 : (r : Int) < 8 := by omega
      have i0 : (0 : Int) ≤ (r : Int) := by omega
      have i5 : (r : Int) < 512 := by omega
      obtain ⟨u, hu⟩ : ∃ u, wr.cell? ⟨g, r, none⟩ = some u := by
        rw [hox.out.cellAt r (by omega)]
        exact ⟨_, List.getElem?_eq_getElem (by rw [BS_length, lowed_length n r (by omega)]; omega)⟩
      have hz : wr.frozen? ⟨g, r, none⟩ = false := hox.out.frozenAt r
      have hcn : wr.cell? ⟨w.heap.size, 0, none⟩ = some (.int .i64 (n : Int)) := (hb.cell (p := ⟨w.heap.size, 0, none⟩) (by show w.heap.size < _; have := HG.out; omega)).trans HCN.out
      have hst := (hox.out.stored r (.int .u8 ((n : Int) / 2 ^ (8 * r) % 256))).1
      rw [low_byte, ← BS_set, lowed_set n r (by omega), ← low_byte] at hst
      have HST := Lib.hid hst
      have hbs := hb.setCell (p := ⟨g, r, none⟩) (Nat.le_refl _) (.int .u8 ((n : Int) / 2 ^ (8 * r) % 256))
      clear hst hox
      go_wp2_with fail
      exact ⟨⟨r + 1, by go_num, hrl, HST, hbs⟩, by simp [intOf]; omega⟩
    · have i1 : ¬ (r : Int) < 8 := by omega
      obtain rfl : r = 8 := by omega
      have hlt : w.heap.size < g := by have := HG.out; omega
      have hcl : wr.cell? ⟨w.heap.size, 1, none⟩ = some (.bool last) := (hb.cell (p := ⟨w.heap.size, 1, none⟩) hlt).trans HCL.out
      have hcd : wr.cell? ⟨w.heap.size, 2, none⟩ = some v := (hb.cell (p := ⟨w.heap.size, 2, none⟩) hlt).trans HCD.out
      have HX := hox
      have hb' := hb
      obtain ⟨F, hF⟩ : ∃ F : UInt8, F = if last then 1 else 0 := ⟨_, rfl⟩
      cases last with
      | false =>
        have hst := hox.out
        rw [show lowed n 8 = low 8 n ++ 0 :: List.replicate 503 0 from rfl] at hst
        have HST := Lib.hid hst
        clear hst hox HX hF
        obtain ⟨wq, hwq⟩ : ∃ wq, wq = wr := ⟨_, rfl⟩
        go_wp2_with fail
        rw [← hwq] at hcd hcl hb hb' HST ⊢
        clear hwq
        clear hb hcl
        obtain ⟨y9, hy9⟩ : ∃ u, wq.cell? ⟨g, 9, none⟩ = some u := ⟨_, (HST.out.cellAt 9 (by omega)).trans (List.getElem?_eq_getElem (by rw [BS_length, flag_length]; omega))⟩
        obtain ⟨y10, hy10⟩ : ∃ u, wq.cell? ⟨g, 10, none⟩ = some u := ⟨_, (HST.out.cellAt 10 (by omega)).trans (List.getElem?_eq_getElem (by rw [BS_length, flag_length]; omega))⟩
        have hz9 : wq.frozen? ⟨g, 9, none⟩ = false := HST.out.frozenAt 9
        have hz10 : wq.frozen? ⟨g, 10, none⟩ = false := HST.out.frozenAt 10
        have hl501 : data.length ≤ 501 := hp.2.2.1
        have e1 : (data.length : Int) % 256 = ((UInt8.ofNat data.length).toNat : Int) := by rw [UInt8.toNat_ofNat']; omega
        have e2 : (data.length : Int) / 256 = ((UInt8.ofNat (data.length / 256)).toNat : Int) := by rw [UInt8.toNat_ofNat']; omega
        have hs2 := ((HST.out.stored 9 (.int .u8 ((UInt8.ofNat data.length).toNat : Int))).1.stored 10 (.int .u8 ((UInt8.ofNat (data.length / 256)).toNat : Int))).1
        rw [← BS_set, ← BS_set, sizes_set] at hs2
        have hge := HG.out
        have hb2 := (hb'.setCell (p := ⟨g, 9, none⟩) (Nat.le_refl _) (.int .u8 ((UInt8.ofNat data.length).toNat : Int))).setCell (p := ⟨g, 10, none⟩) (Nat.le_refl _) (.int .u8 ((UInt8.ofNat (data.length / 256)).toNat : Int))
        have hb4 := HB1.out.trans (hb2.mono (by omega))
        have hrd := HV.out.below hb4 (Nat.le_refl _)
        obtain ⟨A, cv, rfl, v1, v2, v3, v4⟩ := hrd
        obtain ⟨w9, hcp, hg9, hb9⟩ := copy_tailE (w := ((wq.setCell ⟨g, 9, none⟩ (.int .u8 ((UInt8.ofNat data.length).toNat : Int))).setCell ⟨g, 10, none⟩ (.int .u8 ((UInt8.ofNat (data.length / 256)).toNat : Int))).drew.drew) (cv := cv) (A := A) 3 (low 8 n ++ [0, UInt8.ofNat data.length, UInt8.ofNat (data.length / 256)]) data (by rw [List.length_append, low_length]; rfl) hl501 (own_heapE hs2).1 (fun hn => by
          obtain ⟨b, o, hA, _, hc⟩ := v4 hn
          exact ⟨b, o, hA, hc⟩) (hb2.drew.drew) (Nat.le_refl _)
        rw [← e1, ← e2] at hcp
        have hpsec : low 8 n ++ [0, UInt8.ofNat data.length, UInt8.ofNat (data.length / 256)] ++ (data ++ List.replicate (501 - data.length) 0) = Pc.sec ⟨n, false, data⟩ := by unfold Pc.sec; rw [List.append_assoc]; rfl
        rw [hpsec] at hg9
        have hb9' := HB1.out.trans (hb9.mono (Nat.le_of_lt hlt))
        have hnb9 : w9.heap[w.heap.size + 1]? = some (.cells Z 88 (0, 0)) := (hb9.block _ (by omega)).trans HNB.out
        have hsl : (Pc.sec ⟨n, false, data⟩).length = 512 := Pc.sec_length _ hl501
        obtain ⟨T, hT⟩ : ∃ T, T = Pc.sec ⟨n, false, data⟩ := ⟨_, rfl⟩
        rw [← hT] at hg9 hsl
        have hts : (sec T).size = 512 := by rw [sec_size, hsl]
        have hto := sec_one T
        obtain ⟨ST, hST⟩ : ∃ ST, ST = sec T := ⟨_, rfl⟩
        rw [← hST] at hts hto
        have HE := Lib.hid hST
        have HT := Lib.hid hT
        have hg9' : w9.heap[g]? = some (.cells ST 88 (0, 0)) := by rw [hST]; exact hg9
        clear hg9 hs2 hb2 hb4 e1 e2 v1 v2 v3 v4 hge hpsec hT hST hsl HST hb' hb9 HB1 HNB HCN HCL HCD HV HLO
        go_region
        go_wp2_with fail
        go_region
        all_goals go_wp2_with (first
          | (refine wpList_load_row rfl 88 (.tmp 3) rfl g rfl 88 ST (0, 0) _ hg9' Try.underlying88 rfl (by rw [hts]; exact rsec_info) ?_)
          | (refine wpList_store_row rfl 88 (.tmp 2) (.tmp 35) rfl (w.heap.size + 1) ST rfl rfl 88 Z hnb9 (by rw [hts]; exact rsec_info) (by rw [hts]; exact hZs) hto ?_))
        all_goals
          have hfin := setRow_heap w9 (w.heap.size + 1) Z ST _ _ hnb9
          refine bodyPost_ret (v := .agg ST) ?_ rfl ⟨by rw [HE.out, HT.out], below_setRow hb9' (Nat.le_succ _) _⟩
          exact results_cell_row rfl _ _ (w.heap.size + 1) 88 ST (0, 0) _ rfl hfin Try.underlying88 rfl (by rw [hts]; exact rsec_info)
      | true =>
        obtain ⟨y8, hy8⟩ : ∃ u, wr.cell? ⟨g, 8, none⟩ = some u := ⟨_, (hox.out.cellAt 8 (by omega)).trans (List.getElem?_eq_getElem (by rw [BS_length, lowed_length n 8 (by omega)]; omega))⟩
        have hz8 : wr.frozen? ⟨g, 8, none⟩ = false := hox.out.frozenAt 8
        have hst := (hox.out.stored 8 (.int .u8 ((1 : UInt8).toNat : Int))).1
        rw [← BS_set, flag_set] at hst
        have HST := Lib.hid hst
        have hb'' := hb.setCell (p := ⟨g, 8, none⟩) (Nat.le_refl _) (.int .u8 ((1 : UInt8).toNat : Int))
        have hcd' : (wr.setCell ⟨g, 8, none⟩ (.int .u8 ((1 : UInt8).toNat : Int))).cell? ⟨w.heap.size, 2, none⟩ = some v := (hb''.cell (p := ⟨w.heap.size, 2, none⟩) hlt).trans HCD.out
        clear hst hox HX hF hb'
        go_wp2_with fail
        clear hb hcd hcl hy8 hz8
        obtain ⟨wq, hwq⟩ : ∃ wq, wq = wr.setCell ⟨g, 8, none⟩ (.int .u8 ((1 : UInt8).toNat : Int)) := ⟨_, rfl⟩
        have hcd := hcd'
        have hb := hb''
        have hb' := hb''
        have hcl := hlt
        clear hcd' hb''
        rw [show wr.setCell ⟨g, 8, none⟩ (.int .u8 1) = wq from hwq.symm]
        rw [← hwq] at hcd hb hb' HST
        clear hwq
        clear hb hcl
        obtain ⟨y9, hy9⟩ : ∃ u, wq.cell? ⟨g, 9, none⟩ = some u := ⟨_, (HST.out.cellAt 9 (by omega)).trans (List.getElem?_eq_getElem (by rw [BS_length, flag_length]; omega))⟩
        obtain ⟨y10, hy10⟩ : ∃ u, wq.cell? ⟨g, 10, none⟩ = some u := ⟨_, (HST.out.cellAt 10 (by omega)).trans (List.getElem?_eq_getElem (by rw [BS_length, flag_length]; omega))⟩
        have hz9 : wq.frozen? ⟨g, 9, none⟩ = false := HST.out.frozenAt 9
        have hz10 : wq.frozen? ⟨g, 10, none⟩ = false := HST.out.frozenAt 10
        have hl501 : data.length ≤ 501 := hp.2.2.1
        have e1 : (data.length : Int) % 256 = ((UInt8.ofNat data.length).toNat : Int) := by rw [UInt8.toNat_ofNat']; omega
        have e2 : (data.length : Int) / 256 = ((UInt8.ofNat (data.length / 256)).toNat : Int) := by rw [UInt8.toNat_ofNat']; omega
        have hs2 := ((HST.out.stored 9 (.int .u8 ((UInt8.ofNat data.length).toNat : Int))).1.stored 10 (.int .u8 ((UInt8.ofNat (data.length / 256)).toNat : Int))).1
        rw [← BS_set, ← BS_set, sizes_set] at hs2
        have hge := HG.out
        have hb2 := (hb'.setCell (p := ⟨g, 9, none⟩) (Nat.le_refl _) (.int .u8 ((UInt8.ofNat data.length).toNat : Int))).setCell (p := ⟨g, 10, none⟩) (Nat.le_refl _) (.int .u8 ((UInt8.ofNat (data.length / 256)).toNat : Int))
        have hb4 := HB1.out.trans (hb2.mono (by omega))
        have hrd := HV.out.below hb4 (Nat.le_refl _)
        obtain ⟨A, cv, rfl, v1, v2, v3, v4⟩ := hrd
        obtain ⟨w9, hcp, hg9, hb9⟩ := copy_tailE (w := ((wq.setCell ⟨g, 9, none⟩ (.int .u8 ((UInt8.ofNat data.length).toNat : Int))).setCell ⟨g, 10, none⟩ (.int .u8 ((UInt8.ofNat (data.length / 256)).toNat : Int))).drew.drew) (cv := cv) (A := A) 3 (low 8 n ++ [1, UInt8.ofNat data.length, UInt8.ofNat (data.length / 256)]) data (by rw [List.length_append, low_length]; rfl) hl501 (own_heapE hs2).1 (fun hn => by
          obtain ⟨b, o, hA, _, hc⟩ := v4 hn
          exact ⟨b, o, hA, hc⟩) (hb2.drew.drew) (Nat.le_refl _)
        rw [← e1, ← e2] at hcp
        have hpsec : low 8 n ++ [1, UInt8.ofNat data.length, UInt8.ofNat (data.length / 256)] ++ (data ++ List.replicate (501 - data.length) 0) = Pc.sec ⟨n, true, data⟩ := by unfold Pc.sec; rw [List.append_assoc]; rfl
        rw [hpsec] at hg9
        have hb9' := HB1.out.trans (hb9.mono (Nat.le_of_lt hlt))
        have hnb9 : w9.heap[w.heap.size + 1]? = some (.cells Z 88 (0, 0)) := (hb9.block _ (by omega)).trans HNB.out
        have hsl : (Pc.sec ⟨n, true, data⟩).length = 512 := Pc.sec_length _ hl501
        obtain ⟨T, hT⟩ : ∃ T, T = Pc.sec ⟨n, true, data⟩ := ⟨_, rfl⟩
        rw [← hT] at hg9 hsl
        have hts : (sec T).size = 512 := by rw [sec_size, hsl]
        have hto := sec_one T
        obtain ⟨ST, hST⟩ : ∃ ST, ST = sec T := ⟨_, rfl⟩
        rw [← hST] at hts hto
        have HE := Lib.hid hST
        have HT := Lib.hid hT
        have hg9' : w9.heap[g]? = some (.cells ST 88 (0, 0)) := by rw [hST]; exact hg9
        clear hg9 hs2 hb2 hb4 e1 e2 v1 v2 v3 v4 hge hpsec hT hST hsl HST hb' hb9 HB1 HNB HCN HCL HCD HV HLO
        go_region
        go_wp2_with fail
        go_region
        all_goals go_wp2_with (first
          | (refine wpList_load_row rfl 88 (.tmp 3) rfl g rfl 88 ST (0, 0) _ hg9' Try.underlying88 rfl (by rw [hts]; exact rsec_info) ?_)
          | (refine wpList_store_row rfl 88 (.tmp 2) (.tmp 35) rfl (w.heap.size + 1) ST rfl rfl 88 Z hnb9 (by rw [hts]; exact rsec_info) (by rw [hts]; exact hZs) hto ?_))
        all_goals
          have hfin := setRow_heap w9 (w.heap.size + 1) Z ST _ _ hnb9
          refine bodyPost_ret (v := .agg ST) ?_ rfl ⟨by rw [HE.out, HT.out], below_setRow hb9' (Nat.le_succ _) _⟩
          exact results_cell_row rfl _ _ (w.heap.size + 1) 88 ST (0, 0) _ rfl hfin Try.underlying88 rfl (by rw [hts]; exact rsec_info)
end Go.Proofs.Ytlokehekkllbeaa
