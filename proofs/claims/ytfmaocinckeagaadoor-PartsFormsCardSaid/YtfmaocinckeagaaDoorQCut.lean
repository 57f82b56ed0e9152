/-
  The program's Cut: a message's packets, each in new memory. No statement is proved here. Condition: the table reads as the program lays it.
-/
import Derived.Test.YtfmaocinckeagaaDoorQRow
namespace Go.Proofs.YtfmaocinckeagaaDoor
open Go.RowKit

/-- cut as far as k parts -/
def cutTo (n : Nat) (l : List UInt8) (k : Nat) : List (List UInt8) := (List.range (many l)).map (fun i => if i < k then pkt n i (many l) (piece l i) else [])
theorem cutTo_zero (n : Nat) (l : List UInt8) : cutTo n l 0 = List.replicate (many l) [] := by
  unfold cutTo
  apply List.ext_getElem?
  intro i
  simp only [List.getElem?_map, List.getElem?_replicate, Nat.not_lt_zero, if_false]
  by_cases h : i < many l <;> simp [h]
theorem cutTo_succ {n : Nat} {l : List UInt8} {k : Nat} (hk : k < many l) : cutTo n l (k + 1) = (cutTo n l k).set k (pkt n k (many l) (piece l k)) := by
  unfold cutTo
  apply List.ext_getElem?
  intro i
  rw [List.getElem?_set]
  simp only [List.getElem?_map, List.length_map, List.length_range]
  by_cases h : i < many l
  · rw [List.getElem?_range h]
    by_cases hik : k = i
    · subst hik
      simp [h]
    · rw [if_neg hik]
      simp only [Option.map_some]
      congr 1
      by_cases h2 : i < k
      · rw [if_pos h2, if_pos (by omega)]
      · rw [if_neg h2, if_neg (by omega)]
  · rw [List.getElem?_eq_none (by simp; omega)]
    rw [if_neg (by omega)]
    rfl
theorem cutTo_length (n : Nat) (l : List UInt8) (k : Nat) : (cutTo n l k).length = many l := by simp [cutTo]
theorem cutTo_all {n : Int} {l : List UInt8} (h : cutErr n l = 0) : cutTo n.toNat l (many l) = cutP n l := by
  unfold cutTo cutP
  rw [if_pos h]
  apply List.map_congr_left
  intro i hi
  rw [if_pos (List.mem_range.1 hi)]
theorem elem_bytes' : Tryd.prog.underlying 27 = some (.slice (Tryd.prog.elem 27)) := elem_bytes
/-- a slice's cut, whatever it lies in -/
theorem slice_lh {w : World} {B c : Nat} {A : Option Addr} {l : List UInt8} (h : Rd w B (.slice A l.length c) l) {k m : Nat} (hkm : k ≤ m) (hm : m ≤ l.length) :
    ∃ A' : Option Addr, (∀ W, (Instr.slice 27 (.slice A l.length c) (some (.int .i64 (k : Int))) (some (.int .i64 (m : Int))) none).run Tryd.prog W = .ok (.slice A' (m - k) (c - k)) W) ∧ Rd w B (.slice A' (m - k) (c - k)) ((l.drop k).take (m - k)) := by
  have hlc : l.length ≤ c := by
    obtain ⟨A0, c', he, h1, -⟩ := h
    injection he with _ _ e
    rw [e]
    exact h1
  have h2 := Rd.cutAny h (k := k) (by omega) (if c = k then A else A.map (·.add k)) (by split <;> rename_i hc <;> first | exact .inr ⟨hc, rfl⟩ | exact .inl rfl)
  rw [show l.length - k = (l.drop k).length by rw [List.length_drop]] at h2
  refine ⟨_, fun W => ?_, h2.takeAny (n := m - k) (by rw [List.length_drop]; omega)⟩
  rw [run_slice_lh _ _ _ _ _ elem_bytes .i64 .i64 (k : Int) (m : Int) (by omega) (by omega) (by omega), size_bytes]
  simp only [Result.andThen, sliced, Int.toNat_natCast, Nat.mul_one]
/-- what both Cuts come to -/
def CutPost (w : World) (E : Int) (CP : List (List UInt8)) (e : Ending) (w' : World) : Prop := ∃ v' ss, e = .returned (.tuple #[v', .int .i64 E]) ∧ Cuts w' w.heap.size v' CP ss ∧ Below w.heap.size w w'
theorem CutPost.no {w w' : World} {E E0 : Int} {CP : List (List UInt8)} {e : Ending} (hE : Hid (E = E0)) (hC : Hid (CP = [])) (he : e = .returned (.tuple #[.slice none 0 0, .int .i64 E0])) (hb : Below w.heap.size w w') : CutPost w E CP e w' := ⟨_, [], by rw [hE.out]; exact he, by rw [hC.out]; exact Cuts.nil _ _, hb⟩
set_option maxHeartbeats 8000000 in
set_option maxRecDepth 100000 in
theorem cut_any (n : Int) (l : List UInt8) (v : Value) (w : World) (ht : Tab w) (hv : Rd w w.heap.size v l) (hl : l.length ≤ 140737488355328) :
    Calls Tryd.prog 11 #[.int .i64 n, v] w (CutPost w (cutErr n l) (cutP n l)) := by
  have HV := Lib.hid hv
  obtain ⟨A, c, rfl, -⟩ := hv
  obtain ⟨E, hE⟩ : ∃ E, E = cutErr n l := ⟨_, rfl⟩
  obtain ⟨CP, hCP⟩ : ∃ CP, CP = cutP n l := ⟨_, rfl⟩
  rw [← hE, ← hCP]
  by_cases h1 : n < 0 ∨ 2147483647 < n
  · have he : E = 1 := by rw [hE]; unfold cutErr; rw [if_pos h1]
    have hc : CP = [] := by rw [hCP]; unfold cutP; rw [← hE, he, if_neg (by decide)]
    have HE := Lib.hid he
    have HC := Lib.hid hc
    clear hE hCP he hc
    by_cases h2 : n < 0
    · clear h1
      go_enter Tryd.func11, Tryd.ntmps11
      go_wp2_with fail
      go_ret2
      exact CutPost.no HE HC rfl (Below.refl _ _)
    · have h3 : 2147483647 < n := by omega
      clear h1
      go_enter Tryd.func11, Tryd.ntmps11
      go_wp2_with fail
      go_ret2
      exact CutPost.no HE HC rfl (Below.refl _ _)
  · have h2 : ¬ n < 0 := by omega
    have h3 : ¬ 2147483647 < n := by omega
    by_cases h4 : 8192 < l.length
    · have he : E = 40 := by rw [hE]; unfold cutErr; rw [if_neg h1, if_pos h4]
      have hc : CP = [] := by rw [hCP]; unfold cutP; rw [← hE, he, if_neg (by decide)]
      have HE := Lib.hid he
      have HC := Lib.hid hc
      have h5 : (8192 : Int) < (l.length : Int) := by omega
      clear hE hCP he hc h1 h4
      go_enter Tryd.func11, Tryd.ntmps11
      go_wp2_with fail
      go_ret2
      exact CutPost.no HE HC rfl (Below.refl _ _)
    · have he : E = 0 := by rw [hE]; unfold cutErr; rw [if_neg h1, if_neg h4]
      have hc : CP = cutTo n.toNat l (many l) := by rw [hCP]; exact (cutTo_all (hE.symm.trans he)).symm
      obtain ⟨M, hM⟩ : ∃ M, M = many l := ⟨_, rfl⟩
      have hM1 : 1 ≤ M := by rw [hM]; exact many_pos l
      have hM2 : M ≤ 22 := by rw [hM]; exact many_small (by omega)
      have hM3 : ∀ i : Nat, i < M → 380 * i ≤ l.length := fun i hi => by rw [hM] at hi; unfold many at hi; omega
      obtain ⟨w1, hmk, hC1, hb1⟩ := Cuts.made w M (by omega)
      rw [hM, ← cutTo_zero n.toNat l, ← hM] at hC1
      have h5 : ¬ (8192 : Int) < (l.length : Int) := by omega
      have hq : (if 1 < ((l.length : Int) + 380 - 1) / 380 then ((l.length : Int) + 380 - 1) / 380 else 1) = (M : Int) := by rw [hM]; unfold many; split <;> omega
      have HE := Lib.hid he
      have HC := Lib.hid hc
      have HC1 := Lib.hid hC1
      have HB1 := Lib.hid hb1
      have HM := Lib.hid hM
      clear hE hCP he hc h1 h4 hC1 hb1 hM
      go_enter Tryd.func11, Tryd.ntmps11
      go_upto_region 6 with fail
      obtain ⟨k0, hk0⟩ := Int.eq_ofNat_of_zero_le (show 0 ≤ n by omega)
      subst hk0
      have hk1 : k0 ≤ 2147483647 := by omega
      rw [Int.toNat_natCast] at HC HC1
      go_upto_region 7 with fail
      clear hmk hq h2 h3 h5
      obtain ⟨v1, hv1⟩ : ∃ v1, v1 = Value.slice (some ⟨w.heap.size, 0, none⟩) M M := ⟨_, rfl⟩
      have HCC : Hid (∃ ss, Cuts w1 w.heap.size (.slice (some ⟨w.heap.size, 0, none⟩) M M) (cutTo k0 l 0) ss) := Lib.hid ⟨_, HC1.out⟩
      clear HC1 hv1
      have HT := Lib.hid ht
      clear ht
      go_wp2_with fail
      go_loopw [8, 9, 30] (fun _ _ s30 wr => ∃ i : Nat, s30 = .int .i64 (i : Int) ∧ i ≤ M ∧ Hid (∃ ss, Cuts wr w.heap.size (.slice (some ⟨w.heap.size, 0, none⟩) M M) (cutTo k0 l i) ss) ∧ Hid (Below w.heap.size w wr)) (fun _ _ s30 _ => M - (intOf s30).toNat)
      case atStart => exact ⟨0, rfl, Nat.zero_le _, HCC, HB1⟩
      case round =>
        clear HCC HB1
        obtain ⟨i, rfl, hi, hC, hB⟩ := hrel
        obtain ⟨wz, hwz⟩ : ∃ wz : World, wz = wr := ⟨_, rfl⟩
        subst hwz
        by_cases hiM : i < M
        · have a1 : (i : Int) < (M : Int) := by omega
          have hi3 := hM3 i hiM
          obtain ⟨m, hm⟩ : ∃ m, m = min (380 * (i + 1)) l.length := ⟨_, rfl⟩
          have hmin : (if (l.length : Int) < ((i : Int) + 1) * 380 then (l.length : Int) else ((i : Int) + 1) * 380) = (m : Int) := by rw [hm]; split <;> omega
          obtain ⟨A', hsl, hrd⟩ := slice_lh (HV.out.below hB.out hB.out.size) (k := 380 * i) (m := m) (by omega) (by omega)
          have hpc : (l.drop (380 * i)).take (m - 380 * i) = piece l i := by
            unfold piece
            rw [hm]
            by_cases h : 380 * (i + 1) ≤ l.length
            · rw [Nat.min_eq_left h, show 380 * (i + 1) - 380 * i = 380 by omega]
            · rw [Nat.min_eq_right (by omega), List.take_of_length_le (by rw [List.length_drop]; omega), List.take_of_length_le (by rw [List.length_drop]; omega)]
          rw [hpc] at hrd
          have e1 : (i : Int) * 380 = ((380 * i : Nat) : Int) := by omega
          rw [← e1] at hsl
          have hsl2 : ∀ W, (Instr.sliceAt 27 (.slice A l.length c) (some (.int .i64 ((i : Int) * 380))) (some (.int .i64 (m : Int))) none).run Tryd.prog W = .ok (.slice A' (m - 380 * i) (c - 380 * i)) W := fun W => (run_sliceAt_slice _ _ _ _ _ _ elem_bytes).trans (hsl W)
          have hcv : (convert 27 9 (.slice A' (m - 380 * i) (c - 380 * i))).run Tryd.prog wz = .ok (.string (tx (piece l i))) wz := conv_str hrd
          have cP := packet_any k0 i M (piece l i) wz (HT.out.below hB.out HT.out.1) hk1 (by omega) (by omega) (piece_length l i)
          unfold partV at cP
          have HPC := Lib.hid hm
          clear hrd hpc e1 hm hi3
          go_wp2_with fail
          refine cP.mono ?_
          rintro e w2 ⟨v2, k, rfl, ho, hb⟩
          clear cP hsl hsl2 hcv
          obtain ⟨ss, hCs⟩ := hC.out
          obtain ⟨s, rfl⟩ := Sl.of ho
          obtain ⟨g, cap, hvg, hgB, hcap, ⟨x, hx⟩, hfz, hset, hbel⟩ := hCs.set hb hB.out.size ho (Nat.le_refl _) (i := i) (by rw [cutTo_length, ← HM.out]; exact hiM)
          injection hvg with g1 g2 g3
          injection g1 with g1
          injection g1 with g1
          subst g1
          rw [HM.out, ← cutTo_succ (by rw [← HM.out]; exact hiM)] at hset
          have HS := Lib.hid (show ∃ ss, Cuts (w2.setCell ⟨w.heap.size, i, none⟩ (.slice s.a s.n s.c)) w.heap.size (.slice (some ⟨w.heap.size, 0, none⟩) M M) (cutTo k0 l (i + 1)) ss from ⟨_, by rw [← HM.out] at hset; exact hset⟩)
          have HB2 := Lib.hid (hB.out.trans hbel)
          have b0 : (0 : Int) ≤ (i : Int) := by omega
          clear hset hbel hCs ho hb g2 g3 hcap hgB
          unfold Sl.v
          go_wp2_with fail
          exact ⟨⟨i + 1, by go_num, hiM, HS, HB2⟩, by simp [intOf]; omega⟩
        · have a1 : ¬ (i : Int) < (M : Int) := by omega
          have hie : i = M := by omega
          obtain ⟨ss, hCs⟩ := hC.out
          rw [hie, HM.out, ← HC.out, ← HM.out] at hCs
          have HS := Lib.hid hCs
          clear hCs hM3
          go_wp2_with fail
          go_ret2
          exact ⟨_, ss, by rw [HE.out]; rfl, HS.out, hB.out⟩
end Go.Proofs.YtfmaocinckeagaaDoor
