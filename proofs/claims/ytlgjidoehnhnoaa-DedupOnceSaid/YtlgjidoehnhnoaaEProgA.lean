/-
  The program's Check, Place, Find, fits, checkWrite; texts and numbers compared. No statement is proved here. No condition.
-/
import Derived.Test.YtlgjidoehnhnoaaERef
import Derived.Test.YtlgjidoehnhnoaaEDo
import Derived.Lib.Bytealg
namespace Go.Proofs.Ytlgjidoehnhnoaa
open Go.RowKit

set_option maxRecDepth 100000 in
theorem pcheck_any (o : PO) (w : World) (hk : 0 ≤ o.kind ∧ o.kind ≤ 255) :
    Calls Try.prog 13 #[o.agg] w fun e w' => e = .returned (.int .i64 o.err) ∧ Below w.heap.size w w' := by
  obtain ⟨w1, hw1⟩ : ∃ w1, w1 = w.alloc (.cells #[.int .u8 o.kind, .string o.key, .string o.val, .string o.old, .bool o.had] 32) := ⟨_, rfl⟩
  have hb1 : Below w.heap.size w w1 := by rw [hw1]; exact (Below.refl _ _).alloc (Nat.le_refl _) _
  have hx1 : w1.heap[w.heap.size]? = some (.cells #[.int .u8 o.kind, .string o.key, .string o.val, .string o.old, .bool o.had] 32 (0, 0)) := by rw [hw1]; exact heap_alloc_new w _
  have x0 : w1.cell? ⟨w.heap.size, 0, none⟩ = some (.int .u8 o.kind) := (blk_cells hx1).1 0
  have x1 : w1.cell? ⟨w.heap.size, 1, none⟩ = some (.string o.key) := (blk_cells hx1).1 1
  have x2 : w1.cell? ⟨w.heap.size, 2, none⟩ = some (.string o.val) := (blk_cells hx1).1 2
  have x3 : w1.cell? ⟨w.heap.size, 3, none⟩ = some (.string o.old) := (blk_cells hx1).1 3
  have HB1 := Lib.hid hb1
  have HW1 := Lib.hid hw1
  obtain ⟨er, her⟩ : ∃ er, er = o.err := ⟨_, rfl⟩
  rw [← her]
  have HE := Lib.hid her
  obtain ⟨hk0, hk1⟩ := hk
  clear hb1 hw1 hx1 her
  unfold PO.agg
  go_enter Try.func13, Try.ntmps13
  go_upto_region 1 with fail
  rw [← HW1.out]
  by_cases h0 : o.kind < 1
  · go_wp2_with fail
    go_ret
    exact ⟨by rw [HE.out]; unfold PO.err; rw [if_pos (.inl (by omega))]; rfl, HB1.out⟩
  · by_cases h4 : 4 < o.kind
    · go_wp2_with fail
      go_ret
      exact ⟨by rw [HE.out]; unfold PO.err; rw [if_pos (.inr h4)]; rfl, HB1.out⟩
    · by_cases b1 : o.key = ⟨#[]⟩
      · have b1' : o.key.toList.isEmpty = true := by rw [b1, ByteArray.toList_eq]; rfl
        have b2 : o.key.size < 1 := by rw [b1]; decide
        go_wp2_with fail
        go_ret
        exact ⟨by rw [HE.out]; unfold PO.err; rw [if_neg (by omega), if_pos (.inl b2)]; rfl, HB1.out⟩
      · have b1' : o.key.toList.isEmpty = false := by
          cases h : o.key.toList.isEmpty with
          | false => rfl
          | true => exact absurd (toList_inj ((List.isEmpty_iff.1 h).trans (show [] = (ByteArray.mk #[]).toList by rw [ByteArray.toList_eq]))) b1
        have b0 : ¬ o.key.size < 1 := fun h => b1 (by
          have h0 : o.key.data.size = 0 := by have : o.key.data.size < 1 := h; omega
          cases hkk : o.key with
          | mk d =>
            rw [hkk] at h0
            congr 1
            exact Array.eq_empty_of_size_eq_zero h0)
        by_cases b2 : 32 < o.key.size
        · have b2' : (32 : Int) < (o.key.size : Int) := by omega
          go_wp2_with fail
          go_ret
          exact ⟨by rw [HE.out]; unfold PO.err; rw [if_neg (by omega), if_pos (by omega)]; rfl, HB1.out⟩
        · have b2' : ¬ (32 : Int) < (o.key.size : Int) := by omega
          by_cases b3 : 2000 < o.val.size
          · have b3' : (2000 : Int) < (o.val.size : Int) := by omega
            go_wp2_with fail
            go_ret
            exact ⟨by rw [HE.out]; unfold PO.err; rw [if_neg (by omega), if_pos (by omega)]; rfl, HB1.out⟩
          · have b3' : ¬ (2000 : Int) < (o.val.size : Int) := by omega
            by_cases b4 : 2000 < o.old.size
            · have b4' : (2000 : Int) < (o.old.size : Int) := by omega
              go_wp2_with fail
              go_ret
              exact ⟨by rw [HE.out]; unfold PO.err; rw [if_neg (by omega), if_pos (by omega)]; rfl, HB1.out⟩
            · have b4' : ¬ (2000 : Int) < (o.old.size : Int) := by omega
              go_wp2_with fail
              go_ret
              exact ⟨by rw [HE.out]; unfold PO.err; rw [if_neg (by omega), if_neg (by omega)]; rfl, HB1.out⟩

set_option maxRecDepth 100000 in
theorem pfind_any (l : List PP) (k : ByteArray) (v : Value) (w : World) (h : pairR.N w Any v l) :
    Calls Try.prog 15 #[v, .string k] w fun e w' => e = .returned (.tuple #[.string ((findP l k).getD ⟨#[]⟩), .bool (findP l k).isSome]) ∧ Below w.heap.size w w' := by
  obtain ⟨A, c, rfl, hlc, hcm⟩ := h.slice
  have HN := Lib.hid h
  obtain ⟨r, hr⟩ : ∃ r, r = findP l k := ⟨_, rfl⟩
  rw [← hr]
  have HR : Hid (r = findP (l.drop 0) k) := Lib.hid (by rw [hr, List.drop_zero])
  unfold maxLen at hcm
  clear hr h
  go_enter Try.func15, Try.ntmps15
  go_wp2_with fail
  go_loopw [7, 10] (fun _ s10 wr => ∃ i : Nat, s10 = .int .i64 (i : Int) ∧ i ≤ l.length ∧ Hid (r = findP (l.drop i) k) ∧ Hid (Below w.heap.size w wr)) (fun _ s10 _ => l.length - (intOf s10).toNat)
  case atStart => exact ⟨0, rfl, Nat.zero_le _, HR, Lib.hid (Below.refl _ _)⟩
  case round =>
    clear HR
    obtain ⟨i, rfl, hi, hr, hB⟩ := hrel
    obtain ⟨wz, hwz⟩ : ∃ wz : World, wz = wr := ⟨_, rfl⟩
    subst hwz
    by_cases hil : i < l.length
    · have a1 : (i : Int) < (l.length : Int) := by omega
      have a0 : (0 : Int) ≤ (i : Int) := by omega
      obtain ⟨p, hpi⟩ : ∃ p, l[i]? = some p := ⟨_, List.getElem?_eq_getElem hil⟩
      obtain ⟨b, o, n', k', hv, -, hbs, c0, c1⟩ := pair_cell (HN.out.grow hB.out) hpi
      injection hv with e1 e2 e3
      subst e1 e2 e3
      obtain ⟨w2, hw2⟩ : ∃ w2, w2 = wz.alloc (.cells #[.string p.key, .string p.val] 24) := ⟨_, rfl⟩
      have hb2 : Below w.heap.size w w2 := by rw [hw2]; exact hB.out.alloc hB.out.size _
      have hx2 : w2.heap[wz.heap.size]? = some (.cells #[.string p.key, .string p.val] 24 (0, 0)) := by rw [hw2]; exact heap_alloc_new wz _
      have d0 : w2.cell? ⟨wz.heap.size, 0, none⟩ = some (.string p.key) := (blk_cells hx2).1 0
      have d1 : w2.cell? ⟨wz.heap.size, 1, none⟩ = some (.string p.val) := (blk_cells hx2).1 1
      have HW2 := Lib.hid hw2
      have HB2 := Lib.hid hb2
      clear hw2 hx2 hb2
      have hr' := hr.out
      rw [findP_step hpi] at hr'
      go_upto_region 4 with fail
      rw [← HW2.out]
      by_cases hk : p.key = k
      · have hk2 := eqS_yes hk
        rw [if_pos hk] at hr'
        have HR' := Lib.hid hr'
        clear hr' hr
        go_wp2_with fail
        go_ret2
        exact ⟨by rw [HR'.out]; rfl, HB2.out⟩
      · have hk2 := eqS_no hk
        rw [if_neg hk] at hr'
        have HR' := Lib.hid hr'
        clear hr' hr
        go_wp2_with fail
        exact ⟨⟨i + 1, by go_num, hil, HR', HB2⟩, by simp [intOf]; omega⟩
    · have a1 : ¬ (i : Int) < (l.length : Int) := by omega
      have hr' := hr.out
      rw [List.drop_of_length_le (by omega)] at hr'
      have HR' := Lib.hid hr'
      clear hr' hr
      go_wp2_with fail
      go_ret2
      exact ⟨by rw [HR'.out]; rfl, hB.out⟩

set_option maxRecDepth 100000 in
theorem pplace_any (k : ByteArray) (n : Int) (w : World) (hk : k.size ≤ 281474976710656) (hn : n ≤ 9223372036854775807) :
    Calls Try.prog 14 #[.string k, .int .i64 n] w fun e w' => e = .returned (.int .i64 (placeP k n)) ∧ Below w.heap.size w w' := by
  obtain ⟨r, hr⟩ : ∃ r, r = placeP k n := ⟨_, rfl⟩
  rw [← hr]
  have HR := Lib.hid hr
  clear hr
  go_enter Try.func14, Try.ntmps14
  by_cases h1 : n < 1
  · go_wp2_with fail
    go_ret
    exact ⟨by rw [HR.out]; unfold placeP; rw [if_pos h1]; rfl, Below.refl _ _⟩
  · go_wp2_with fail
    go_loopw [5, 6, 11] (fun s5 _ s11 wr => ∃ i : Nat, s5 = .int .u64 (bytesSum (k.data.toList.take i) : Int) ∧ s11 = .int .i64 (i : Int) ∧ i ≤ k.size ∧ wr = w) (fun _ _ s11 _ => k.size - (intOf s11).toNat)
    case atStart => exact ⟨0, rfl, rfl, Nat.zero_le _, rfl⟩
    case round =>
      obtain ⟨i, rfl, rfl, hi, rfl⟩ := hrel
      have hbs := bytesSum_le (k.data.toList.take i)
      have htl : (k.data.toList.take i).length ≤ k.size := Nat.le_trans (List.length_take_le _ _) hi
      by_cases hil : i < k.size
      · have a1 : (i : Int) < (k.size : Int) := by omega
        have a0 : (0 : Int) ≤ (i : Int) := by omega
        have hg : k.data.toList[i]? = some k[i] := by
          rw [Array.getElem?_toList]
          exact Array.getElem?_eq_getElem hil
        have hx : k[i].toNat < 256 := UInt8.toNat_lt _
        have hb2 : bytesSum (k.data.toList.take (i + 1)) = bytesSum (k.data.toList.take i) + k[i].toNat := bytesSum_snoc hg
        go_wp2_with fail
        refine ⟨⟨i + 1, ?_, by go_num, hil, trivial⟩, by simp [intOf]; omega⟩
        congr 1
        rw [hb2]
        first
          | omega
          | (simp; omega)
      · have a1 : ¬ (i : Int) < (k.size : Int) := by omega
        have hall : k.data.toList.take i = k.data.toList := List.take_of_length_le (by rw [Array.length_toList]; exact Nat.le_of_not_lt hil)
        rw [hall] at hbs ⊢
        have hm1 := Int.emod_nonneg (bytesSum k.data.toList : Int) (show n ≠ 0 by omega)
        have hm2 := Int.emod_lt_of_pos (bytesSum k.data.toList : Int) (show 0 < n by omega)
        have hw : wrap64 ((bytesSum k.data.toList : Int) % n) = (bytesSum k.data.toList : Int) % n := by unfold wrap64; omega
        go_wp2_with fail
        go_ret
        exact ⟨by rw [HR.out]; unfold placeP; rw [if_neg (by omega), ← hw]; rfl, Below.refl _ _⟩
end Go.Proofs.Ytlgjidoehnhnoaa
