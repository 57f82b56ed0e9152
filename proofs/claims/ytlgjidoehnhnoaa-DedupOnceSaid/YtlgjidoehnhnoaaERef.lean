/-
  The document's Check, Place, Find (package butteryref09). No statement is proved here. No condition.
-/
import Derived.Test.YtlgjidoehnhnoaaEPlain
namespace Go.Proofs.Ytlgjidoehnhnoaa
open Go.RowKit

theorem pair_cell {w : World} {N : Nat → Prop} {v : Value} {l : List PP} (h : pairR.N w N v l) {i : Nat} {p : PP} (hi : l[i]? = some p) :
    ∃ b o n k, v = .slice (some ⟨b, o, none⟩) n k ∧ N b ∧ b < w.heap.size ∧ w.cell? ⟨b, o + i * 2, none⟩ = some (.string p.key) ∧ w.cell? ⟨b, o + i * 2 + 1, none⟩ = some (.string p.val) := by
  obtain ⟨b, o, n, k, hv, hb, hs, hc⟩ := h.cell hi
  exact ⟨b, o, n, k, hv, hb, hs, hc 0 _ rfl, hc 1 _ rfl⟩
theorem last_cell {w : World} {N : Nat → Prop} {v : Value} {l : List PL} (h : lastR.N w N v l) {i : Nat} {p : PL} (hi : l[i]? = some p) :
    ∃ b o n k, v = .slice (some ⟨b, o, none⟩) n k ∧ N b ∧ b < w.heap.size ∧ w.cell? ⟨b, o + i * 5, none⟩ = some (.int .i64 p.client) ∧ w.cell? ⟨b, o + i * 5 + 1, none⟩ = some (.int .i64 p.id) ∧ w.cell? ⟨b, o + i * 5 + 2, none⟩ = some (.int .u8 p.res.kind) ∧ w.cell? ⟨b, o + i * 5 + 3, none⟩ = some (.bool p.res.found) ∧ w.cell? ⟨b, o + i * 5 + 4, none⟩ = some (.string p.res.val) := by
  obtain ⟨b, o, n, k, hv, hb, hs, hc⟩ := h.cell hi
  exact ⟨b, o, n, k, hv, hb, hs, hc 0 _ rfl, hc 1 _ rfl, hc 2 _ rfl, hc 3 _ rfl, hc 4 _ rfl⟩
theorem eqS_yes {a b : ByteArray} (h : a = b) : (a.toList == b.toList) = true := by rw [h]; exact beq_self_eq_true _
theorem eqS_no {a b : ByteArray} (h : a ≠ b) : (a.toList == b.toList) = false := by
  rw [beq_eq_false_iff_ne]
  exact fun e => h (toList_inj e)
theorem findP_step {l : List PP} {i : Nat} {p : PP} (h : l[i]? = some p) (k : ByteArray) : findP (l.drop i) k = if p.key = k then some p.val else findP (l.drop (i + 1)) k := by
  rw [List.drop_eq_getElem_cons (List.getElem?_eq_some_iff.1 h).1, (List.getElem?_eq_some_iff.1 h).2]
  rfl

set_option maxRecDepth 100000 in
theorem rfind_any (l : List PP) (k : ByteArray) (v : Value) (w : World) (h : pairR.N w Any v l) :
    Calls Try.prog 16 #[v, .string k] w fun e w' => e = .returned (.tuple #[.string ((findP l k).getD ⟨#[]⟩), .bool (findP l k).isSome]) ∧ Below w.heap.size w w' := by
  obtain ⟨A, c, rfl, hlc, hcm⟩ := h.slice
  have HN := Lib.hid h
  obtain ⟨r, hr⟩ : ∃ r, r = findP l k := ⟨_, rfl⟩
  rw [← hr]
  have HR : Hid (r = findP (l.drop 0) k) := Lib.hid (by rw [hr, List.drop_zero])
  unfold maxLen at hcm
  clear hr h
  go_enter Try.func16, Try.ntmps16
  go_wp2_with fail
  go_loopw [6] (fun s6 wr => ∃ i : Nat, s6 = .int .i64 (i : Int) ∧ i ≤ l.length ∧ Hid (r = findP (l.drop i) k) ∧ wr = w) (fun s6 _ => l.length - (intOf s6).toNat)
  case atStart => exact ⟨0, rfl, Nat.zero_le _, HR, rfl⟩
  case round =>
    clear HR
    obtain ⟨i, rfl, hi, hr, rfl⟩ := hrel
    by_cases hil : i < l.length
    · have a1 : (i : Int) < (l.length : Int) := by omega
      have a0 : (0 : Int) ≤ (i : Int) := by omega
      obtain ⟨p, hpi⟩ : ∃ p, l[i]? = some p := ⟨_, List.getElem?_eq_getElem hil⟩
      obtain ⟨b, o, n', k', hv, -, hbs, c0, c1⟩ := pair_cell HN.out hpi
      injection hv with e1 e2 e3
      subst e1 e2 e3
      have hr' := hr.out
      rw [findP_step hpi] at hr'
      by_cases hk : p.key = k
      · have hk2 := eqS_yes hk
        rw [if_pos hk] at hr'
        have HR' := Lib.hid hr'
        clear hr' hr
        go_wp2_with fail
        go_ret2
        exact ⟨by rw [HR'.out]; rfl, Below.refl _ _⟩
      · have hk2 := eqS_no hk
        rw [if_neg hk] at hr'
        have HR' := Lib.hid hr'
        clear hr' hr
        go_wp2_with fail
        exact ⟨⟨i + 1, by go_num, hil, HR', trivial⟩, by simp [intOf]; omega⟩
    · have a1 : ¬ (i : Int) < (l.length : Int) := by omega
      have hr' := hr.out
      rw [List.drop_of_length_le (by omega)] at hr'
      have HR' := Lib.hid hr'
      clear hr' hr
      go_wp2_with fail
      go_ret2
      exact ⟨by rw [HR'.out]; rfl, Below.refl _ _⟩

set_option maxRecDepth 100000 in
theorem rcheck_any (o : PO) (w : World) (hk : 0 ≤ o.kind ∧ o.kind ≤ 255) :
    Calls Try.prog 17 #[o.agg] w fun e w' => e = .returned (.int .i64 o.err) ∧ Below w.heap.size w w' := by
  obtain ⟨w1, hw1⟩ : ∃ w1, w1 = w.alloc (.cells #[.int .u8 o.kind, .string o.key, .string o.val, .string o.old, .bool o.had] 32) := ⟨_, rfl⟩
  have hb1 : Below w.heap.size w w1 := by rw [hw1]; exact (Below.refl _ _).alloc (Nat.le_refl _) _
  have hx1 : w1.heap[w.heap.size]? = some (.cells #[.int .u8 o.kind, .string o.key, .string o.val, .string o.old, .bool o.had] 32 (0, 0)) := by rw [hw1]; exact heap_alloc_new w _
  have x0 : w1.cell? ⟨w.heap.size, 0, none⟩ = some (.int .u8 o.kind) := (blk_cells hx1).1 0
  have x1 : w1.cell? ⟨w.heap.size, 1, none⟩ = some (.string o.key) := (blk_cells hx1).1 1
  have x2 : w1.cell? ⟨w.heap.size, 2, none⟩ = some (.string o.val) := (blk_cells hx1).1 2
  have x3 : w1.cell? ⟨w.heap.size, 3, none⟩ = some (.string o.old) := (blk_cells hx1).1 3
  have HB1 := Lib.hid hb1
  have HW1 := Lib.hid hw1
  obtain ⟨er, her⟩ : ∃ er, er = o.err := ⟨_, rfl⟩
  rw [← her]
  have HE := Lib.hid her
  obtain ⟨hk0, hk1⟩ := hk
  clear hb1 hw1 hx1 her
  unfold PO.agg
  go_enter Try.func17, Try.ntmps17
  go_upto_region 1 with fail
  rw [← HW1.out]
  by_cases h0 : o.kind = 0
  · go_wp2_with fail
    go_ret
    exact ⟨by rw [HE.out]; unfold PO.err; rw [if_pos (.inl h0)]; rfl, HB1.out⟩
  · by_cases h4 : 4 < o.kind
    · go_wp2_with fail
      go_ret
      exact ⟨by rw [HE.out]; unfold PO.err; rw [if_pos (.inr h4)]; rfl, HB1.out⟩
    · by_cases b1 : o.key.size < 1
      · have b1' : (o.key.size : Int) < 1 := by omega
        go_wp2_with fail
        go_ret
        exact ⟨by rw [HE.out]; unfold PO.err; rw [if_neg (by omega), if_pos (by omega)]; rfl, HB1.out⟩
      · have b1' : ¬ (o.key.size : Int) < 1 := by omega
        by_cases b2 : 32 < o.key.size
        · have b2' : (32 : Int) < (o.key.size : Int) := by omega
          go_wp2_with fail
          go_ret
          exact ⟨by rw [HE.out]; unfold PO.err; rw [if_neg (by omega), if_pos (by omega)]; rfl, HB1.out⟩
        · have b2' : ¬ (32 : Int) < (o.key.size : Int) := by omega
          by_cases b3 : 2000 < o.val.size
          · have b3' : (2000 : Int) < (o.val.size : Int) := by omega
            go_wp2_with fail
            go_ret
            exact ⟨by rw [HE.out]; unfold PO.err; rw [if_neg (by omega), if_pos (by omega)]; rfl, HB1.out⟩
          · have b3' : ¬ (2000 : Int) < (o.val.size : Int) := by omega
            by_cases b4 : 2000 < o.old.size
            · have b4' : (2000 : Int) < (o.old.size : Int) := by omega
              go_wp2_with fail
              go_ret
              exact ⟨by rw [HE.out]; unfold PO.err; rw [if_neg (by omega), if_pos (by omega)]; rfl, HB1.out⟩
            · have b4' : ¬ (2000 : Int) < (o.old.size : Int) := by omega
              go_wp2_with fail
              go_ret
              exact ⟨by rw [HE.out]; unfold PO.err; rw [if_neg (by omega), if_neg (by omega)]; rfl, HB1.out⟩

set_option maxRecDepth 100000 in
theorem rplace_any (k : ByteArray) (n : Int) (w : World) (hk : k.size ≤ 281474976710656) (hn : n ≤ 9223372036854775807) :
    Calls Try.prog 18 #[.string k, .int .i64 n] w fun e w' => e = .returned (.int .i64 (placeP k n)) ∧ Below w.heap.size w w' := by
  obtain ⟨r, hr⟩ : ∃ r, r = placeP k n := ⟨_, rfl⟩
  rw [← hr]
  have HR := Lib.hid hr
  clear hr
  go_enter Try.func18, Try.ntmps18
  by_cases h1 : n < 1
  · go_wp2_with fail
    go_ret
    exact ⟨by rw [HR.out]; unfold placeP; rw [if_pos h1]; rfl, Below.refl _ _⟩
  · go_wp2_with fail
    go_loopw [5, 6] (fun s5 s6 wr => ∃ i : Nat, s5 = .int .i64 (bytesSum (k.data.toList.take i) : Int) ∧ s6 = .int .i64 (i : Int) ∧ i ≤ k.size ∧ wr = w) (fun _ s6 _ => k.size - (intOf s6).toNat)
    case atStart => exact ⟨0, rfl, rfl, Nat.zero_le _, rfl⟩
    case round =>
      obtain ⟨i, rfl, rfl, hi, rfl⟩ := hrel
      have hbs := bytesSum_le (k.data.toList.take i)
      have htl : (k.data.toList.take i).length ≤ k.size := Nat.le_trans (List.length_take_le _ _) hi
      by_cases hil : i < k.size
      · have a1 : (i : Int) < (k.size : Int) := by omega
        have a0 : (0 : Int) ≤ (i : Int) := by omega
        have hg : k.data.toList[i]? = some k[i] := by
          rw [Array.getElem?_toList]
          exact Array.getElem?_eq_getElem hil
        have hx : k[i].toNat < 256 := UInt8.toNat_lt _
        have hb2 : bytesSum (k.data.toList.take (i + 1)) = bytesSum (k.data.toList.take i) + k[i].toNat := bytesSum_snoc hg
        go_wp2_with fail
        refine ⟨⟨i + 1, ?_, by go_num, hil, trivial⟩, by simp [intOf]; omega⟩
        congr 1
        rw [hb2]
        first
          | omega
          | (unfold wrap64; omega)
      · have a1 : ¬ (i : Int) < (k.size : Int) := by omega
        have hall : k.data.toList.take i = k.data.toList := List.take_of_length_le (by rw [Array.length_toList]; exact Nat.le_of_not_lt hil)
        rw [hall]
        go_wp2_with fail
        go_ret
        exact ⟨by rw [HR.out]; unfold placeP; rw [if_neg (by omega)]; rfl, Below.refl _ _⟩
end Go.Proofs.Ytlgjidoehnhnoaa
