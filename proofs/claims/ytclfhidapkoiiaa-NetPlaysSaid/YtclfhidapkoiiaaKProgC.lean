/-
  The program's net: Take. No statement is proved here. No condition.
-/
import Derived.Test.YtclfhidapkoiiaaKProgB
namespace Go.Proofs.Ytclfhidapkoiiaa
open Go.RowKit

/-- a place of a row closed by what stands behind it: the block's cells ahead, behind the copy, and behind the last one's clearing -/
theorem close_cells {L : List PK} {j : Nat} (hj : j < L.length) (rest : List Value) : ∃ old last, pkR.row L ++ rest = pkR.row (L.take j) ++ old ++ (pkR.vals last ++ rest) ∧ old.length = (L.length - (j + 1)) * 3 ∧
    pkR.row (L.take j) ++ pkR.row (L.drop (j + 1)) ++ (pkR.vals last ++ rest) = pkR.row (L.eraseIdx j) ++ pkR.vals last ++ rest ∧ (pkR.row (L.eraseIdx j)).length = (L.length - 1) * 3 ∧ (L.eraseIdx j).length = L.length - 1 := by
  have hne : L.drop j ≠ [] := fun e => by have := congrArg List.length e; rw [List.length_drop] at this; simp at this; omega
  refine ⟨pkR.row (L.drop j).dropLast, (L.drop j).getLast hne, ?_, ?_, ?_, ?_, List.length_eraseIdx_of_lt hj⟩
  · conv => lhs; rw [pkR.row_take_drop L j, ← List.dropLast_concat_getLast hne, pkR.row_append]
    rw [Rec.row_cons, Rec.row_nil]
    simp
  · rw [pkR.row_length, List.length_dropLast, List.length_drop]
    show (L.length - j - 1) * 3 = _
    rw [Nat.sub_sub]
  · rw [erase_halves L hj, pkR.row_append]
    simp
  · rw [pkR.row_length, List.length_eraseIdx_of_lt hj]
    rfl
theorem take_nums {nl j m cap : Nat} (h1 : nl = m + 1) (h2 : j < nl) (h3 : nl ≤ cap) (h4 : nl ≤ 1000) : ¬ (nl : Int) ≤ (j : Int) ∧ (j : Int) < (nl : Int) ∧ ¬ (j : Int) < 0 ∧ wrap64 ((j : Int) + 1) = (j : Int) + 1 ∧ IntKind.i64.wrap ((j : Int) + 1) = (j : Int) + 1 ∧
    (wrap64 ((nl : Int) - 1) = (m : Int) ∧ IntKind.i64.wrap ((nl : Int) - 1) = (m : Int)) ∧
    ((m : Int) < (nl : Int) ∧ ¬ (nl : Int) ≤ (m : Int) ∧ (m : Int) ≤ (cap : Int) ∧ (j : Int) ≤ (nl : Int) ∧ (j : Int) + 1 ≤ (nl : Int) ∧ (0 : Int) ≤ (j : Int) + 1 ∧ ((j : Int) + 1).toNat = j + 1) ∧ ¬ (cap = j) := by
  refine ⟨by omega, by omega, by omega, (wrap_one (by omega)).1, (wrap_one (by omega)).2, ⟨?_, ?_⟩, ⟨by omega, by omega, by omega, by omega, by omega, by omega, by omega⟩, by omega⟩
  · unfold wrap64; omega
  · rw [IntKind.wrap_i64]; omega
set_option maxHeartbeats 4000000 in
set_option maxRecDepth 100000 in
theorem ptake_any (n : NT) (i : Int) (k B p : Nat) (v : Value) (w : World) (h : PNetM w B p 54 36 v n) (hn : n.ok k) (hB : B ≤ w.heap.size) :
    Calls Try.prog 8 #[.pointer (some ⟨p, 0, none⟩), .int .i64 i] w fun e w' => e = .returned (.tuple #[((n.take i).2.getD zK).agg, .bool (n.take i).2.isSome]) ∧ ∃ v', PNetM w' B p 54 36 v' (n.take i).1 ∧ Below B w w' ∧ Moved p v w w' ∧ (∀ g, v'.ownBlock = some g → v.ownBlock = some g ∨ w.heap.size ≤ g) := by
  have hz := zero_pk
  obtain ⟨w1, hw1⟩ : ∃ w1, w1 = w.alloc (.cells #[.int .i64 0, .int .i64 0, .string ⟨#[]⟩] 36) := ⟨_, rfl⟩
  have hb1 : Below w.heap.size w w1 := by rw [hw1]; exact (Below.refl _ _).alloc (Nat.le_refl _) _
  have hx1 : w1.heap[w.heap.size]? = some (.cells #[.int .i64 0, .int .i64 0, .string ⟨#[]⟩] 36 (0, 0)) := by rw [hw1]; exact heap_alloc_new w _
  have hs1 : w1.heap.size = w.heap.size + 1 := by rw [hw1]; simp
  have h1 := h.grow hb1
  have cH := phas_any n i B p v w1 h1
  have hlen : n.row.length ≤ 1000 := Nat.le_trans hn.row hn.most
  obtain ⟨S, hS⟩ : ∃ S, S = n.take i := ⟨_, rfl⟩
  rw [← hS]
  have HB1 := Lib.hid hb1
  have HW1 := Lib.hid hw1
  have HX1 := Lib.hid hx1
  cases ha : n.at? i with
  | none =>
    have he : S = (n, none) := by rw [hS]; unfold NT.take; rw [ha]
    have HE := Lib.hid he
    rw [ha] at cH
    obtain ⟨r0, r1, r2, r3, r4, r5⟩ : w1.cell? ⟨w.heap.size, 0, none⟩ = some (.int .i64 0) ∧ w1.cell? ⟨w.heap.size, 1, none⟩ = some (.int .i64 0) ∧ w1.cell? ⟨w.heap.size, 2, none⟩ = some (.string ⟨#[]⟩) ∧ w1.frozen? ⟨w.heap.size, 0, none⟩ = false ∧ w1.frozen? ⟨w.heap.size, 1, none⟩ = false ∧ w1.frozen? ⟨w.heap.size, 2, none⟩ = false := ⟨(blk_cells hx1).1 0, (blk_cells hx1).1 1, (blk_cells hx1).1 2, (blk_cells hx1).2 0, (blk_cells hx1).2 1, (blk_cells hx1).2 2⟩
    obtain ⟨wf, hwf⟩ : ∃ wf, wf = ((w1.setCell ⟨w.heap.size, 0, none⟩ (.int .i64 0)).setCell ⟨w.heap.size, 1, none⟩ (.int .i64 0)).setCell ⟨w.heap.size, 2, none⟩ (.string ⟨#[]⟩) := ⟨_, rfl⟩
    have hxf : wf.heap[w.heap.size]? = some (.cells #[.int .i64 0, .int .i64 0, .string ⟨#[]⟩] 36 (0, 0)) := by rw [hwf]; exact set3k_at hx1
    obtain ⟨g0, g1, g2⟩ : wf.cell? ⟨w.heap.size, 0, none⟩ = some (.int .i64 0) ∧ wf.cell? ⟨w.heap.size, 1, none⟩ = some (.int .i64 0) ∧ wf.cell? ⟨w.heap.size, 2, none⟩ = some (.string ⟨#[]⟩) := ⟨(blk_cells hxf).1 0, (blk_cells hxf).1 1, (blk_cells hxf).1 2⟩
    have hbf : Below w.heap.size w wf := by rw [hwf]; exact ((hb1.setCell (p := ⟨w.heap.size, 0, none⟩) (Nat.le_refl _) _).setCell (p := ⟨w.heap.size, 1, none⟩) (Nat.le_refl _) _).setCell (p := ⟨w.heap.size, 2, none⟩) (Nat.le_refl _) _
    have HF := Lib.hid (h.grow hbf)
    have HBF := Lib.hid hbf
    have HWF := Lib.hid hwf
    clear h hn hS he ha h1 hb1 hx1 hw1 hs1 hwf hxf hbf
    go_enter Try.func8, Try.ntmps8
    go_upto_region 1 with fail
    rw [← HW1.out]
    go_wp2_with fail
    refine cH.mono ?_
    rintro e w2 ⟨rfl, rfl⟩
    clear cH
    go_wp2_with fail
    rw [← HWF.out]
    refine bodyPost_ret (v := .tuple #[zK.agg, .bool false]) (by clear r0 r1 r2 r3 r4 r5; unfold PK.agg zK; rw [results_ct rfl]; go_simp; try rfl) rfl ?_
    rw [HE.out]
    exact ⟨rfl, _, HF.out, Joins.below_le HBF.out hB, Moved.below HBF.out, fun _ h => .inl h⟩
  | some x =>
    obtain ⟨h0, hjl, hjx⟩ := NT.at_lt ha
    obtain ⟨j, hj⟩ : ∃ j : Nat, i = (j : Int) := ⟨i.toNat, by omega⟩
    subst hj
    rw [Int.toNat_natCast] at hjl hjx
    have he : S = ({ n with row := n.row.eraseIdx j }, some x) := by rw [hS]; unfold NT.take; rw [ha]; rfl
    rw [ha] at cH
    have hap := h.apart types_P
    have hpl := h.lt
    rcases own_opened h.row with ⟨-, hnil⟩ | ⟨g, cap, rest, rfl, hBg, hg, hcap, hcm, hrest⟩
    · rw [hnil] at hjl; exact absurd hjl (Nat.not_lt_zero _)
    obtain ⟨old, last, k1, k2, k3, k4, k5⟩ := close_cells hjl rest
    have hgl : g < w.heap.size := (Array.getElem?_eq_some_iff.1 hg).1
    have hgp : g ≠ p := fun e => hap (by rw [← e]; rfl)
    obtain ⟨m, hm⟩ : ∃ m, m = n.row.length - 1 := ⟨_, rfl⟩
    have hm1 : n.row.length = m + 1 := by omega
    rw [← hm] at k4 k5
    -- the packet that goes
    obtain ⟨b, o, n', k', hv, -, -, d0, d1, d2⟩ := pk_cell h1.row.n hjx
    injection hv with e1 e3 e4
    injection e1 with e1
    injection e1 with e1 e2 _
    subst e1 e2 e4
    clear e3
    rw [Nat.zero_add] at d0 d1 d2
    obtain ⟨w2, hw2⟩ : ∃ w2, w2 = w1.alloc (.cells #[.int .i64 x.frm, .int .i64 x.dst, .string x.data] 36) := ⟨_, rfl⟩
    have hb2 : Below w1.heap.size w1 w2 := by rw [hw2]; exact (Below.refl _ _).alloc (Nat.le_refl _) _
    have hx2 : w2.heap[w1.heap.size]? = some (.cells #[.int .i64 x.frm, .int .i64 x.dst, .string x.data] 36 (0, 0)) := by rw [hw2]; exact heap_alloc_new w1 _
    have hbw2 : Below w.heap.size w w2 := hb1.trans (Joins.below_le hb2 hb1.size)
    have h2 := h.grow hbw2
    have hg2 : w2.heap[g]? = some (.cells (pkR.row (n.row.take j) ++ old ++ (pkR.vals last ++ rest)).toArray 36 (0, 0)) := by rw [← k1]; exact (hbw2.block _ hgl).trans hg
    -- the copy
    obtain ⟨iu, hiu, y0, y1, y2⟩ := info_parts info_PK
    have hsz : (Try.prog.info? 36).map (·.size) = some 3 := by rw [hiu]; exact congrArg some y1
    obtain ⟨C3, hC3⟩ : ∃ C3, C3 = (pkR.row (n.row.take j) ++ pkR.row (n.row.drop (j + 1)) ++ (pkR.vals last ++ rest)).toArray := ⟨_, rfl⟩
    have hpre : (pkR.row (n.row.take j)).length = j * 3 := by rw [pkR.row_length, List.length_take, Nat.min_eq_left (by omega)]; rfl
    have hcsl : (pkR.row (n.row.drop (j + 1))).length = (n.row.length - (j + 1)) * 3 := by rw [pkR.row_length, List.length_drop]; rfl
    have hrun : ∀ ty dc a sc, (∀ t u, (pkR.row (n.row.drop (j + 1)))[t]? = some u → w2.drew.cell? (a.add t) = some u) → (Builtin.copy_ #[43, 43] ty #[.slice (some ⟨g, j * 3, none⟩) (n.row.length - j) dc, .slice (some a) (n.row.length - (j + 1)) sc]).run Try.prog w2.drew = .ok (goInt (Nat.min (n.row.length - (j + 1)) (n.row.length - j))) (w2.drew.setRow g C3) := fun ty dc a sc hsrc => by
      rw [hC3]
      exact run_copyK 43 43 ty 36 Try.underlying43 hsz (w := w2.drew) hg2 hpre (by rw [k2, hcsl]) (by rw [hcsl, show Nat.min (n.row.length - (j + 1)) (n.row.length - j) = n.row.length - (j + 1) from Nat.min_eq_left (by omega)]) hsrc (pkR.row_one _)
    have hsrc1 : ∀ t u, (pkR.row (n.row.drop (j + 1)))[t]? = some u → w2.drew.cell? ((⟨g, (j + 1) * 3, none⟩ : Addr).add t) = some u := fun t u hu => by
      have eg : w2.drew.heap[g]? = some (.cells (pkR.row n.row ++ rest).toArray 36 (0, 0)) := (hbw2.block _ hgl).trans hg
      have hlt : (pkR.row (n.row.take (j + 1))).length = (j + 1) * 3 := by rw [pkR.row_length, List.length_take, Nat.min_eq_left (by omega)]; rfl
      rw [plus_zero, (blk_cells eg).1, List.getElem?_toArray, pkR.row_take_drop n.row (j + 1), List.append_assoc, List.getElem?_append_right (by rw [hlt]; exact Nat.le_add_right _ _), hlt, Nat.add_sub_cancel_left, List.getElem?_append_left (List.getElem?_eq_some_iff.1 hu).1]
      exact hu
    have hcp : ∀ ty dc sc, (Builtin.copy_ #[43, 43] ty #[.slice (some ⟨g, j * 3, none⟩) (n.row.length - j) dc, .slice (if cap = j + 1 then some ⟨g, 0, none⟩ else some ⟨g, (j + 1) * 3, none⟩) (n.row.length - (j + 1)) sc]).run Try.prog w2.drew = .ok (goInt (Nat.min (n.row.length - (j + 1)) (n.row.length - j))) (w2.drew.setRow g C3) := fun ty dc sc => by
      by_cases hc1 : cap = j + 1
      · rw [if_pos hc1]
        exact hrun ty dc _ sc fun t u hu => by
          rw [List.drop_of_length_le (show n.row.length ≤ j + 1 by omega)] at hu
          simp [Rec.row] at hu
      · rw [if_neg hc1]
        exact hrun ty dc _ sc hsrc1
    obtain ⟨w3, hw3⟩ : ∃ w3, w3 = w2.drew.setRow g C3 := ⟨_, rfl⟩
    rw [← hw3] at hcp
    have hg3 : w3.heap[g]? = some (.cells (pkR.row (n.row.eraseIdx j) ++ pkR.vals last ++ rest).toArray 36 (0, 0)) := by
      rw [hw3, ← k3, hC3]
      exact setRow_heap w2.drew g _ _ _ _ hg2
    have hf3 : ∀ b, b ≠ g → w3.heap[b]? = w2.heap[b]? := fun b hb => by rw [hw3]; exact setRow_other w2.drew g _ _ hb
    have hb3 : Below B w w3 := by rw [hw3]; exact below_setRow (Joins.below_le hbw2.drew hB) hBg _
    -- the last one cleared
    obtain ⟨w4, hw4⟩ : ∃ w4, w4 = ((w3.setCell ⟨g, m * 3, none⟩ (.int .i64 0)).setCell ⟨g, m * 3 + 1, none⟩ (.int .i64 0)).setCell ⟨g, m * 3 + 2, none⟩ (.string ⟨#[]⟩) := ⟨_, rfl⟩
    have e4 : w4 = w3.setRow g (pkR.row (n.row.eraseIdx j) ++ pkR.vals zK ++ rest).toArray := by
      rw [hw4]
      exact setCells_setRow (vs := pkR.vals zK) hg3 k4 (by rw [pkR.len, pkR.len]) (pkR.one zK)
    have hg4 : w4.heap[g]? = some (.cells (pkR.row (n.row.eraseIdx j) ++ (pkR.vals zK ++ rest)).toArray 36 (0, 0)) := by
      rw [e4, ← List.append_assoc]
      exact setRow_heap w3 g _ _ _ _ hg3
    have hf4 : ∀ b, b ≠ g → w4.heap[b]? = w2.heap[b]? := fun b hb => by rw [e4]; exact (setRow_other w3 g _ _ hb).trans (hf3 b hb)
    have hb4 : Below B w w4 := by rw [e4]; exact below_setRow hb3 hBg _
    have ho4 : pkR.Own w4 B 36 (.slice (some ⟨g, 0, none⟩) m cap) (n.row.eraseIdx j) := by
      have := Rec.own_closed (R := pkR) (B := B) (l := n.row.eraseIdx j) (cap := cap) hBg hg4 (by omega) hcm (by
        have q1 : pkR.size = 3 := rfl
        rw [List.length_append, pkR.len]
        rw [q1] at hrest ⊢
        omega)
      rw [k5] at this
      exact this
    have hn4 := (hf4 p (Ne.symm hgp)).trans h2.net
    -- the net itself
    obtain ⟨w5, hw5⟩ : ∃ w5, w5 = w4.setCell ⟨p, 1, none⟩ (.slice (some ⟨g, 0, none⟩) m cap) := ⟨_, rfl⟩
    have hf5 : ∀ b, b ≠ p → w5.heap[b]? = w4.heap[b]? := fun b hb => by rw [hw5]; exact heap_setCell_far _ _ _ _ hb
    have hnet5 : PNetM w5 B p 54 36 (.slice (some ⟨g, 0, none⟩) m cap) { n with row := n.row.eraseIdx j } := ⟨by rw [hw5]; exact setR_at hn4, h.base, own_far ho4 fun b hb => hf5 b (by
      have : g = b := Option.some.inj hb
      omega)⟩
    have hb5 : Below B w w5 := by rw [hw5]; exact hb4.setCell (p := ⟨p, 1, none⟩) h.base _
    have hx5 : w5.heap[w1.heap.size]? = some (.cells #[.int .i64 x.frm, .int .i64 x.dst, .string x.data] 36 (0, 0)) := (hf5 _ (by omega)).trans ((hf4 _ (by omega)).trans hx2)
    have hx50 : w5.heap[w.heap.size]? = some (.cells #[.int .i64 0, .int .i64 0, .string ⟨#[]⟩] 36 (0, 0)) := (hf5 _ (by omega)).trans ((hf4 _ (by omega)).trans ((hb2.block _ (by omega)).trans hx1))
    obtain ⟨wf, hwf⟩ : ∃ wf, wf = ((w5.setCell ⟨w.heap.size, 0, none⟩ (.int .i64 x.frm)).setCell ⟨w.heap.size, 1, none⟩ (.int .i64 x.dst)).setCell ⟨w.heap.size, 2, none⟩ (.string x.data) := ⟨_, rfl⟩
    have hff : ∀ b, b ≠ w.heap.size → wf.heap[b]? = w5.heap[b]? := fun b hb => by rw [hwf]; exact set3k_far hb
    have hxf : wf.heap[w.heap.size]? = some (.cells #[.int .i64 x.frm, .int .i64 x.dst, .string x.data] 36 (0, 0)) := by rw [hwf]; exact set3k_at hx50
    have hnetf : PNetM wf B p 54 36 (.slice (some ⟨g, 0, none⟩) m cap) { n with row := n.row.eraseIdx j } := hnet5.kept fun b _ hb => hff b (hb.elim (fun e => by omega) fun hb => by have : g = b := Option.some.inj hb; omega)
    have hbf : Below B w wf := by rw [hwf]; exact ((hb5.setCell (p := ⟨w.heap.size, 0, none⟩) hB _).setCell (p := ⟨w.heap.size, 1, none⟩) hB _).setCell (p := ⟨w.heap.size, 2, none⟩) hB _
    have hmv : Moved p (.slice (some ⟨g, 0, none⟩) n.row.length cap) w wf := fun b hb hne hnv => (hff b (by omega)).trans ((hf5 b hne).trans ((hf4 b (fun e => hnv (by rw [e]; rfl))).trans (hbw2.block b hb)))
    have c1 : w1.cell? ⟨p, 1, none⟩ = some (.slice (some ⟨g, 0, none⟩) n.row.length cap) := (blk_cells h1.net).1 1
    have e1 : w2.cell? ⟨p, 1, none⟩ = some (.slice (some ⟨g, 0, none⟩) n.row.length cap) := (blk_cells h2.net).1 1
    have hn3 := (hf3 p (Ne.symm hgp)).trans h2.net
    have q1 : w3.cell? ⟨p, 1, none⟩ = some (.slice (some ⟨g, 0, none⟩) n.row.length cap) := (blk_cells hn3).1 1
    have hlv : ∀ t u, (pkR.vals last)[t]? = some u → w3.cell? ⟨g, m * 3 + t, none⟩ = some u := fun t u hu => by
      rw [(blk_cells hg3).1, List.getElem?_toArray, List.append_assoc, List.getElem?_append_right (by rw [k4]; exact Nat.le_add_right _ _), k4, Nat.add_sub_cancel_left, List.getElem?_append_left (List.getElem?_eq_some_iff.1 hu).1]
      exact hu
    obtain ⟨l0, l1, l2⟩ : w3.cell? ⟨g, m * 3, none⟩ = some (.int .i64 last.frm) ∧ w3.cell? ⟨g, m * 3 + 1, none⟩ = some (.int .i64 last.dst) ∧ w3.cell? ⟨g, m * 3 + 2, none⟩ = some (.string last.data) := ⟨hlv 0 _ rfl, hlv 1 _ rfl, hlv 2 _ rfl⟩
    obtain ⟨z0, z1, z2⟩ : w3.frozen? ⟨g, m * 3, none⟩ = false ∧ w3.frozen? ⟨g, m * 3 + 1, none⟩ = false ∧ w3.frozen? ⟨g, m * 3 + 2, none⟩ = false := ⟨(blk_cells hg3).2 _, (blk_cells hg3).2 _, (blk_cells hg3).2 _⟩
    obtain ⟨s1, s2⟩ : w4.cell? ⟨p, 1, none⟩ = some (.slice (some ⟨g, 0, none⟩) n.row.length cap) ∧ w4.frozen? ⟨p, 1, none⟩ = false := ⟨(blk_cells hn4).1 1, (blk_cells hn4).2 1⟩
    obtain ⟨u0, u1, u2⟩ : w5.cell? ⟨w1.heap.size, 0, none⟩ = some (.int .i64 x.frm) ∧ w5.cell? ⟨w1.heap.size, 1, none⟩ = some (.int .i64 x.dst) ∧ w5.cell? ⟨w1.heap.size, 2, none⟩ = some (.string x.data) := ⟨(blk_cells hx5).1 0, (blk_cells hx5).1 1, (blk_cells hx5).1 2⟩
    obtain ⟨r0, r1, r2, r3, r4, r5⟩ : w5.cell? ⟨w.heap.size, 0, none⟩ = some (.int .i64 0) ∧ w5.cell? ⟨w.heap.size, 1, none⟩ = some (.int .i64 0) ∧ w5.cell? ⟨w.heap.size, 2, none⟩ = some (.string ⟨#[]⟩) ∧ w5.frozen? ⟨w.heap.size, 0, none⟩ = false ∧ w5.frozen? ⟨w.heap.size, 1, none⟩ = false ∧ w5.frozen? ⟨w.heap.size, 2, none⟩ = false := ⟨(blk_cells hx50).1 0, (blk_cells hx50).1 1, (blk_cells hx50).1 2, (blk_cells hx50).2 0, (blk_cells hx50).2 1, (blk_cells hx50).2 2⟩
    obtain ⟨g0, g1, g2⟩ : wf.cell? ⟨w.heap.size, 0, none⟩ = some (.int .i64 x.frm) ∧ wf.cell? ⟨w.heap.size, 1, none⟩ = some (.int .i64 x.dst) ∧ wf.cell? ⟨w.heap.size, 2, none⟩ = some (.string x.data) := ⟨(blk_cells hxf).1 0, (blk_cells hxf).1 1, (blk_cells hxf).1 2⟩
    obtain ⟨nl, hnl⟩ : ∃ nl, nl = n.row.length := ⟨_, rfl⟩
    rw [← hnl] at hm1 hcap hjl hmv c1 e1 q1 s1 hcp
    obtain ⟨b1, b2, b0, b6, b7, m1, m2, hcj⟩ := take_nums hm1 hjl hcap (by rw [hnl]; exact hlen)
    have HM := Lib.hid (And.intro m1 m2)
    have HCJ := Lib.hid hcj
    have HB67 := Lib.hid (And.intro b6 b7)
    have HCP := Lib.hid hcp
    have HQ := Lib.hid q1
    have HL := Lib.hid (And.intro (And.intro l0 (And.intro l1 l2)) (And.intro z0 (And.intro z1 z2)))
    have HSS := Lib.hid (And.intro s1 s2)
    have HU := Lib.hid (And.intro (And.intro u0 (And.intro u1 u2)) (And.intro (And.intro r0 (And.intro r1 (And.intro r2 (And.intro r3 (And.intro r4 r5))))) (And.intro g0 (And.intro g1 g2))))
    have HE1 := Lib.hid e1
    have HW2 := Lib.hid hw2
    have HW3 := Lib.hid hw3
    have HW4 := Lib.hid hw4
    have HW5 := Lib.hid hw5
    have HWF := Lib.hid hwf
    have HNF := Lib.hid hnetf
    have HBF := Lib.hid hbf
    have HMV := Lib.hid hmv
    have HE := Lib.hid he
    clear hcj m1 m2 b6 b7 hcp q1 l0 l1 l2 z0 z1 z2 s1 s2 u0 u1 u2 r0 r1 r2 r3 r4 r5 g0 g1 g2 e1 hw2 hw3 hw4 hw5 hwf hnetf hbf hmv he hnl hlv hn3 hxf hff hx50 hx5 hb5 hnet5 hf5 hn4 ho4 hb4 hf4 hg4 e4 hb3 hf3 hg3 hsrc1 hrun hcsl hpre hC3 hsz hiu y0 y1 y2 hg2 h2 hbw2 hx2 hb2 hm1 hm hgp hgl k1 k2 k3 k4 k5 hrest hcm hcap hg hBg hap hpl hjx hS ha h0 hn h1 hx1 hw1 hb1 hs1 h hz hlen
    have hz := zero_pk
    go_enter Try.func8, Try.ntmps8
    go_upto_region 1 with fail
    rw [← HW1.out]
    go_wp2_with fail
    refine cH.mono ?_
    rintro e w2' ⟨rfl, rfl⟩
    clear cH
    go_upto_region 4 with fail
    rw [← HW2.out]
    clear c1 d0 d1 d2
    have e1 := HE1.out
    have hcp := HCP.out
    have hcj := HCJ.out
    obtain ⟨b6, b7⟩ := HB67.out
    obtain ⟨⟨-, -⟩, -, -, -, m5, m6, m7, m8⟩ := HM.out
    go_region
    all_goals clear e1 hcp hcj b6 b7 m5 m6 m7 m8
    all_goals have q1 := HQ.out
    all_goals obtain ⟨⟨m1, m1'⟩, m2, m3, m4, -⟩ := HM.out
    all_goals obtain ⟨⟨l0, l1, l2⟩, z0, z1, z2⟩ := HL.out
    all_goals go_upto_region 7 with fail
    all_goals rw [← HW4.out]
    all_goals clear l0 l1 l2 z0 z1 z2 q1 m1 m1'
    all_goals obtain ⟨s1, s2⟩ := HSS.out
    all_goals go_upto_region 8 with fail
    all_goals rw [← HW5.out]
    all_goals clear s1 s2
    all_goals obtain ⟨⟨u0, u1, u2⟩, ⟨r0, r1, r2, r3, r4, r5⟩, g0, g1, g2⟩ := HU.out
    all_goals go_wp2_with fail
    all_goals rw [← HWF.out]
    all_goals refine bodyPost_ret (v := .tuple #[x.agg, .bool true]) (by clear r0 r1 r2 r3 r4 r5 u0 u1 u2; unfold PK.agg; rw [results_ct rfl]; go_simp; try rfl) rfl ?_
    all_goals rw [HE.out]
    all_goals exact ⟨rfl, _, HNF.out, HBF.out, HMV.out, fun g hg => .inl hg⟩
end Go.Proofs.Ytclfhidapkoiiaa
