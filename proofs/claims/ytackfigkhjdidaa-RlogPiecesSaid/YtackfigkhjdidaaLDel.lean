/-
  slices.Delete of a row's beginning. No statement is proved here. No condition.
-/
import Derived.Test.YtackfigkhjdidaaLTurn
import Derived.ArgAppend
namespace Go.Proofs.Ytackfigkhjdidaa
open Go.RowKit

theorem lohiE (W : World) (A : Option Addr) (len c k m : Nat) (hkm : k ≤ m) (hm : m ≤ c) : (Instr.slice 31 (.slice A len c) (some (.int .i64 (k : Int))) (some (.int .i64 (m : Int))) none).run Try.prog W = .ok (.slice (atFrom A c k 4) (m - k) (c - k)) W := by
  rw [run_slice_lh _ _ _ _ _ elem_E .i64 .i64 (k : Int) (m : Int) (by omega) (by omega) (by omega), size_E]
  simp only [Result.andThen, sliced, Int.toNat_natCast]
  unfold atFrom
  rfl
theorem lohimE (W : World) (A : Option Addr) (len c m n : Nat) (hm : m ≤ n) (hn : n ≤ c) : ∃ v, (Instr.slice 31 (.slice A len c) (some (.int .i64 0)) (some (.int .i64 (m : Int))) (some (.int .i64 (n : Int)))).run Try.prog W = .ok v W := by
  rw [run_slice_lhm _ _ _ _ _ elem_E .i64 .i64 .i64 0 (m : Int) (n : Int) (by omega) (by omega) (by omega) (by omega), size_E]
  exact ⟨_, rfl⟩
theorem EntO.drop_take {w w1 : World} {B g n cap j m : Nat} {rs : List RE} {l : List EN} (h : EntO w B (.slice (some ⟨g, 0, none⟩) n cap) rs l) (hf : ∀ b, b ≠ g → w1.heap[b]? = w.heap[b]?) (ho : entR.Own w1 B 50 (.slice (some ⟨g, 0, none⟩) n cap) (rs.drop j ++ rs.drop m)) {C : Array Value} (hg : w.heap[g]? = some (.cells C 50 (0, 0))) : EntO w1 B (.slice (some ⟨g, 0, none⟩) n cap) (rs.drop j ++ rs.drop m) (l.drop j ++ l.drop m) := by
  refine ⟨ho, by simp only [List.length_append, List.length_drop, h.len], fun i r e hr he => ?_⟩
  have at_ : ∀ k, rs[k]? = some r → l[k]? = some e → EntIs r e ∧ inR.Own w1 B 3 r.lv e.list := fun k h1 h2 => by
    have := h.ent k r e h1 h2
    exact ⟨this.1, list_far this.2 hg fun b hb _ => hf b hb⟩
  by_cases hi : i < (rs.drop j).length
  · rw [List.getElem?_append_left hi, List.getElem?_drop] at hr
    rw [List.getElem?_append_left (by rw [List.length_drop, ← h.len, ← List.length_drop]; exact hi), List.getElem?_drop] at he
    exact at_ _ hr he
  · rw [List.getElem?_append_right (by omega), List.getElem?_drop] at hr
    rw [List.getElem?_append_right (by rw [List.length_drop, ← h.len, ← List.length_drop]; omega), List.getElem?_drop, List.length_drop, ← h.len, ← List.length_drop] at he
    exact at_ _ hr he
set_option maxHeartbeats 4000000 in
set_option maxRecDepth 100000 in
theorem delete_any (w : World) (B g cap j : Nat) (rs : List RE) (l : List EN) (h : EntO w B (.slice (some ⟨g, 0, none⟩) l.length cap) rs l) (hj : j ≤ l.length) (hmax : l.length ≤ 2147483647) (hBw : B ≤ w.heap.size) :
    Calls Try.prog 90 #[.slice (some ⟨g, 0, none⟩) l.length cap, .int .i64 0, .int .i64 (j : Int)] w fun e w' => e = .returned (.slice (some ⟨g, 0, none⟩) (l.length - j) cap) ∧ (∃ rs', EntO w' B (.slice (some ⟨g, 0, none⟩) (l.length - j) cap) rs' (l.drop j)) ∧ (∀ b, b ≠ g → w'.heap[b]? = w.heap[b]?) ∧ Below g w w' := by
  have hrl := h.len
  have hcap : l.length ≤ cap ∧ cap ≤ maxLen := by
    obtain ⟨A', c', hv, h1, h2⟩ := h.n.slice
    injection hv with _ _ e
    rw [e]
    exact ⟨h1, h2⟩
  obtain ⟨vx, hvx⟩ := lohimE w (some ⟨g, 0, none⟩) l.length cap j l.length hj hcap.1
  have hsl3 : ∀ W, (Instr.slice 31 (.slice (some ⟨g, 0, none⟩) l.length cap) (some (.int .i64 0)) (some (.int .i64 (j : Int))) (some (.int .i64 (l.length : Int)))).run Try.prog W = .ok vx W := fun W => by
    rw [run_slice_lhm _ _ _ _ _ elem_E .i64 .i64 .i64 0 (j : Int) (l.length : Int) (by omega) (by omega) (by omega) (by omega), size_E] at hvx ⊢
    injection hvx with e1 e2
    rw [← e1]
    rfl
  have j0 : (0 : Int) ≤ (j : Int) := Int.natCast_nonneg _
  clear hvx
  by_cases hj0 : j = 0
  · subst hj0
    have HF : Hid ((∃ rs', EntO w B (.slice (some ⟨g, 0, none⟩) l.length cap) rs' l) ∧ Below g w w) := Lib.hid ⟨⟨rs, h⟩, Below.refl _ _⟩
    clear h
    go_enter Try.func90, Try.ntmps90
    go_wp2_with fail
    go_ret
    exact ⟨rfl, HF.out.1, fun _ _ => rfl, HF.out.2⟩
  obtain ⟨m, hm⟩ : ∃ m, m = l.length - j := ⟨_, rfl⟩
  rcases own_opened h.row with ⟨hv, -⟩ | ⟨g', cap', rest, hv, hb, hg, hn, hc, hr⟩
  · cases hv
  injection hv with v1 v2 v3
  injection v1 with v1
  injection v1 with v1
  subst v1 v3
  have h4 : entR.size = 4 := rfl
  rw [h4] at hr
  have hrow : ∀ k, (entR.row (rs.drop k)).length = (l.length - k) * 4 := fun k => by rw [entR.row_length, List.length_drop, hrl]; rfl
  have hrowt : (entR.row (rs.take m)).length = m * 4 := by rw [entR.row_length, List.length_take, hrl, Nat.min_eq_left (by omega)]; rfl
  -- the append in its place
  have hg2 : w.drew.heap[g]? = some (.cells (([] : List Value) ++ entR.row (rs.take m) ++ (entR.row (rs.drop m) ++ rest)).toArray 50 (0, 0)) := by
    show w.heap[g]? = _
    rw [hg, List.nil_append, ← List.append_assoc, ← entR.row_take_drop]
  obtain ⟨iu, hiu, z0, z1, z2⟩ := info_parts info_cEntry
  have hnews : ∀ A', (A' = atFrom (some ⟨g, 0, none⟩) cap j 4) → ∃ a, A' = some a ∧ ∀ t u, (entR.row (rs.drop j))[t]? = some u → w.drew.cell? (a.add t) = some u := fun A' hA => by
    unfold atFrom at hA
    by_cases hcj : cap = j
    · rw [if_pos hcj] at hA
      refine ⟨_, hA, fun t u hu => ?_⟩
      have := (List.getElem?_eq_some_iff.1 hu).1
      rw [hrow] at this
      omega
    · rw [if_neg hcj] at hA
      have hA : A' = some ((⟨g, 0, none⟩ : Addr).add (j * 4)) := hA
      rw [plus_zero, Nat.zero_add] at hA
      refine ⟨_, hA, fun t u hu => ?_⟩
      have hlt : (entR.row (rs.take j)).length = j * 4 := by rw [entR.row_length, List.length_take, hrl, Nat.min_eq_left hj]; rfl
      have e : w.drew.heap[g]? = some (.cells (entR.row rs ++ rest).toArray 50 (0, 0)) := hg
      rw [plus_zero, (blk_cells e).1, List.getElem?_toArray, entR.row_take_drop rs j, List.append_assoc, List.getElem?_append_right (by rw [hlt]; exact Nat.le_add_right _ _), hlt, Nat.add_sub_cancel_left, List.getElem?_append_left (List.getElem?_eq_some_iff.1 hu).1]
      exact hu
  obtain ⟨a, hA, hsrc⟩ := hnews _ rfl
  have hrun := run_append_room_cells (P := Try.prog) (w := w.drew) (ty := 31) 31 50 iu Try.underlying31 hiu g 0 0 cap a m (cap - j) (entR.row (rs.drop j)) (by rw [hrow, z1, hm]) hsrc (entR.row_one _) (by omega)
    (fun t ht => by
      rw [hrow] at ht
      rw [(blk_cells hg2).1, List.getElem?_toArray, Nat.zero_mul, Nat.zero_add, List.getElem?_eq_getElem]
      · rfl
      · simp only [List.length_append, List.length_nil, hrowt, hrow]
        omega)
    (fun t _ => (blk_cells hg2).2 _)
  rw [Nat.zero_mul, Nat.zero_add, Nat.zero_add] at hrun
  have heq : w.drew.setCells g 0 (entR.row (rs.drop j)) = _ := setCells_setRow (w := w.drew) (vs := entR.row (rs.drop j)) hg2 rfl (by rw [hrowt, hrow, hm]) (entR.row_one _)
  rw [heq] at hrun
  obtain ⟨w1, hw1⟩ : ∃ w1, w1 = w.drew.setRow g (([] : List Value) ++ entR.row (rs.drop j) ++ (entR.row (rs.drop m) ++ rest)).toArray := ⟨_, rfl⟩
  rw [← hw1] at hrun
  have hf1 : ∀ b, b ≠ g → w1.heap[b]? = w.heap[b]? := fun b hb => by rw [hw1]; exact setRow_other w.drew g b _ hb
  have hB1 : Below g w w1 := by rw [hw1]; exact below_setRow ((Below.refl _ _).drew) (Nat.le_refl _) _
  have hg1 : w1.heap[g]? = some (.cells (entR.row (rs.drop j ++ rs.drop m) ++ rest).toArray 50 (0, 0)) := by
    rw [hw1, setRow_heap w.drew g _ _ _ _ hg2, entR.row_append, List.nil_append, List.append_assoc]
  have hlen2 : (rs.drop j ++ rs.drop m).length = l.length := by simp only [List.length_append, List.length_drop, hrl]; omega
  have ho1 : entR.Own w1 B 50 (.slice (some ⟨g, 0, none⟩) l.length cap) (rs.drop j ++ rs.drop m) := by
    have := Rec.own_closed (R := entR) (B := B) (l := rs.drop j ++ rs.drop m) (rest := rest) (cap := cap) hb hg1 (by omega) hc (by rw [hlen2, h4, ← hrl]; exact hr)
    rw [hlen2] at this
    exact this
  have he1 := h.drop_take hf1 ho1 hg
  have hl2 : (l.drop j ++ l.drop m).length = l.length := by simp only [List.length_append, List.length_drop]; omega
  obtain ⟨w2, hcl, he2, hf2, hs2, hB2⟩ := ents_cleared w1 (l := l.drop j ++ l.drop m) (k := m) (by rw [hl2]; exact he1) (by omega)
  rw [hl2] at hcl
  have ht2 : (l.drop j ++ l.drop m).take m = l.drop j := by rw [List.take_append_of_le_length (by rw [List.length_drop]; omega), List.take_of_length_le (by rw [List.length_drop]; omega)]
  rw [ht2] at he2
  have hfin : (∃ rs', EntO w2 B (.slice (some ⟨g, 0, none⟩) m cap) rs' (l.drop j)) ∧ (∀ b, b ≠ g → w2.heap[b]? = w.heap[b]?) ∧ Below g w w2 := ⟨⟨_, he2⟩, fun b hb => (hf2 b hb).trans (hf1 b hb), ⟨hB2.os.trans hB1.os, hB2.tape.trans hB1.tape, hB2.output.trans hB1.output, Nat.le_trans hB1.size hB2.size, fun b hb => (hf2 b (by omega)).trans (hf1 b (by omega))⟩⟩
  have HFIN := Lib.hid hfin
  have HRUN := Lib.hid hrun
  have s1 := fun W => tillE W (some ⟨g, 0, none⟩) l.length cap 0 (by omega)
  have s2 := fun W => fromE W (some ⟨g, 0, none⟩) l.length cap j hj
  have s3 := fun W => lohiE W (some ⟨g, 0, none⟩) m cap m l.length (by omega) (by omega)
  rw [hA] at s2
  rw [← hm]
  have hjn : ((0 : Int) == (j : Int)) = false := by rw [beq_eq_false_iff_ne]; omega
  have hmm : l.length - j = m := hm.symm
  rw [hmm] at s2
  clear h hrl hg hn hc hr h4 hrow hrowt hg2 hiu z0 z1 z2 hnews hA hsrc hrun heq hw1 hf1 hB1 hg1 hlen2 ho1 he1 hl2 he2 hf2 hs2 hB2 ht2 hfin v2 hm hj0 hmm hb hBw
  go_enter Try.func90, Try.ntmps90
  go_upto_region 5 with fail
  go_region_law (refine step_app rfl (.tmp 22) (.tmp 25) 31 rfl (.slice (some ⟨g, 0, none⟩) 0 cap) (.slice (some a) m (cap - j)) rfl rfl (by with_reducible exact HRUN.out) ?_)
  all_goals
    go_wp2_with (at_builtin; go_must (refine wpList_clr rfl (.tmp 31) 31 rfl _ rfl hcl ?_))
    go_ret
    exact ⟨rfl, HFIN.out⟩
end Go.Proofs.Ytackfigkhjdidaa
