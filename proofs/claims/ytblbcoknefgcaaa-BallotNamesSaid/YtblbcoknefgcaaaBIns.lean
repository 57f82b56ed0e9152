/-
  slices.Clone and slices.Insert of numbers. No statement is proved here. No condition.
-/
import Derived.Test.YtblbcoknefgcaaaBScan
import Derived.Test.YtblbcoknefgcaaaEMut
import Derived.Lib.SliceRun
namespace Go.Proofs.Ytblbcoknefgcaaa
open Go.RowKit

set_option maxRecDepth 100000 in
theorem cloneint_any (l : List Int) (v : Value) (w : World) (h : inR.N w Any v l) (hl : l.length ≤ 17592186044416) :
    Calls Try.prog 69 #[v] w fun e w' => ∃ v', e = .returned v' ∧ inR.Own w' w.heap.size 3 v' l ∧ Below w.heap.size w w' := by
  obtain ⟨iu, hiu, z0, z1, z2⟩ := info_parts info_cint
  obtain ⟨A, c, rfl, h2, h3⟩ := h.slice
  cases A with
  | none =>
    have hc : c = 0 := by
      obtain ⟨A', c', hv, -, -, -, h4, -⟩ := h
      injection hv with e1 _ e3
      subst e3
      exact h4 e1.symm
    have hl0 : l.length = 0 := by omega
    have hln : l = [] := List.eq_nil_of_length_eq_zero hl0
    subst hln hc
    have hnil : ∀ W : World, (binOp .eql 32 (.slice none 0 0) (.slice none 0 0)).run Try.prog W = .ok (.bool true) W := fun W => Lib.run_eql_slice_nil W _ _ none 0 0 0 0 Try.underlying32
    go_enter Try.func69, Try.ntmps69
    go_wp2_with fail
    go_ret
    exact ⟨_, rfl, Rec.Own.none _ _ _ _, Below.refl _ _⟩
  | some a =>
    have hb1 : Below w.heap.size w (w.alloc (.cells #[] 3)) := (Below.refl _ _).alloc (Nat.le_refl _) _
    have hown1 : inR.Own (w.alloc (.cells #[] 3)) w.heap.size 3 (.slice (some ⟨w.heap.size, 0, none⟩) 0 0) [] := World.ownsRow_lit w #[] 0 (Nat.le_refl _) (by unfold maxLen; omega) rfl
    obtain ⟨v', w', hr, ho, hg, -⟩ := Rec.app (P := Try.prog) (t := 32) Try.underlying32 hiu z0 z1 z2 rfl (by decide) hown1 (h.grow hb1) (by unfold maxLen; simp; omega) (by simp; omega) hb1.size
    rw [List.nil_append] at ho
    have hbf : Below w.heap.size w w' := hb1.grown hg hb1.size (fun p hp => by have h1 : w.heap.size = p := Option.some.inj hp; omega)
    have HR := Lib.hid hr
    have HO := Lib.hid ho
    have HB := Lib.hid hbf
    clear hr ho hg hbf hown1 hb1 h hiu z0 z1 z2
    have hnil : ∀ W : World, (binOp .eql 32 (.slice (some a) l.length c) (.slice none 0 0)).run Try.prog W = .ok (.bool false) W := fun W => Lib.run_eql_slice_nil W _ _ (some a) _ _ 0 0 Try.underlying32
    go_enter Try.func69, Try.ntmps69
    go_wp2_with (at_builtin; go_must (refine Lib.wpList_append_run _ rfl (.tmp 5) (.tmp 6) 32 32 rfl _ _ rfl rfl _ _ HR.out ?_))
    go_ret
    exact ⟨_, rfl, HO.out, HB.out⟩

theorem grow_belowI {w w' : World} {B : Nat} {v : Value} {l : List Int} (h : inR.Own w B 3 v l) (hg : w.grownBy w' v.ownBlock) (hB : B ≤ w.heap.size) : Below B w w' := (Below.refl B w).grown hg hB fun p hp => (h.lt p hp).1
set_option maxHeartbeats 4000000 in
set_option maxRecDepth 100000 in
theorem insInt_any (l : List Int) (i : Nat) (x : Int) (v : Value) (p B : Nat) (w : World) (h : inR.Own w B 3 v l) (hi : i ≤ l.length) (hB : B ≤ w.heap.size) (hp : w.heap[p]? = some (.cells (inR.vals x).toArray 3 (0, 0))) (hpv : ∀ b, v.ownBlock = some b → b ≠ p) (hl : l.length ≤ 100000) :
    Calls Try.prog 68 #[v, .int .i64 (i : Int), .slice (some ⟨p, 0, none⟩) 1 1] w fun e w' => ∃ v', e = .returned v' ∧ inR.Own w' B 3 v' (l.take i ++ x :: l.drop i) ∧ Below B w w' ∧ Near v w w' := by
  obtain ⟨iu, hiu, z0, z1, z2⟩ := info_parts info_cint
  have hsz : (Try.prog.info? 3).map (·.size) = some inR.size := by rw [hiu]; exact congrArg some z1
  have hrp : inR.N w Any (.slice (some ⟨p, 0, none⟩) 1 1) [x] := Rec.one_row hp trivial
  by_cases hil : i = l.length
  · subst hil
    obtain ⟨v', w', hr, ho, hg, -⟩ := Rec.app (P := Try.prog) (t := 32) Try.underlying32 hiu z0 z1 z2 rfl (by decide) h hrp (by unfold maxLen; simp; omega) (by simp; omega) hB
    have hb : Below B w w' ∧ Near v w w' := ⟨grow_belowI h hg hB, Near.grown hg⟩
    rw [List.take_length, List.drop_length]
    obtain ⟨A, c, rfl⟩ := h.slice
    have HR := Lib.hid hr
    have HO := Lib.hid ho
    have HB := Lib.hid hb
    have a2 : (l.length : Int) ≤ 9223372036854775807 := by omega
    clear hr ho hg hb h hp hpv hrp hiu z0 z1 z2 hsz
    go_enter Try.func68, Try.ntmps68
    go_wp2_with (at_builtin; go_must (refine Lib.wpList_append_run _ rfl (.tmp 23) (.tmp 24) 32 32 rfl _ _ rfl rfl _ _ HR.out ?_))
    all_goals (go_ret; exact ⟨_, rfl, HO.out, HB.out.1, HB.out.2.len⟩)
  · have hil2 : i < l.length := by omega
    rcases own_opened h with ⟨-, rfl⟩ | ⟨g, cap, rest, rfl, hgB, hg, hcap, hcm, hrl⟩
    · simp at hil2
    have hgp : g ≠ p := hpv g rfl
    have hgl : g < w.heap.size := (Array.getElem?_eq_some_iff.1 hg).1
    have hpl : p < w.heap.size := (Array.getElem?_eq_some_iff.1 hp).1
    have hil3 : ¬ ((i : Int) = (l.length : Int)) := by omega
    have hil4 : (i : Int) ≤ (l.length : Int) := by omega
    have hil5 : (0 : Int) ≤ (i : Int) := by omega
    have hcm2 : (cap : Int) ≤ 9223372036854775807 := by unfold maxLen at hcm; omega
    have hln : (inR.row (l.take i)).length = i * inR.size := by rw [inR.row_length, List.length_take, Nat.min_eq_left (by omega)]
    have hld : (inR.row (l.drop i)).length = (l.length - i) * inR.size := by rw [inR.row_length, List.length_drop]
    have hnew : ∀ Z, inR.row (l.take i ++ x :: l.drop i) ++ Z = inR.row (l.take i) ++ inR.vals x ++ inR.row (l.drop i) ++ Z := fun Z => by rw [inR.row_append, inR.row_cons]; simp
    have hnl : (l.take i ++ x :: l.drop i).length = l.length + 1 := by simp; omega
    by_cases hroom : cap < l.length + 1
    · obtain ⟨c', Z, w2, hr, h2, hzl, hc1, hc2, hb2, hs2⟩ := run_grow_zeros (P := Try.prog) (B := B) (t := 32) (tn := 3) (ty := 32) Try.underlying32 Try.underlying3 hiu z0 z1 z2 rfl (by decide) hB hg hcap hroom hil2 (by unfold maxLen; omega) (by omega)
      have hroom2 : (cap : Int) < (l.length : Int) + 1 := by omega
      have hx2 : w2.heap[p]? = some (.cells (inR.vals x).toArray 3 (0, 0)) := (hb2.block _ hpl).trans hp
      have hg2 : w2.heap[g]? = some (.cells (inR.row l ++ rest).toArray 3 (0, 0)) := (hb2.block _ hgl).trans hg
      have hsz0 : inR.size = 1 := rfl
      have hzl2 : (l.length + 1 - i) * inR.size ≤ Z.length := by
        have := Nat.mul_le_mul_right inR.size hc1
        rw [Nat.sub_mul]
        omega
      have hzl3 : inR.size ≤ Z.length := Nat.le_trans (by have := Nat.mul_le_mul_right inR.size (show 1 ≤ l.length + 1 - i by omega); omega) hzl2
      have h3 : w2.heap[w.heap.size]? = some (.cells (inR.row (l.take i) ++ Z.take inR.size ++ Z.drop inR.size).toArray 3 (0, 0)) := by rw [List.append_assoc, List.take_append_drop]; exact h2
      have hcp1 : ∀ ty dc, (Builtin.copy_ #[32, 32] ty #[.slice (some ⟨w.heap.size, i, none⟩) (l.length + 1 - i) dc, .slice (some ⟨p, 0, none⟩) 1 1]).run Try.prog w2 = .ok (goInt (Nat.min 1 (l.length + 1 - i))) (w2.setRow w.heap.size (inR.row (l.take i) ++ inR.vals x ++ Z.drop inR.size).toArray) := fun ty dc =>
        run_copyK 32 32 ty 3 Try.underlying32 hsz h3 (by rw [hln, hsz0, Nat.mul_one]) (by rw [List.length_take, inR.len]; omega) (by rw [inR.len, show Nat.min 1 (l.length + 1 - i) = 1 from Nat.min_eq_left (by omega), Nat.one_mul]) (fun j u hu => by rw [plus_zero, Nat.zero_add, (blk_cells hx2).1, List.getElem?_toArray]; exact hu) (inR.one x)
      obtain ⟨w3, hw3⟩ : ∃ w3, w3 = w2.setRow w.heap.size (inR.row (l.take i) ++ inR.vals x ++ Z.drop inR.size).toArray := ⟨_, rfl⟩
      have h4 : w3.heap[w.heap.size]? = some (.cells (inR.row (l.take i) ++ inR.vals x ++ Z.drop inR.size).toArray 3 (0, 0)) := by rw [hw3]; exact setRow_heap w2 _ _ _ _ _ h3
      have hb3 : Below w.heap.size w w3 := by rw [hw3]; exact below_setRow hb2 (Nat.le_refl _) _
      rw [← hw3] at hcp1
      have hZ2 : Z.drop inR.size = (Z.drop inR.size).take ((l.length - i) * inR.size) ++ (Z.drop inR.size).drop ((l.length - i) * inR.size) := (List.take_append_drop _ _).symm
      have h5 : w3.heap[w.heap.size]? = some (.cells (inR.row (l.take i) ++ inR.vals x ++ (Z.drop inR.size).take ((l.length - i) * inR.size) ++ (Z.drop inR.size).drop ((l.length - i) * inR.size)).toArray 3 (0, 0)) := by rw [List.append_assoc (inR.row (l.take i) ++ inR.vals x), List.take_append_drop]; exact h4
      have hcp2 : ∀ W, (∀ b : Nat, W.heap[b]? = w3.heap[b]?) → ∀ ty dc sc, (Builtin.copy_ #[32, 32] ty #[.slice (some ⟨w.heap.size, i + 1, none⟩) (l.length - i) dc, .slice (some ⟨g, i, none⟩) (l.length - i) sc]).run Try.prog W = .ok (goInt (Nat.min (l.length - i) (l.length - i))) (W.setRow w.heap.size (inR.row (l.take i) ++ inR.vals x ++ inR.row (l.drop i) ++ (Z.drop inR.size).drop ((l.length - i) * inR.size)).toArray) := fun W hW ty dc sc =>
        run_copyK 32 32 ty 3 Try.underlying32 hsz ((hW _).trans h5) (by rw [List.length_append, hln, inR.len, hsz0]; omega) (by rw [List.length_take, List.length_drop, hld, Nat.min_eq_left]; rw [Nat.sub_mul] at hzl2 ⊢; rw [Nat.add_mul] at hzl2; omega) (by rw [hld, show Nat.min (l.length - i) (l.length - i) = l.length - i from Nat.min_self _]) (fun j u hu => by
          have eg : W.heap[g]? = some (.cells (inR.row l ++ rest).toArray 3 (0, 0)) := (hW _).trans ((hb3.block _ hgl).trans hg)
          rw [plus_zero, (blk_cells eg).1, List.getElem?_toArray, inR.row_take_drop l i, List.append_assoc, List.getElem?_append_right (by rw [hln, hsz0, Nat.mul_one]; exact Nat.le_add_right _ _), hln, show i + j - i * inR.size = j by rw [hsz0]; omega, List.getElem?_append_left (List.getElem?_eq_some_iff.1 hu).1]
          exact hu) (inR.row_one _)
      have hfin : ∀ W, (∀ b : Nat, W.heap[b]? = w3.heap[b]?) → Below w.heap.size w W → ∃ v', inR.Own (W.setRow w.heap.size (inR.row (l.take i) ++ inR.vals x ++ inR.row (l.drop i) ++ (Z.drop inR.size).drop ((l.length - i) * inR.size)).toArray) B 3 (.slice (some ⟨w.heap.size, 0, none⟩) (l.length + 1) c') (l.take i ++ x :: l.drop i) ∧ (Below B w (W.setRow w.heap.size (inR.row (l.take i) ++ inR.vals x ++ inR.row (l.drop i) ++ (Z.drop inR.size).drop ((l.length - i) * inR.size)).toArray) ∧ Near (.slice (some ⟨g, 0, none⟩) l.length cap) w (W.setRow w.heap.size (inR.row (l.take i) ++ inR.vals x ++ inR.row (l.drop i) ++ (Z.drop inR.size).drop ((l.length - i) * inR.size)).toArray)) ∧ v' = (0 : Nat) := fun W hW hbW => by
        refine ⟨0, ?_, ⟨below_setRow (Joins.below_le hbW hB) hB _, Near.below (below_setRow hbW (Nat.le_refl _) _)⟩, rfl⟩
        have e := setRow_heap W w.heap.size _ (inR.row (l.take i) ++ inR.vals x ++ inR.row (l.drop i) ++ (Z.drop inR.size).drop ((l.length - i) * inR.size)).toArray _ _ ((hW _).trans h5)
        rw [← hnew] at e
        have := Rec.own_closed (R := inR) (B := B) (l := l.take i ++ x :: l.drop i) (cap := c') hB e (by omega) hc2 (by
          have q1 : (l.length + 1) * inR.size = l.length * inR.size + inR.size := Nat.succ_mul _ _
          have q2 : (l.length - i) * inR.size = l.length * inR.size - i * inR.size := Nat.sub_mul _ _ _
          have q3 : (l.length + 1 - i) * inR.size = (l.length + 1) * inR.size - i * inR.size := Nat.sub_mul _ _ _
          have q4 : i * inR.size ≤ l.length * inR.size := Nat.mul_le_mul_right _ hi
          rw [hnl, List.length_drop, List.length_drop]
          omega)
        rw [hnl, hnew] at this
        exact this
      obtain ⟨C2, hC2⟩ : ∃ C2, C2 = (inR.row (l.take i) ++ inR.vals x ++ inR.row (l.drop i) ++ (Z.drop inR.size).drop ((l.length - i) * inR.size)).toArray := ⟨_, rfl⟩
      rw [← hC2] at hcp2 hfin
      have HR := Lib.hid hr
      have HC1 := Lib.hid hcp1
      have HC2 := Lib.hid hcp2
      have HF := Lib.hid hfin
      have HB3 := Lib.hid hb3
      clear hC2 hr h2 hzl hb2 hs2 hx2 hg2 hsz0 hzl2 hzl3 h3 hcp1 hw3 h4 hb3 hZ2 h5 hcp2 hfin hg hp hpv hrp hln hld hnew hnl h hiu z0 z1 z2 hsz
      go_enter Try.func68, Try.ntmps68
      go_upto_region 10 with (at_builtin; go_must (refine Lib.wpList_append_run _ rfl (.tmp 34) (.tmp 39) 32 3 rfl _ _ rfl rfl _ _ HR.out ?_))
      have cp1 := HC1.out
      go_upto_region 11 with fail
      clear cp1
      have cp2 := fun ty dc sc => HC2.out w3.drew (fun _ => rfl) ty dc sc
      have hw1 : IntKind.i64.wrap ((i : Int) + 1) = (i : Int) + 1 := by rw [IntKind.wrap_i64]; omega
      have hb1 : (0 : Int) ≤ (i : Int) + 1 := by omega
      have htn : ((i : Int) + 1).toNat = i + 1 := by omega
      have hb3 : (i : Int) + 1 ≤ (l.length : Int) + 1 := by omega
      have hb4 : ¬ (c' = i + 1) := by omega
      have hb5 : ¬ (cap = i) := by omega
      go_region
      clear cp2
      have hf := HF.out w3.drew (fun _ => rfl) (HB3.out.drew)
      go_wp2_with fail
      go_ret
      obtain ⟨-, ho, hb, -⟩ := hf
      exact ⟨_, rfl, ho, hb⟩
    · have hsz0 : inR.size = 1 := rfl
      have hroom1 : l.length + 1 ≤ cap := by omega
      have hroom2 : ¬ (cap : Int) < (l.length : Int) + 1 := by omega
      have q1 : (l.length + 1) * inR.size = l.length * inR.size + inR.size := Nat.succ_mul _ _
      have q2 : (l.length - i) * inR.size = l.length * inR.size - i * inR.size := Nat.sub_mul _ _ _
      have q4 : i * inR.size ≤ l.length * inR.size := Nat.mul_le_mul_right _ hi
      have q5 : (l.length + 1) * inR.size ≤ cap * inR.size := Nat.mul_le_mul_right _ hroom1
      have q6 : (i + 1) * inR.size = i * inR.size + inR.size := Nat.succ_mul _ _
      have q7 : (i + 1) * inR.size ≤ l.length * inR.size := Nat.mul_le_mul_right _ hil2
      have hrs : inR.size ≤ rest.length := by omega
      obtain ⟨Y, hY⟩ : ∃ Y, Y = inR.row (l.drop i) ++ rest := ⟨_, rfl⟩
      have hYl : Y.length = (l.length - i) * inR.size + rest.length := by rw [hY, List.length_append, hld]
      have hg1 : w.heap[g]? = some (.cells ((inR.row (l.take i) ++ Y.take inR.size) ++ (Y.drop inR.size).take ((l.length - i) * inR.size) ++ (Y.drop inR.size).drop ((l.length - i) * inR.size)).toArray 3 (0, 0)) := by
        rw [List.append_assoc (inR.row (l.take i) ++ _), List.take_append_drop, List.append_assoc, List.take_append_drop, hY, ← List.append_assoc, ← inR.row_take_drop]
        exact hg
      have hpost : (Y.drop inR.size).drop ((l.length - i) * inR.size) = rest.drop inR.size := by
        rw [List.drop_drop, hY, List.drop_append, List.drop_of_length_le (by rw [hld]; omega), List.nil_append, hld]
        congr 1
        omega
      rw [hpost] at hg1
      have hcp1 : ∀ ty dc sc, (Builtin.copy_ #[32, 32] ty #[.slice (some ⟨g, i + 1, none⟩) (l.length - i) dc, .slice (some ⟨g, i, none⟩) (l.length + 1 - i) sc]).run Try.prog w.drew = .ok (goInt (Nat.min (l.length + 1 - i) (l.length - i))) (w.drew.setRow g ((inR.row (l.take i) ++ Y.take inR.size) ++ inR.row (l.drop i) ++ rest.drop inR.size).toArray) := fun ty dc sc =>
        run_copyK 32 32 ty 3 Try.underlying32 hsz (w := w.drew) hg1 (by rw [List.length_append, hln, List.length_take, hYl, hsz0]; omega) (by rw [List.length_take, List.length_drop, hld, hYl]; omega) (by rw [hld, show Nat.min (l.length + 1 - i) (l.length - i) = l.length - i from Nat.min_eq_right (by omega)]) (fun j u hu => by
          have eg : w.drew.heap[g]? = some (.cells (inR.row l ++ rest).toArray 3 (0, 0)) := hg
          rw [plus_zero, (blk_cells eg).1, List.getElem?_toArray, inR.row_take_drop l i, List.append_assoc, List.getElem?_append_right (by rw [hln, hsz0, Nat.mul_one]; exact Nat.le_add_right _ _), hln, show i + j - i * inR.size = j by rw [hsz0]; omega, List.getElem?_append_left (List.getElem?_eq_some_iff.1 hu).1]
          exact hu) (inR.row_one _)
      obtain ⟨w3, hw3⟩ : ∃ w3, w3 = w.drew.setRow g ((inR.row (l.take i) ++ Y.take inR.size) ++ inR.row (l.drop i) ++ rest.drop inR.size).toArray := ⟨_, rfl⟩
      have h4 : w3.heap[g]? = some (.cells (inR.row (l.take i) ++ Y.take inR.size ++ (inR.row (l.drop i) ++ rest.drop inR.size)).toArray 3 (0, 0)) := by
        rw [hw3, ← List.append_assoc]
        exact setRow_heap w.drew _ _ _ _ _ hg1
      have hb3 : Below B w w3 := by rw [hw3]; exact below_setRow (Below.refl _ _).drew hgB _
      have hx3 : w3.heap[p]? = some (.cells (inR.vals x).toArray 3 (0, 0)) := by rw [hw3]; exact (setRow_other _ _ _ _ (Ne.symm hgp)).trans hp
      rw [← hw3] at hcp1
      have hcp2 : ∀ ty dc, (Builtin.copy_ #[32, 32] ty #[.slice (some ⟨g, i, none⟩) (l.length + 1 - i) dc, .slice (some ⟨p, 0, none⟩) 1 1]).run Try.prog w3 = .ok (goInt (Nat.min 1 (l.length + 1 - i))) (w3.setRow g (inR.row (l.take i) ++ inR.vals x ++ (inR.row (l.drop i) ++ rest.drop inR.size)).toArray) := fun ty dc =>
        run_copyK 32 32 ty 3 Try.underlying32 hsz h4 (by rw [hln, hsz0, Nat.mul_one]) (by rw [List.length_take, inR.len, hYl]; omega) (by rw [inR.len, show Nat.min 1 (l.length + 1 - i) = 1 from Nat.min_eq_left (by omega), Nat.one_mul]) (fun j u hu => by rw [plus_zero, Nat.zero_add, (blk_cells hx3).1, List.getElem?_toArray]; exact hu) (inR.one x)
      obtain ⟨C2, hC2⟩ : ∃ C2, C2 = (inR.row (l.take i) ++ inR.vals x ++ (inR.row (l.drop i) ++ rest.drop inR.size)).toArray := ⟨_, rfl⟩
      rw [← hC2] at hcp2
      have hfin : inR.Own (w3.setRow g C2) B 3 (.slice (some ⟨g, 0, none⟩) (l.length + 1) cap) (l.take i ++ x :: l.drop i) ∧ Below B w (w3.setRow g C2) ∧ Near (.slice (some ⟨g, 0, none⟩) l.length cap) w (w3.setRow g C2) := by
        refine ⟨?_, below_setRow hb3 hgB _, by rw [hw3, setRow_setRow]; exact Near.setRow (w := w.drew) _⟩
        have e := setRow_heap w3 g _ C2 _ _ h4
        have hC3 : C2 = (inR.row (l.take i ++ x :: l.drop i) ++ rest.drop inR.size).toArray := by rw [hC2, hnew]; congr 1; simp
        rw [hC3] at e ⊢
        have := Rec.own_closed (R := inR) (B := B) (l := l.take i ++ x :: l.drop i) (cap := cap) hgB e (by omega) hcm (by rw [hnl, List.length_drop]; omega)
        rw [hnl] at this
        exact this
      have hov : ∀ lb cb, (callFunc 104 #[.slice (some ⟨p, 0, none⟩) 1 1, .slice (some ⟨g, i + 1, none⟩) lb cb]).run Try.prog w = .ok (.value (.bool false)) w := fun lb cb => by
        rw [run_callFunc_extern Try.func104 (by kernel_rfl) (by kernel_rfl) (by kernel_rfl) (e := Extern.SlicesOverlaps.overlaps #[32, 32] #[4]) (by kernel_rfl),
          Lib.run_overlaps_apart w 32 4 3 Try.underlying32 inR.size (fun w => by kernel_rfl) ⟨p, 0, none⟩ ⟨g, i + 1, none⟩ 1 1 lb cb (Ne.symm hgp) 3 3 (inR.vals x).toArray.size (inR.row l ++ rest).toArray.size (by simp only [World.shape?, hp]) (by simp only [World.shape?, hg]) (by rw [List.size_toArray, List.length_append]; omega) ((blk_cells hp).2 _) ((blk_cells hp).2 _)]
        rfl
      have HC1 := Lib.hid hcp1
      have HC2 := Lib.hid hcp2
      have HF := Lib.hid hfin
      have HOV := Lib.hid hov
      clear hcp1 hcp2 hfin hov hC2 h4 hb3 hx3 hw3 hg1 hpost hYl hY q1 q2 q4 q5 q6 q7 hrs hsz0 hg hp hpv hrp hln hld hnew hnl h hiu z0 z1 z2 hsz
      go_enter Try.func68, Try.ntmps68
      have hw1 : IntKind.i64.wrap ((i : Int) + 1) = (i : Int) + 1 := by rw [IntKind.wrap_i64]; omega
      have hw2 : IntKind.i64.wrap ((l.length : Int) + 1) = (l.length : Int) + 1 := by rw [IntKind.wrap_i64]; omega
      have hb1 : (0 : Int) ≤ (i : Int) + 1 := by omega
      have htn : ((i : Int) + 1).toNat = i + 1 := by omega
      have htn2 : ((l.length : Int) + 1).toNat = l.length + 1 := by omega
      have hb3 : (i : Int) + 1 ≤ (l.length : Int) + 1 := by omega
      have hb4 : ¬ (cap = i + 1) := by omega
      have hb5 : ¬ (cap = i) := by omega
      have ov := HOV.out
      have cp1 := HC1.out
      have cp2 := HC2.out
      go_upto_region 15 with (simp only [ov])
      go_region
      go_wp2_with fail
      go_ret
      exact ⟨_, rfl, HF.out.1, HF.out.2⟩

end Go.Proofs.Ytblbcoknefgcaaa
