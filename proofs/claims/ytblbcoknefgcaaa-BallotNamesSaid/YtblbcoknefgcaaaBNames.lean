/-
  The votes' examples: the law, walked. No statement is proved here. No condition.
-/
import Derived.Test.YtblbcoknefgcaaaBTurn
import Derived.Test.YtblbcoknefgcaaaBOnce
import Derived.Test.YtblbcoknefgcaaaBRank
namespace Go.Proofs.Ytblbcoknefgcaaa
open Go.RowKit

theorem nil_N (w : World) : inR.N w Any (.slice none 0 0) ([] : List Int) := (Rec.Own.none inR w 0 3).n.any
theorem turn_lit (l : List Int) (s : Int) (r : List Int) (k : Int) {W w w' : World} {p T : Nat} (hB : Below W.heap.size W w) (hb : Below w.heap.size w w') (hp : w'.heap[p]? = some (.cells (inR.row l).toArray T (0, 0))) (hl : l.length ≤ 1000) (hr : turnO l s = r) (hk : turnE l s = k) :
    Calls Try.prog 24 #[.slice (some ⟨p, 0, none⟩) l.length l.length, .int .i64 s] w' fun e w'' => ∃ A c, e = .returned (.tuple #[.slice A r.length c, .int .i64 k]) ∧ Below W.heap.size W w'' ∧ Below w.heap.size w w'' ∧ inR.N w'' Any (.slice A r.length c) r := by
  subst hr hk
  have hB' := hB.trans (Joins.below_le hb hB.size)
  refine (turn_any l s _ w' (blk_N hp hl) hl).mono fun e w'' h => ?_
  obtain ⟨⟨A, c, he, ho⟩, hb2⟩ := h
  exact ⟨A, c, he, hB'.trans (Joins.below_le hb2 hB'.size), hb.trans (Joins.below_le hb2 hb.size), ho.n.any⟩
theorem turn_nil {W w : World} (hB : Below W.heap.size W w) :
    Calls Try.prog 24 #[.slice none 0 0, .int .i64 1] w fun e w'' => ∃ A c, e = .returned (.tuple #[.slice A 0 c, .int .i64 1]) ∧ Below W.heap.size W w'' ∧ Below w.heap.size w w'' := by
  refine (turn_any [] 1 _ w (nil_N w) (by decide)).mono fun e w'' h => ?_
  obtain ⟨⟨A, c, he, ho⟩, hb2⟩ := h
  exact ⟨A, c, he, hB.trans (Joins.below_le hb2 hB.size), hb2⟩
theorem won_nil (m : List Int) {W w w' : World} {q U : Nat} (hB : Below W.heap.size W w) (hb : Below w.heap.size w w') (hq : w'.heap[q]? = some (.cells (inR.row m).toArray U (0, 0)))
    (hm : (m.all fun x => decide (0 ≤ x) && decide (x ≤ 1000000)) = true) (lm : m.length ≤ 1000) :
    Calls Try.prog 25 #[.slice none 0 0, .slice (some ⟨q, 0, none⟩) m.length m.length] w' fun e w'' => e = .returned (.bool false) ∧ Below W.heap.size W w'' := by
  have hB' := hB.trans (Joins.below_le hb hB.size)
  have := won_any [] m _ _ w' (nil_N w') (blk_N hq lm) (by decide) lm (fun x h => by cases h) (lit_small hm)
  rw [show won [] m = false by unfold won majority; rfl] at this
  exact this.mono fun e w'' h => ⟨h.1, hB'.trans (Joins.below_le h.2 hB'.size)⟩
theorem common_is {l at_ : List Int} {r s : List Int} {x : Int} (h1 : commonL l at_ = r) (h2 : r.mergeSort leI = s) (h3 : (if r.length = 0 then 0 else max 0 (s[r.length - majority r.length]?.getD 0)) = x) : common l at_ = x := by
  rw [common_F]
  unfold comF
  rw [h1, h2, h3]
theorem common_a : common [2, 3] [9, 4] = 0 := common_is (r := [4, 0]) (s := [0, 4]) (by decide) (by simp [List.mergeSort, List.MergeSort.Internal.splitInTwo, leI]) (by decide)
theorem common_b : common [1, 2] [9, 4] = 4 := common_is (r := [9, 4]) (s := [4, 9]) (by decide) (by simp [List.mergeSort, List.MergeSort.Internal.splitInTwo, leI]) (by decide)
theorem common_c : common [] [9] = 0 := common_is (r := []) (s := []) (by decide) (by simp) (by decide)
theorem common_nil {W w w' : World} {q U : Nat} (hB : Below W.heap.size W w) (hb : Below w.heap.size w w') (hq : w'.heap[q]? = some (.cells (inR.row [9]).toArray U (0, 0))) :
    Calls Try.prog 26 #[.slice none 0 0, .slice (some ⟨q, 0, none⟩) 1 1] w' fun e w'' => e = .returned (.int .i64 0) ∧ Below W.heap.size W w'' := by
  have hB' := hB.trans (Joins.below_le hb hB.size)
  have := common_any [] [9] _ _ w' (nil_N w') (blk_N hq (by decide)) (by decide) (fun x h => by cases h)
  rw [common_c] at this
  exact this.mono fun e w'' h => ⟨h.1, hB'.trans (Joins.below_le h.2 hB'.size)⟩
theorem newer_lit (a b c d : Int) (r : Bool) {W w : World} (hB : Below W.heap.size W w) (hr : newer a b c d = r) : Calls Try.prog 27 #[.int .i64 a, .int .i64 b, .int .i64 c, .int .i64 d] w fun e w'' => e = .returned (.bool r) ∧ Below W.heap.size W w'' := by
  subst hr
  exact (newer_any a b c d w).mono fun e w'' h => ⟨h.1, hB.trans (Joins.below_le h.2 hB.size)⟩
theorem grants_lit (a b c d : Int) (nw r : Bool) {W w : World} (hB : Below W.heap.size W w) (hr : grants a b c d nw = r) : Calls Try.prog 28 #[.int .i64 a, .int .i64 b, .int .i64 c, .int .i64 d, .bool nw] w fun e w'' => e = .returned (.bool r) ∧ Below W.heap.size W w'' := by
  subst hr
  exact (grants_any a b c d nw w).mono fun e w'' h => ⟨h.1, h.2 ▸ hB⟩
theorem patience_lit (a b r : Int) {W w : World} (hB : Below W.heap.size W w) (h1 : -1000000 ≤ a ∧ a ≤ 1000000) (h2 : -1000000 ≤ b ∧ b ≤ 1000000) (hr : a + b - 1 = r) : Calls Try.prog 29 #[.int .i64 a, .int .i64 b] w fun e w'' => e = .returned (.int .i64 r) ∧ Below W.heap.size W w'' := by
  subst hr
  exact (patience_any a b w h1 h2).mono fun e w'' h => ⟨h.1, h.2 ▸ hB⟩
theorem check_nil {W w : World} (hB : Below W.heap.size W w) : Calls Try.prog 30 #[.slice none 0 0] w fun e w'' => e = .returned (.bool false) ∧ Below W.heap.size W w'' :=
  (check_any [] _ w (nil_N w)).mono fun e w'' h => ⟨h.1, h.2 ▸ hB⟩
set_option maxHeartbeats 8000000 in
set_option maxRecDepth 100000 in
theorem names_walk (w : World) : Calls Try.prog 8 #[] w fun e w' => e = .returned (.bool true) ∧ Below w.heap.size w w' := by
  have cW0 := works_any w
  go_enter Try.func8, Try.ntmps8
  go_wp2_with fail
  refine cW0.mono ?_
  rintro e w1 ⟨rfl, hb1⟩
  clear cW0
  have HB := Lib.hid hb1
  clear hb1
  go_wp2_with fail
  refine (turn_lit [1, 2] 3 [1, 2, 3] 0 HB.out ((Below.refl _ _).alloc (Nat.le_refl _) _) (heap_alloc_new w1 _) (by decide) (by decide) (by decide)).mono ?_
  rintro e w2 ⟨Aa, ca, rfl, hb, hb2, hn⟩
  replace HB := Lib.hid hb
  have HNa := Lib.hid hn
  clear hb hb2 hn
  go_wp2_with fail
  refine (turn_lit [1, 2] 1 [2] 0 HB.out ((Below.refl _ _).alloc (Nat.le_refl _) _) (heap_alloc_new w2 _) (by decide) (by decide) (by decide)).mono ?_
  rintro e w3 ⟨Ab, cb, rfl, hb, hb2, hn⟩
  replace HB := Lib.hid hb
  replace HNa := Lib.hid (HNa.out.grow hb2)
  have HNb := Lib.hid hn
  clear hb hb2 hn
  go_wp2_with fail
  refine (turn_lit [1] 1 [] 50 HB.out ((Below.refl _ _).alloc (Nat.le_refl _) _) (heap_alloc_new w3 _) (by decide) (by decide) (by decide)).mono ?_
  rintro e w4 ⟨Ag, cg, rfl, hb, hb2, hn⟩
  replace HB := Lib.hid hb
  replace HNa := Lib.hid (HNa.out.grow hb2)
  replace HNb := Lib.hid (HNb.out.grow hb2)
  clear hb hb2 hn
  go_wp2_with fail
  refine (turn_lit [2, 1] 3 [] 1 HB.out ((Below.refl _ _).alloc (Nat.le_refl _) _) (heap_alloc_new w4 _) (by decide) (by decide) (by decide)).mono ?_
  rintro e w5 ⟨Ah, ch, rfl, hb, hb2, hn⟩
  replace HB := Lib.hid hb
  replace HNa := Lib.hid (HNa.out.grow hb2)
  replace HNb := Lib.hid (HNb.out.grow hb2)
  clear hb hb2 hn
  go_wp2_with fail
  refine (turn_lit [1] 6 [] 1 HB.out ((Below.refl _ _).alloc (Nat.le_refl _) _) (heap_alloc_new w5 _) (by decide) (by decide) (by decide)).mono ?_
  rintro e w6 ⟨Ai, ci, rfl, hb, hb2, hn⟩
  replace HB := Lib.hid hb
  replace HNa := Lib.hid (HNa.out.grow hb2)
  replace HNb := Lib.hid (HNb.out.grow hb2)
  clear hb hb2 hn
  go_wp2_with fail
  refine (turn_nil HB.out).mono ?_
  rintro e w7 ⟨Aj, cj, rfl, hb, hb2⟩
  replace HB := Lib.hid hb
  replace HNa := Lib.hid (HNa.out.grow hb2)
  replace HNb := Lib.hid (HNb.out.grow hb2)
  clear hb hb2
  obtain ⟨ga, oa, hAa, ya⟩ := in_cell (l := [1, 2, 3]) HNa.out (i := 2) rfl
  obtain ⟨gb, ob, hAb, yb⟩ := in_cell (l := [2]) HNb.out (i := 0) rfl
  rw [Nat.add_zero] at yb
  subst hAa hAb
  clear HNa HNb
  go_wp2_with fail
  refine (won_lit [1] [1] true HB.out (two_lits w7 _ _).2.2 (two_lits w7 _ _).1 (two_lits w7 _ _).2.1 rfl rfl (by decide) (by decide) (by decide)).mono ?_
  rintro e w8 ⟨rfl, hb⟩
  replace HB := Lib.hid hb
  clear hb
  go_wp2_with fail
  refine (won_lit [1, 1, 2] [1] false HB.out (two_lits w8 _ _).2.2 (two_lits w8 _ _).1 (two_lits w8 _ _).2.1 rfl rfl (by decide) (by decide) (by decide)).mono ?_
  rintro e w9 ⟨rfl, hb⟩
  replace HB := Lib.hid hb
  clear hb
  go_wp2_with fail
  refine (won_nil [1] HB.out ((Below.refl _ _).alloc (Nat.le_refl _) _) (heap_alloc_new w9 _) rfl (by decide)).mono ?_
  rintro e w10 ⟨rfl, hb⟩
  replace HB := Lib.hid hb
  clear hb
  go_wp2_with fail
  refine (common_lit [2, 3] [9, 4] 0 HB.out (two_lits w10 _ _).2.2 (two_lits w10 _ _).1 (two_lits w10 _ _).2.1 rfl (by decide) (by decide) common_a).mono ?_
  rintro e w11 ⟨rfl, hb⟩
  replace HB := Lib.hid hb
  clear hb
  go_wp2_with fail
  refine (common_lit [1, 2] [9, 4] 4 HB.out (two_lits w11 _ _).2.2 (two_lits w11 _ _).1 (two_lits w11 _ _).2.1 rfl (by decide) (by decide) common_b).mono ?_
  rintro e w12 ⟨rfl, hb⟩
  replace HB := Lib.hid hb
  clear hb
  go_wp2_with fail
  refine (common_nil HB.out ((Below.refl _ _).alloc (Nat.le_refl _) _) (heap_alloc_new w12 _)).mono ?_
  rintro e w13 ⟨rfl, hb⟩
  replace HB := Lib.hid hb
  clear hb
  go_wp2_with fail
  refine (newer_lit 2 1 1 9 true HB.out (by decide)).mono ?_
  rintro e w14 ⟨rfl, hb⟩
  replace HB := Lib.hid hb
  clear hb
  go_wp2_with fail
  refine (newer_lit 1 3 1 3 true HB.out (by decide)).mono ?_
  rintro e w15 ⟨rfl, hb⟩
  replace HB := Lib.hid hb
  clear hb
  go_wp2_with fail
  refine (newer_lit 1 2 1 3 false HB.out (by decide)).mono ?_
  rintro e w16 ⟨rfl, hb⟩
  replace HB := Lib.hid hb
  clear hb
  go_wp2_with fail
  refine (grants_lit 3 0 3 1 true true HB.out (by decide)).mono ?_
  rintro e w17 ⟨rfl, hb⟩
  replace HB := Lib.hid hb
  clear hb
  go_wp2_with fail
  refine (grants_lit 3 2 4 1 true true HB.out (by decide)).mono ?_
  rintro e w18 ⟨rfl, hb⟩
  replace HB := Lib.hid hb
  clear hb
  go_wp2_with fail
  refine (grants_lit 3 2 3 1 true false HB.out (by decide)).mono ?_
  rintro e w19 ⟨rfl, hb⟩
  replace HB := Lib.hid hb
  clear hb
  go_wp2_with fail
  refine (grants_lit 3 0 2 1 true false HB.out (by decide)).mono ?_
  rintro e w20 ⟨rfl, hb⟩
  replace HB := Lib.hid hb
  clear hb
  go_wp2_with fail
  refine (grants_lit 3 0 3 1 false false HB.out (by decide)).mono ?_
  rintro e w21 ⟨rfl, hb⟩
  replace HB := Lib.hid hb
  clear hb
  go_wp2_with fail
  refine (grants_lit 3 0 3 0 true false HB.out (by decide)).mono ?_
  rintro e w22 ⟨rfl, hb⟩
  replace HB := Lib.hid hb
  clear hb
  go_wp2_with fail
  refine (patience_lit 10 3 12 HB.out (by decide) (by decide) (by decide)).mono ?_
  rintro e w23 ⟨rfl, hb⟩
  replace HB := Lib.hid hb
  clear hb
  go_wp2_with fail
  refine (patience_lit 10 1 10 HB.out (by decide) (by decide) (by decide)).mono ?_
  rintro e w24 ⟨rfl, hb⟩
  replace HB := Lib.hid hb
  clear hb
  go_wp2_with fail
  refine (check_lit [1, 2, 3, 4, 5] true HB.out ((Below.refl _ _).alloc (Nat.le_refl _) _) (heap_alloc_new w24 _) (by decide) (by decide)).mono ?_
  rintro e w25 ⟨rfl, hb⟩
  replace HB := Lib.hid hb
  clear hb
  go_wp2_with fail
  refine (check_lit [6] false HB.out ((Below.refl _ _).alloc (Nat.le_refl _) _) (heap_alloc_new w25 _) (by decide) (by decide)).mono ?_
  rintro e w26 ⟨rfl, hb⟩
  replace HB := Lib.hid hb
  clear hb
  go_wp2_with fail
  refine (check_lit [0] false HB.out ((Below.refl _ _).alloc (Nat.le_refl _) _) (heap_alloc_new w26 _) (by decide) (by decide)).mono ?_
  rintro e w27 ⟨rfl, hb⟩
  replace HB := Lib.hid hb
  clear hb
  go_wp2_with fail
  refine (check_nil HB.out).mono ?_
  rintro e w28 ⟨rfl, hb⟩
  replace HB := Lib.hid hb
  clear hb
  go_wp2_with fail
  go_ret
  exact ⟨rfl, HB.out⟩
end Go.Proofs.Ytblbcoknefgcaaa
