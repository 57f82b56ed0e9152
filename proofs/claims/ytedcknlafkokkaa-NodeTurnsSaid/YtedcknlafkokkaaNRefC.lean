/-
  Whether a node may be, by the document's words: its cell, its Check. No statement is proved here. No condition.
-/
import Derived.Test.YtedcknlafkokkaaNFind
import Derived.Test.YtedcknlafkokkaaNCopy
namespace Go.Proofs.Ytedcknlafkokkaa
open Go.RowKit

theorem ok_leaf0 {c : PC} (hl : c.long = 0) : c.ok true ↔ c.key.size ≤ 48 ∧ c.val.size ≤ 64 ∧ c.size = 0 := by unfold PC.ok; simp [hl]
theorem ok_leaf1 {c : PC} (hl : ¬ c.long = 0) : c.ok true ↔ c.key.size ≤ 48 ∧ c.val.size = 0 ∧ (1 ≤ c.long ∧ c.long ≤ 2147483647) ∧ (1 ≤ c.size ∧ c.size ≤ 2147483647) := by unfold PC.ok; simp [hl, isCnt]
theorem ok_branch {c : PC} : c.ok false ↔ c.key.size ≤ 48 ∧ c.val.size = 0 ∧ c.long = 0 ∧ c.size = 0 := by unfold PC.ok; simp
theorem ok_yes {c : PC} {leaf : Bool} {b : Bool} (hb : b = true) (h : c.ok leaf) : Ending.returned (.bool b) = .returned (.bool (decide (c.ok leaf))) := by rw [hb, decide_eq_true h]
theorem ok_no {c : PC} {leaf : Bool} {b : Bool} (hb : b = false) (h : ¬ c.ok leaf) : Ending.returned (.bool b) = .returned (.bool (decide (c.ok leaf))) := by rw [hb, decide_eq_false h]
set_option maxHeartbeats 1000000 in
theorem refcell_any (c : PC) (leaf : Bool) (w : World) :
    Calls Try.prog 37 #[.bool leaf, c.agg] w fun e w' => e = .returned (.bool (decide (c.ok leaf))) ∧ Below w.heap.size w w' := by
  have hb : ∀ o, Below w.heap.size w (w.alloc o) := fun o => (Below.refl _ _).alloc (Nat.le_refl _) _
  obtain ⟨key, val, long, size⟩ := c
  unfold PC.agg
  go_enter Try.func37, Try.ntmps37
  by_cases hk : (key.size : Int) > 48
  · go_wp2_with fail
    go_ret
    refine ⟨ok_no rfl fun h => ?_, hb _⟩
    have h1 : key.size ≤ 48 := h.1
    omega
  · have hk' : key.size ≤ 48 := by omega
    by_cases hl : long = 0
    · subst hl
      by_cases hs : size = 0
      · subst hs
        by_cases hv : (val.size : Int) ≤ 64
        · cases leaf with
          | true =>
            go_wp2_with fail
            go_ret
            exact ⟨ok_yes (by first | rfl | simp) ((ok_leaf0 rfl).2 ⟨hk', by show val.size ≤ 64; omega, rfl⟩), hb _⟩
          | false =>
            by_cases hv0 : val.toList = []
            · have hvz := tl_nil.1 hv0
              go_wp2_with fail
              go_ret
              exact ⟨ok_yes (by first | rfl | simp [hv0]) (ok_branch.2 ⟨hk', hvz, rfl, rfl⟩), hb _⟩
            · have hvz : ¬ val.size = 0 := fun h => hv0 (tl_nil.2 h)
              go_wp2_with fail
              go_ret
              exact ⟨ok_no (by first | rfl | simp [hv0]) (fun h => hvz (ok_branch.1 h).2.1), hb _⟩
        · go_wp2_with fail
          go_ret
          refine ⟨ok_no (by first | rfl | simp) fun h => ?_, hb _⟩
          cases leaf
          · have h1 : val.size = 0 := (ok_branch.1 h).2.1
            omega
          · have h1 : val.size ≤ 64 := ((ok_leaf0 rfl).1 h).2.1
            omega
      · go_wp2_with fail
        go_ret
        refine ⟨ok_no (by first | rfl | simp [hs]) fun h => hs ?_, hb _⟩
        cases leaf
        · exact (ok_branch.1 h).2.2.2
        · exact ((ok_leaf0 rfl).1 h).2.2
    · cases leaf with
      | false =>
        go_wp2_with fail
        go_ret
        exact ⟨ok_no (by first | rfl | simp [hl]) fun h => hl (ok_branch.1 h).2.2.1, hb _⟩
      | true =>
        by_cases hv0 : val.toList = []
        · have hvz := tl_nil.1 hv0
          by_cases h1 : (1 : Int) ≤ long
          · by_cases h2 : long ≤ (2147483647 : Int)
            · by_cases h3 : (1 : Int) ≤ size
              · by_cases h4 : size ≤ (2147483647 : Int)
                · go_wp2_with fail
                  go_ret
                  exact ⟨ok_yes (by first | rfl | simp [h1, h2, h3, h4]) ((ok_leaf1 hl).2 ⟨hk', hvz, ⟨h1, h2⟩, h3, h4⟩), hb _⟩
                · go_wp2_with fail
                  go_ret
                  exact ⟨ok_no (by first | rfl | simp [h4]; omega) fun h => by have h9 := ((ok_leaf1 hl).1 h).2.2.2.2; dsimp only at h9; omega, hb _⟩
              · go_wp2_with fail
                go_ret
                exact ⟨ok_no (by first | rfl | simp [h3]; omega) fun h => by have h9 := ((ok_leaf1 hl).1 h).2.2.2.1; dsimp only at h9; omega, hb _⟩
            · go_wp2_with fail
              go_ret
              exact ⟨ok_no (by first | rfl | simp [h2]; omega) fun h => by have h9 := ((ok_leaf1 hl).1 h).2.2.1.2; dsimp only at h9; omega, hb _⟩
          · go_wp2_with fail
            go_ret
            exact ⟨ok_no (by first | rfl | simp [h1]; omega) fun h => by have h9 := ((ok_leaf1 hl).1 h).2.2.1.1; dsimp only at h9; omega, hb _⟩
        · have hvz : ¬ val.size = 0 := fun h => hv0 (tl_nil.2 h)
          go_wp2_with fail
          go_ret
          exact ⟨ok_no (by first | rfl | simp [hv0]) fun h => hvz ((ok_leaf1 hl).1 h).2.1, hb _⟩
set_option maxHeartbeats 4000000 in
set_option maxRecDepth 100000 in
theorem refcheck_any (n : PN) (v : Value) (w : World) (h : NodeN w Any v n) (hl : n.cells.length ≤ 1000000) :
    Calls Try.prog 14 #[v] w fun e w' => e = .returned (.bool n.chk) ∧ Below w.heap.size w w' := by
  obtain ⟨vc, vk, rfl, hc, hk⟩ := h
  obtain ⟨Ac, cc, rfl, -, -⟩ := hc.slice
  obtain ⟨Ak, ck, rfl, hkl, hkm⟩ := hk.slice
  unfold maxLen at hkm
  obtain ⟨w1, hw1⟩ : ∃ w1, w1 = w.alloc (.cells #[.bool n.leaf, .slice Ac n.cells.length cc, .slice Ak n.kids.length ck] 25) := ⟨_, rfl⟩
  have hb1 : Below w.heap.size w w1 := by rw [hw1]; exact (Below.refl _ _).alloc (Nat.le_refl _) _
  have hx1 : w1.heap[w.heap.size]? = some (.cells #[.bool n.leaf, .slice Ac n.cells.length cc, .slice Ak n.kids.length ck] 25 (0, 0)) := by rw [hw1]; exact heap_alloc_new w _
  have hl1 : w.heap.size < w1.heap.size := (Array.getElem?_eq_some_iff.1 hx1).1
  have hkeep : ∀ W, Below w1.heap.size w1 W → (W.cell? ⟨w.heap.size, 0, none⟩ = some (.bool n.leaf) ∧ W.cell? ⟨w.heap.size, 1, none⟩ = some (.slice Ac n.cells.length cc) ∧ W.cell? ⟨w.heap.size, 2, none⟩ = some (.slice Ak n.kids.length ck)) ∧ CsN W Any (.slice Ac n.cells.length cc) n.cells ∧ KsN W Any (.slice Ak n.kids.length ck) n.kids ∧ Below w.heap.size w W := fun W hW => by
    have e := (hW.block _ hl1).trans hx1
    have hbW := hb1.trans (Joins.below_le hW hb1.size)
    exact ⟨⟨(row_cells e).1 0, (row_cells e).1 1, (row_cells e).1 2⟩, hc.grow hbW, hk.grow hbW, hbW⟩
  have HKEEP := Lib.hid hkeep
  have HW1 := Lib.hid hw1
  clear hc hk hw1 hb1 hx1 hl1 hkeep
  go_enter Try.func14, Try.ntmps14
  go_upto_region 1 with fail
  rw [← HW1.out]
  go_wp2_with fail
  go_loopw [3] (fun s3 wr => ∃ i : Nat, s3 = .int .i64 (i : Int) ∧ i ≤ n.cells.length ∧ Hid (n.upto i) ∧ Hid (Below w1.heap.size w1 wr)) (fun s3 _ => n.cells.length - (intOf s3).toNat)
  case atStart => exact ⟨0, rfl, Nat.zero_le _, Lib.hid (fun j c hj => absurd hj (by omega)), Lib.hid (Below.refl _ _)⟩
  case round =>
    obtain ⟨i, rfl, hi, hup, hbw⟩ := hrel
    obtain ⟨wz, hwz⟩ : ∃ wz : World, wz = wr := ⟨_, rfl⟩
    subst hwz
    obtain ⟨⟨x0, x1, x2⟩, hcz, hkz, hbz⟩ := HKEEP.out _ hbw.out
    by_cases hil : i < n.cells.length
    · have a1 : (i : Int) < (n.cells.length : Int) := by omega
      have a0 : (0 : Int) ≤ (i : Int) := by omega
      obtain ⟨c, hci⟩ : ∃ c, n.cells[i]? = some c := ⟨_, List.getElem?_eq_getElem hil⟩
      obtain ⟨b, o, n', k', hv, -, hbs, c0, c1, c2, c3⟩ := hcz.cell hci
      injection hv with e1 e2 e3
      subst e1 e2 e3
      have cM := fun W => refcell_any c n.leaf W
      unfold PC.agg at cM
      obtain ⟨K, hK⟩ : ∃ K, K = decide (c.ok n.leaf) := ⟨_, rfl⟩
      rw [← hK] at cM
      have hS : ∀ W, Below wz.heap.size wz W → (W.cell? ⟨w.heap.size, 0, none⟩ = some (.bool n.leaf) ∧ W.cell? ⟨w.heap.size, 1, none⟩ = some (.slice (some ⟨b, o, none⟩) n.cells.length cc)) ∧ (W.cell? ⟨b, o + i * 4, none⟩ = some (.string c.key) ∧ W.cell? ⟨b, o + i * 4 + 1, none⟩ = some (.string c.val) ∧ W.cell? ⟨b, o + i * 4 + 2, none⟩ = some (.int .i64 c.long) ∧ W.cell? ⟨b, o + i * 4 + 3, none⟩ = some (.int .i64 c.size)) := fun W hW => by
        obtain ⟨⟨y0, y1, -⟩, -⟩ := HKEEP.out _ (hbw.out.trans (Joins.below_le hW hbw.out.size))
        exact ⟨⟨y0, y1⟩, (hW.cell (p := ⟨b, o + i * 4, none⟩) hbs).trans c0, (hW.cell (p := ⟨b, o + i * 4 + 1, none⟩) hbs).trans c1, (hW.cell (p := ⟨b, o + i * 4 + 2, none⟩) hbs).trans c2, (hW.cell (p := ⟨b, o + i * 4 + 3, none⟩) hbs).trans c3⟩
      have HS := Lib.hid hS
      have HKK := Lib.hid hK
      have hbe : Below wz.heap.size wz wz.drew := (Below.refl _ _).drew
      cases K with
      | false =>
        have hno : ¬ c.ok n.leaf := of_decide_eq_false HKK.out.symm
        have hst := HS.out _ hbe
        have HNO := Lib.hid (PN.chk_no (n := n) fun hm => hno (hm.1 i c hil hci).1)
        clear hS hK hcz hkz hbz hno hci c0 c1 c2 c3
        go_upto_region 4 with fail
        clear x0 x1 x2
        refine wp_region_held_drew (S := (fun W => (W.cell? ⟨w.heap.size, 0, none⟩ = some (.bool n.leaf) ∧ W.cell? ⟨w.heap.size, 1, none⟩ = some (.slice (some ⟨b, o, none⟩) n.cells.length cc)) ∧ (W.cell? ⟨b, o + i * 4, none⟩ = some (.string c.key) ∧ W.cell? ⟨b, o + i * 4 + 1, none⟩ = some (.string c.val) ∧ W.cell? ⟨b, o + i * 4 + 2, none⟩ = some (.int .i64 c.long) ∧ W.cell? ⟨b, o + i * 4 + 3, none⟩ = some (.int .i64 c.size)))) (by kernel_rfl) hst (fun hHeld => ?_)
        refine takeD (i := 0) (d := 12) (v := .pointer (some ⟨w.heap.size, 0, none⟩)) rfl rfl (by kernel_rfl) (by kernel_rfl) (by kernel_rfl) (fun _ _ _ h => h) (.inl ⟨by rfl, fun w hSw => by dsimp only at hSw; go_simp; try with_reducible rfl⟩) (by assumption) ?_
        simp only [Act.put, List.setIfInBounds_toArray, List.set_cons_zero, List.set_cons_succ]
        refine takeD (i := 1) (d := 13) (v := .bool n.leaf) rfl rfl (by kernel_rfl) (by kernel_rfl) (by kernel_rfl) (fun _ _ _ h => h) (.inl ⟨by rfl, fun w hSw => by dsimp only at hSw; go_simp; try with_reducible rfl⟩) (by assumption) ?_
        simp only [Act.put, List.setIfInBounds_toArray, List.set_cons_zero, List.set_cons_succ]
        refine takeD (i := 2) (d := 14) (v := .pointer (some ⟨w.heap.size, 1, none⟩)) rfl rfl (by kernel_rfl) (by kernel_rfl) (by kernel_rfl) (fun _ _ _ h => h) (.inl ⟨by rfl, fun w hSw => by dsimp only at hSw; go_simp; try with_reducible rfl⟩) (by assumption) ?_
        simp only [Act.put, List.setIfInBounds_toArray, List.set_cons_zero, List.set_cons_succ]
        refine takeD (i := 3) (d := 15) (v := .slice (some ⟨b, o, none⟩) n.cells.length cc) rfl rfl (by kernel_rfl) (by kernel_rfl) (by kernel_rfl) (fun _ _ _ h => h) (.inl ⟨by rfl, fun w hSw => by dsimp only at hSw; go_simp; try with_reducible rfl⟩) (by assumption) ?_
        simp only [Act.put, List.setIfInBounds_toArray, List.set_cons_zero, List.set_cons_succ]
        refine takeD (i := 4) (d := 16) (v := .int .i64 (i : Int)) rfl rfl (by kernel_rfl) (by kernel_rfl) (by kernel_rfl) (fun _ _ _ h => h) (.inl ⟨by rfl, fun w hSw => by dsimp only at hSw; go_simp; try with_reducible rfl⟩) (by assumption) ?_
        simp only [Act.put, List.setIfInBounds_toArray, List.set_cons_zero, List.set_cons_succ]
        refine takeD (i := 5) (d := 17) (v := .pointer (some ⟨b, o + i * 4, none⟩)) rfl rfl (by kernel_rfl) (by kernel_rfl) (by kernel_rfl) (fun _ _ _ h => h) (.inl ⟨by rfl, fun w hSw => by dsimp only at hSw; go_simp; try (intro h; exact absurd h (by omega))⟩) (by assumption) ?_
        simp only [Act.put, List.setIfInBounds_toArray, List.set_cons_zero, List.set_cons_succ]
        refine takeD (i := 6) (d := 18) (v := .agg #[.string c.key, .string c.val, .int .i64 c.long, .int .i64 c.size]) rfl rfl (by kernel_rfl) (by kernel_rfl) (by kernel_rfl) (fun _ _ _ h => h) (.inl ⟨by rfl, fun w hSw => by dsimp only at hSw; go_simp; try with_reducible rfl⟩) (by assumption) ?_
        simp only [Act.put, List.setIfInBounds_toArray, List.set_cons_zero, List.set_cons_succ]
        refine wpAnyH_ready (rs := [7]) (by kernel_rfl) (by simp) ?_
        refine AllReadyH.cons rfl (fun K hK => ?_) AllReadyH.nil
        rw [if_pos (by rfl)]
        go_simp
        go_at_call 37
        refine (cM _).mono ?_
        rintro e wy ⟨rfl, hby⟩
        replace hbe := hbe.trans (Joins.below_le hby hbe.size)
        have hst2 := HS.out _ hbe
        dsimp only
        refine hK.out _ _ hst2 (fun hHeld2 => ?_)
        try simp only [Act.put, List.setIfInBounds_toArray, List.set_cons_zero, List.set_cons_succ]
        refine takeD (i := 8) (d := 20) (v := .bool true) rfl rfl (by kernel_rfl) (by kernel_rfl) (by kernel_rfl) (fun _ _ _ h => h) (.inl ⟨by rfl, fun w hSw => by dsimp only at hSw; go_simp; try with_reducible rfl⟩) (by assumption) ?_
        simp only [Act.put, List.setIfInBounds_toArray, List.set_cons_zero, List.set_cons_succ]
        refine takeD (i := 9) (d := 21) (v := .bool true) rfl rfl (by kernel_rfl) (by kernel_rfl) (by kernel_rfl) (fun _ _ _ h => h) (.inl ⟨by rfl, fun w hSw => by dsimp only at hSw; go_simp; try with_reducible rfl⟩) (by assumption) ?_
        simp only [Act.put, List.setIfInBounds_toArray, List.set_cons_zero, List.set_cons_succ]
        refine takeD (i := 10) (d := 22) (v := undef) rfl rfl (by kernel_rfl) (by kernel_rfl) (by kernel_rfl) (fun _ _ _ h => h) (.inr ⟨by rfl, rfl⟩) (by assumption) ?_
        simp only [Act.put, List.setIfInBounds_toArray, List.set_cons_zero, List.set_cons_succ]
        refine takeD (i := 11) (d := 23) (v := undef) rfl rfl (by kernel_rfl) (by kernel_rfl) (by kernel_rfl) (fun _ _ _ h => h) (.inr ⟨by rfl, rfl⟩) (by assumption) ?_
        simp only [Act.put, List.setIfInBounds_toArray, List.set_cons_zero, List.set_cons_succ]
        refine takeD (i := 12) (d := 24) (v := undef) rfl rfl (by kernel_rfl) (by kernel_rfl) (by kernel_rfl) (fun _ _ _ h => h) (.inr ⟨by rfl, rfl⟩) (by assumption) ?_
        simp only [Act.put, List.setIfInBounds_toArray, List.set_cons_zero, List.set_cons_succ]
        refine takeD (i := 13) (d := 25) (v := undef) rfl rfl (by kernel_rfl) (by kernel_rfl) (by kernel_rfl) (fun _ _ _ h => h) (.inr ⟨by rfl, rfl⟩) (by assumption) ?_
        simp only [Act.put, List.setIfInBounds_toArray, List.set_cons_zero, List.set_cons_succ]
        refine takeD (i := 14) (d := 26) (v := undef) rfl rfl (by kernel_rfl) (by kernel_rfl) (by kernel_rfl) (fun _ _ _ h => h) (.inr ⟨by rfl, rfl⟩) (by assumption) ?_
        simp only [Act.put, List.setIfInBounds_toArray, List.set_cons_zero, List.set_cons_succ]
        refine takeD (i := 15) (d := 27) (v := undef) rfl rfl (by kernel_rfl) (by kernel_rfl) (by kernel_rfl) (fun _ _ _ h => h) (.inr ⟨by rfl, rfl⟩) (by assumption) ?_
        simp only [Act.put, List.setIfInBounds_toArray, List.set_cons_zero, List.set_cons_succ]
        refine takeD (i := 16) (d := 28) (v := undef) rfl rfl (by kernel_rfl) (by kernel_rfl) (by kernel_rfl) (fun _ _ _ h => h) (.inr ⟨by rfl, rfl⟩) (by assumption) ?_
        simp only [Act.put, List.setIfInBounds_toArray, List.set_cons_zero, List.set_cons_succ]
        refine takeD (i := 17) (d := 29) (v := undef) rfl rfl (by kernel_rfl) (by kernel_rfl) (by kernel_rfl) (fun _ _ _ h => h) (.inr ⟨by rfl, rfl⟩) (by assumption) ?_
        simp only [Act.put, List.setIfInBounds_toArray, List.set_cons_zero, List.set_cons_succ]
        refine takeD (i := 18) (d := 30) (v := undef) rfl rfl (by kernel_rfl) (by kernel_rfl) (by kernel_rfl) (fun _ _ _ h => h) (.inr ⟨by rfl, rfl⟩) (by assumption) ?_
        simp only [Act.put, List.setIfInBounds_toArray, List.set_cons_zero, List.set_cons_succ]
        refine takeD (i := 19) (d := 31) (v := undef) rfl rfl (by kernel_rfl) (by kernel_rfl) (by kernel_rfl) (fun _ _ _ h => h) (.inr ⟨by rfl, rfl⟩) (by assumption) ?_
        simp only [Act.put, List.setIfInBounds_toArray, List.set_cons_zero, List.set_cons_succ]
        refine takeD (i := 20) (d := 32) (v := undef) rfl rfl (by kernel_rfl) (by kernel_rfl) (by kernel_rfl) (fun _ _ _ h => h) (.inr ⟨by rfl, rfl⟩) (by assumption) ?_
        simp only [Act.put, List.setIfInBounds_toArray, List.set_cons_zero, List.set_cons_succ]
        refine takeD (i := 21) (d := 33) (v := undef) rfl rfl (by kernel_rfl) (by kernel_rfl) (by kernel_rfl) (fun _ _ _ h => h) (.inr ⟨by rfl, rfl⟩) (by assumption) ?_
        simp only [Act.put, List.setIfInBounds_toArray, List.set_cons_zero, List.set_cons_succ]
        refine takeD (i := 22) (d := 34) (v := undef) rfl rfl (by kernel_rfl) (by kernel_rfl) (by kernel_rfl) (fun _ _ _ h => h) (.inr ⟨by rfl, rfl⟩) (by assumption) ?_
        simp only [Act.put, List.setIfInBounds_toArray, List.set_cons_zero, List.set_cons_succ]
        refine takeD (i := 23) (d := 35) (v := undef) rfl rfl (by kernel_rfl) (by kernel_rfl) (by kernel_rfl) (fun _ _ _ h => h) (.inr ⟨by rfl, rfl⟩) (by assumption) ?_
        simp only [Act.put, List.setIfInBounds_toArray, List.set_cons_zero, List.set_cons_succ]
        refine takeD (i := 24) (d := 36) (v := undef) rfl rfl (by kernel_rfl) (by kernel_rfl) (by kernel_rfl) (fun _ _ _ h => h) (.inr ⟨by rfl, rfl⟩) (by assumption) ?_
        simp only [Act.put, List.setIfInBounds_toArray, List.set_cons_zero, List.set_cons_succ]
        refine takeD (i := 25) (d := 37) (v := undef) rfl rfl (by kernel_rfl) (by kernel_rfl) (by kernel_rfl) (fun _ _ _ h => h) (.inr ⟨by rfl, rfl⟩) (by assumption) ?_
        simp only [Act.put, List.setIfInBounds_toArray, List.set_cons_zero, List.set_cons_succ]
        refine takeD (i := 26) (d := 38) (v := undef) rfl rfl (by kernel_rfl) (by kernel_rfl) (by kernel_rfl) (fun _ _ _ h => h) (.inr ⟨by rfl, rfl⟩) (by assumption) ?_
        simp only [Act.put, List.setIfInBounds_toArray, List.set_cons_zero, List.set_cons_succ]
        refine takeD (i := 27) (d := 39) (v := undef) rfl rfl (by kernel_rfl) (by kernel_rfl) (by kernel_rfl) (fun _ _ _ h => h) (.inr ⟨by rfl, rfl⟩) (by assumption) ?_
        simp only [Act.put, List.setIfInBounds_toArray, List.set_cons_zero, List.set_cons_succ]
        refine takeD (i := 28) (d := 40) (v := .bool true) rfl rfl (by kernel_rfl) (by kernel_rfl) (by kernel_rfl) (fun _ _ _ h => h) (.inl ⟨by rfl, fun w hSw => by dsimp only at hSw; go_simp; try with_reducible rfl⟩) (by assumption) ?_
        simp only [Act.put, List.setIfInBounds_toArray, List.set_cons_zero, List.set_cons_succ]
        refine wpAnyH_done (by kernel_rfl) ?_ _
        clear hby hst2
        have HF := Lib.hid (HKEEP.out _ (hbw.out.trans (Joins.below_le hbe hbw.out.size))).2.2.2
        clear hbe hst HS
        go_wp2_with fail
        go_ret
        exact ⟨ret_bool HNO.out.symm, HF.out⟩
      | true =>
        have hok : c.ok n.leaf := of_decide_eq_true HKK.out.symm
        by_cases hi0 : i = 0
        · have hst := HS.out _ hbe
          have HUP := Lib.hid (upto_succ hup.out hci hok (fun p h0 => absurd h0 (by omega)))
          have n0 : ¬ (0 : Int) < (i : Int) := by omega
          have n0' : ¬ 0 < i := by omega
          have HI0 := Lib.hid hi0
          clear hS hK hcz hkz hbz hok hci c0 c1 c2 c3 hi0
          go_upto_region 4 with fail
          clear x0 x1 x2
          refine wp_region_held_drew (S := (fun W => (W.cell? ⟨w.heap.size, 0, none⟩ = some (.bool n.leaf) ∧ W.cell? ⟨w.heap.size, 1, none⟩ = some (.slice (some ⟨b, o, none⟩) n.cells.length cc)) ∧ (W.cell? ⟨b, o + i * 4, none⟩ = some (.string c.key) ∧ W.cell? ⟨b, o + i * 4 + 1, none⟩ = some (.string c.val) ∧ W.cell? ⟨b, o + i * 4 + 2, none⟩ = some (.int .i64 c.long) ∧ W.cell? ⟨b, o + i * 4 + 3, none⟩ = some (.int .i64 c.size)))) (by kernel_rfl) hst (fun hHeld => ?_)
          refine takeD (i := 0) (d := 12) (v := .pointer (some ⟨w.heap.size, 0, none⟩)) rfl rfl (by kernel_rfl) (by kernel_rfl) (by kernel_rfl) (fun _ _ _ h => h) (.inl ⟨by rfl, fun w hSw => by dsimp only at hSw; go_simp; try with_reducible rfl⟩) (by assumption) ?_
          simp only [Act.put, List.setIfInBounds_toArray, List.set_cons_zero, List.set_cons_succ]
          refine takeD (i := 1) (d := 13) (v := .bool n.leaf) rfl rfl (by kernel_rfl) (by kernel_rfl) (by kernel_rfl) (fun _ _ _ h => h) (.inl ⟨by rfl, fun w hSw => by dsimp only at hSw; go_simp; try with_reducible rfl⟩) (by assumption) ?_
          simp only [Act.put, List.setIfInBounds_toArray, List.set_cons_zero, List.set_cons_succ]
          refine takeD (i := 2) (d := 14) (v := .pointer (some ⟨w.heap.size, 1, none⟩)) rfl rfl (by kernel_rfl) (by kernel_rfl) (by kernel_rfl) (fun _ _ _ h => h) (.inl ⟨by rfl, fun w hSw => by dsimp only at hSw; go_simp; try with_reducible rfl⟩) (by assumption) ?_
          simp only [Act.put, List.setIfInBounds_toArray, List.set_cons_zero, List.set_cons_succ]
          refine takeD (i := 3) (d := 15) (v := .slice (some ⟨b, o, none⟩) n.cells.length cc) rfl rfl (by kernel_rfl) (by kernel_rfl) (by kernel_rfl) (fun _ _ _ h => h) (.inl ⟨by rfl, fun w hSw => by dsimp only at hSw; go_simp; try with_reducible rfl⟩) (by assumption) ?_
          simp only [Act.put, List.setIfInBounds_toArray, List.set_cons_zero, List.set_cons_succ]
          refine takeD (i := 4) (d := 16) (v := .int .i64 (i : Int)) rfl rfl (by kernel_rfl) (by kernel_rfl) (by kernel_rfl) (fun _ _ _ h => h) (.inl ⟨by rfl, fun w hSw => by dsimp only at hSw; go_simp; try with_reducible rfl⟩) (by assumption) ?_
          simp only [Act.put, List.setIfInBounds_toArray, List.set_cons_zero, List.set_cons_succ]
          refine takeD (i := 5) (d := 17) (v := .pointer (some ⟨b, o + i * 4, none⟩)) rfl rfl (by kernel_rfl) (by kernel_rfl) (by kernel_rfl) (fun _ _ _ h => h) (.inl ⟨by rfl, fun w hSw => by dsimp only at hSw; go_simp; try (intro h; exact absurd h (by omega))⟩) (by assumption) ?_
          simp only [Act.put, List.setIfInBounds_toArray, List.set_cons_zero, List.set_cons_succ]
          refine takeD (i := 6) (d := 18) (v := .agg #[.string c.key, .string c.val, .int .i64 c.long, .int .i64 c.size]) rfl rfl (by kernel_rfl) (by kernel_rfl) (by kernel_rfl) (fun _ _ _ h => h) (.inl ⟨by rfl, fun w hSw => by dsimp only at hSw; go_simp; try with_reducible rfl⟩) (by assumption) ?_
          simp only [Act.put, List.setIfInBounds_toArray, List.set_cons_zero, List.set_cons_succ]
          refine wpAnyH_ready (rs := [7]) (by kernel_rfl) (by simp) ?_
          refine AllReadyH.cons rfl (fun K hK => ?_) AllReadyH.nil
          rw [if_pos (by rfl)]
          go_simp
          go_at_call 37
          refine (cM _).mono ?_
          rintro e wy ⟨rfl, hby⟩
          replace hbe := hbe.trans (Joins.below_le hby hbe.size)
          have hst2 := HS.out _ hbe
          dsimp only
          refine hK.out _ _ hst2 (fun hHeld2 => ?_)
          try simp only [Act.put, List.setIfInBounds_toArray, List.set_cons_zero, List.set_cons_succ]
          refine takeD (i := 8) (d := 20) (v := .bool false) rfl rfl (by kernel_rfl) (by kernel_rfl) (by kernel_rfl) (fun _ _ _ h => h) (.inl ⟨by rfl, fun w hSw => by dsimp only at hSw; go_simp; try with_reducible rfl⟩) (by assumption) ?_
          simp only [Act.put, List.setIfInBounds_toArray, List.set_cons_zero, List.set_cons_succ]
          refine takeD (i := 9) (d := 21) (v := .bool false) rfl rfl (by kernel_rfl) (by kernel_rfl) (by kernel_rfl) (fun _ _ _ h => h) (.inl ⟨by rfl, fun w hSw => by dsimp only at hSw; go_simp; try with_reducible rfl⟩) (by assumption) ?_
          simp only [Act.put, List.setIfInBounds_toArray, List.set_cons_zero, List.set_cons_succ]
          refine takeD (i := 10) (d := 22) (v := .int .i64 (i : Int)) rfl rfl (by kernel_rfl) (by kernel_rfl) (by kernel_rfl) (fun _ _ _ h => h) (.inl ⟨by rfl, fun w hSw => by dsimp only at hSw; go_simp; try with_reducible rfl⟩) (by assumption) ?_
          simp only [Act.put, List.setIfInBounds_toArray, List.set_cons_zero, List.set_cons_succ]
          refine takeD (i := 11) (d := 23) (v := .bool false) rfl rfl (by kernel_rfl) (by kernel_rfl) (by kernel_rfl) (fun _ _ _ h => h) (.inl ⟨by rfl, fun w hSw => by dsimp only at hSw; go_simp; try omega⟩) (by assumption) ?_
          simp only [Act.put, List.setIfInBounds_toArray, List.set_cons_zero, List.set_cons_succ]
          refine takeD (i := 12) (d := 24) (v := .bool false) rfl rfl (by kernel_rfl) (by kernel_rfl) (by kernel_rfl) (fun _ _ _ h => h) (.inl ⟨by rfl, fun w hSw => by dsimp only at hSw; go_simp; try with_reducible rfl⟩) (by assumption) ?_
          simp only [Act.put, List.setIfInBounds_toArray, List.set_cons_zero, List.set_cons_succ]
          refine takeD (i := 13) (d := 25) (v := undef) rfl rfl (by kernel_rfl) (by kernel_rfl) (by kernel_rfl) (fun _ _ _ h => h) (.inr ⟨by rfl, rfl⟩) (by assumption) ?_
          simp only [Act.put, List.setIfInBounds_toArray, List.set_cons_zero, List.set_cons_succ]
          refine takeD (i := 14) (d := 26) (v := undef) rfl rfl (by kernel_rfl) (by kernel_rfl) (by kernel_rfl) (fun _ _ _ h => h) (.inr ⟨by rfl, rfl⟩) (by assumption) ?_
          simp only [Act.put, List.setIfInBounds_toArray, List.set_cons_zero, List.set_cons_succ]
          refine takeD (i := 15) (d := 27) (v := undef) rfl rfl (by kernel_rfl) (by kernel_rfl) (by kernel_rfl) (fun _ _ _ h => h) (.inr ⟨by rfl, rfl⟩) (by assumption) ?_
          simp only [Act.put, List.setIfInBounds_toArray, List.set_cons_zero, List.set_cons_succ]
          refine takeD (i := 16) (d := 28) (v := undef) rfl rfl (by kernel_rfl) (by kernel_rfl) (by kernel_rfl) (fun _ _ _ h => h) (.inr ⟨by rfl, rfl⟩) (by assumption) ?_
          simp only [Act.put, List.setIfInBounds_toArray, List.set_cons_zero, List.set_cons_succ]
          refine takeD (i := 17) (d := 29) (v := undef) rfl rfl (by kernel_rfl) (by kernel_rfl) (by kernel_rfl) (fun _ _ _ h => h) (.inr ⟨by rfl, rfl⟩) (by assumption) ?_
          simp only [Act.put, List.setIfInBounds_toArray, List.set_cons_zero, List.set_cons_succ]
          refine takeD (i := 18) (d := 30) (v := undef) rfl rfl (by kernel_rfl) (by kernel_rfl) (by kernel_rfl) (fun _ _ _ h => h) (.inr ⟨by rfl, rfl⟩) (by assumption) ?_
          simp only [Act.put, List.setIfInBounds_toArray, List.set_cons_zero, List.set_cons_succ]
          refine takeD (i := 19) (d := 31) (v := undef) rfl rfl (by kernel_rfl) (by kernel_rfl) (by kernel_rfl) (fun _ _ _ h => h) (.inr ⟨by rfl, rfl⟩) (by assumption) ?_
          simp only [Act.put, List.setIfInBounds_toArray, List.set_cons_zero, List.set_cons_succ]
          refine takeD (i := 20) (d := 32) (v := undef) rfl rfl (by kernel_rfl) (by kernel_rfl) (by kernel_rfl) (fun _ _ _ h => h) (.inr ⟨by rfl, rfl⟩) (by assumption) ?_
          simp only [Act.put, List.setIfInBounds_toArray, List.set_cons_zero, List.set_cons_succ]
          refine takeD (i := 21) (d := 33) (v := undef) rfl rfl (by kernel_rfl) (by kernel_rfl) (by kernel_rfl) (fun _ _ _ h => h) (.inr ⟨by rfl, rfl⟩) (by assumption) ?_
          simp only [Act.put, List.setIfInBounds_toArray, List.set_cons_zero, List.set_cons_succ]
          refine takeD (i := 22) (d := 34) (v := undef) rfl rfl (by kernel_rfl) (by kernel_rfl) (by kernel_rfl) (fun _ _ _ h => h) (.inr ⟨by rfl, rfl⟩) (by assumption) ?_
          simp only [Act.put, List.setIfInBounds_toArray, List.set_cons_zero, List.set_cons_succ]
          refine takeD (i := 23) (d := 35) (v := undef) rfl rfl (by kernel_rfl) (by kernel_rfl) (by kernel_rfl) (fun _ _ _ h => h) (.inr ⟨by rfl, rfl⟩) (by assumption) ?_
          simp only [Act.put, List.setIfInBounds_toArray, List.set_cons_zero, List.set_cons_succ]
          refine takeD (i := 24) (d := 36) (v := undef) rfl rfl (by kernel_rfl) (by kernel_rfl) (by kernel_rfl) (fun _ _ _ h => h) (.inr ⟨by rfl, rfl⟩) (by assumption) ?_
          simp only [Act.put, List.setIfInBounds_toArray, List.set_cons_zero, List.set_cons_succ]
          refine takeD (i := 25) (d := 37) (v := undef) rfl rfl (by kernel_rfl) (by kernel_rfl) (by kernel_rfl) (fun _ _ _ h => h) (.inr ⟨by rfl, rfl⟩) (by assumption) ?_
          simp only [Act.put, List.setIfInBounds_toArray, List.set_cons_zero, List.set_cons_succ]
          refine takeD (i := 26) (d := 38) (v := undef) rfl rfl (by kernel_rfl) (by kernel_rfl) (by kernel_rfl) (fun _ _ _ h => h) (.inr ⟨by rfl, rfl⟩) (by assumption) ?_
          simp only [Act.put, List.setIfInBounds_toArray, List.set_cons_zero, List.set_cons_succ]
          refine takeD (i := 27) (d := 39) (v := .bool false) rfl rfl (by kernel_rfl) (by kernel_rfl) (by kernel_rfl) (fun _ _ _ h => h) (.inl ⟨by rfl, fun w hSw => by dsimp only at hSw; go_simp; try with_reducible rfl⟩) (by assumption) ?_
          simp only [Act.put, List.setIfInBounds_toArray, List.set_cons_zero, List.set_cons_succ]
          refine takeD (i := 28) (d := 40) (v := .bool false) rfl rfl (by kernel_rfl) (by kernel_rfl) (by kernel_rfl) (fun _ _ _ h => h) (.inl ⟨by rfl, fun w hSw => by dsimp only at hSw; go_simp; try with_reducible rfl⟩) (by assumption) ?_
          simp only [Act.put, List.setIfInBounds_toArray, List.set_cons_zero, List.set_cons_succ]
          refine wpAnyH_done (by kernel_rfl) ?_ _
          clear hby hst2
          have HBN := Lib.hid (hbw.out.trans (Joins.below_le hbe hbw.out.size))
          clear hbe hst HS hbw
          go_wp2_with fail
          exact ⟨⟨i + 1, by go_num, hil, HUP, HBN⟩, by simp [intOf]; omega⟩
        · obtain ⟨m, hm⟩ : ∃ m, i = m + 1 := ⟨i - 1, by omega⟩
          obtain ⟨p, hpi⟩ : ∃ p, n.cells[m]? = some p := ⟨_, List.getElem?_eq_getElem (by omega)⟩
          obtain ⟨b', o', n', k', hv, -, hbs', p0, -, -, -⟩ := hcz.cell hpi
          injection hv with e1 e2 e3
          injection e1 with e1
          injection e1 with e1 e4 e5
          subst e1 e4 e2 e3
          clear e5
          have hS2 : ∀ W, Below wz.heap.size wz W → (W.cell? ⟨w.heap.size, 0, none⟩ = some (.bool n.leaf) ∧ W.cell? ⟨w.heap.size, 1, none⟩ = some (.slice (some ⟨b, o, none⟩) n.cells.length cc)) ∧ (W.cell? ⟨b, o + i * 4, none⟩ = some (.string c.key) ∧ W.cell? ⟨b, o + i * 4 + 1, none⟩ = some (.string c.val) ∧ W.cell? ⟨b, o + i * 4 + 2, none⟩ = some (.int .i64 c.long) ∧ W.cell? ⟨b, o + i * 4 + 3, none⟩ = some (.int .i64 c.size)) ∧ W.cell? ⟨b, o + m * 4, none⟩ = some (.string p.key) := fun W hW => by
            obtain ⟨q1, q2⟩ := hS W hW
            exact ⟨q1, q2, (hW.cell (p := ⟨b, o + m * 4, none⟩) hbs).trans p0⟩
          have HS2 := Lib.hid hS2
          have hst := HS2.out _ hbe
          obtain ⟨Kq, hKe⟩ : ∃ Kq, Kq = kLt p.key c.key := ⟨_, rfl⟩
          have hKe2 : Op.bytesLess p.key.toList c.key.toList = Kq := hKe.symm
          have hip : (i : Int) - 1 = (m : Int) := by omega
          have hw1 : wrap64 (m : Int) = (m : Int) := by unfold wrap64; omega
          have hw2 : IntKind.i64.wrap (m : Int) = (m : Int) := by rw [IntKind.wrap_i64]; omega
          have hi1 : (0 : Int) < (i : Int) := by omega
          have hi2 : 0 < i := by omega
          have hm0 : (0 : Int) ≤ (m : Int) := by omega
          have hm1 : (m : Int) < (n.cells.length : Int) := by omega
          have HNEXT : Hid ((Kq = true → n.upto (i + 1)) ∧ (Kq = false → n.chk = false)) := Lib.hid ⟨fun hq => upto_succ hup.out hci hok (fun p' _ hp' => by
              rw [show i - 1 = m by omega, hpi] at hp'
              injection hp' with hp'
              subst hp'
              rw [← hKe, hq]), fun hq => PN.chk_no fun hmay => by
              have := (hmay.1 i c hil hci).2 p (by omega) (by rw [show i - 1 = m by omega]; exact hpi)
              rw [← hKe, hq] at this
              exact Bool.noConfusion this⟩
          have HM := Lib.hid hm
          clear hS hS2 hK hcz hkz hbz hok hci c0 c1 c2 c3 p0 hpi hKe hup hm hi0
          cases Kq with
          | true =>
            go_upto_region 4 with fail
            clear x0 x1 x2
            go_region_held3 (fun W => (W.cell? ⟨w.heap.size, 0, none⟩ = some (.bool n.leaf) ∧ W.cell? ⟨w.heap.size, 1, none⟩ = some (.slice (some ⟨b, o, none⟩) n.cells.length cc)) ∧ (W.cell? ⟨b, o + i * 4, none⟩ = some (.string c.key) ∧ W.cell? ⟨b, o + i * 4 + 1, none⟩ = some (.string c.val) ∧ W.cell? ⟨b, o + i * 4 + 2, none⟩ = some (.int .i64 c.long) ∧ W.cell? ⟨b, o + i * 4 + 3, none⟩ = some (.int .i64 c.size)) ∧ W.cell? ⟨b, o + m * 4, none⟩ = some (.string p.key)) (first | with_reducible exact hst | exact HS2.out _ hbe)
              (first | (go_at_call 37; refine (cM _).mono ?_; rintro e wy ⟨rfl, hby⟩; replace hbe := hbe.trans (Joins.below_le hby hbe.size); clear hby))
            have HBN := Lib.hid (hbw.out.trans (Joins.below_le hbe hbw.out.size))
            have HUP := Lib.hid (HNEXT.out.1 (by simp))
            clear hbe hst HS HS2 hbw
            go_wp2_with fail
            exact ⟨⟨i + 1, by go_num, hil, HUP, HBN⟩, by simp [intOf]; omega⟩
          | false =>
            go_upto_region 4 with fail
            clear x0 x1 x2
            go_region_held3 (fun W => (W.cell? ⟨w.heap.size, 0, none⟩ = some (.bool n.leaf) ∧ W.cell? ⟨w.heap.size, 1, none⟩ = some (.slice (some ⟨b, o, none⟩) n.cells.length cc)) ∧ (W.cell? ⟨b, o + i * 4, none⟩ = some (.string c.key) ∧ W.cell? ⟨b, o + i * 4 + 1, none⟩ = some (.string c.val) ∧ W.cell? ⟨b, o + i * 4 + 2, none⟩ = some (.int .i64 c.long) ∧ W.cell? ⟨b, o + i * 4 + 3, none⟩ = some (.int .i64 c.size)) ∧ W.cell? ⟨b, o + m * 4, none⟩ = some (.string p.key)) (first | with_reducible exact hst | exact HS2.out _ hbe)
              (first | (go_at_call 37; refine (cM _).mono ?_; rintro e wy ⟨rfl, hby⟩; replace hbe := hbe.trans (Joins.below_le hby hbe.size); clear hby))
            have HF := Lib.hid (HKEEP.out _ (hbw.out.trans (Joins.below_le hbe hbw.out.size))).2.2.2
            have HNO := Lib.hid (HNEXT.out.2 (by simp))
            clear hbe hst HS HS2
            go_wp2_with fail
            go_ret
            exact ⟨ret_bool HNO.out.symm, HF.out⟩
    · have a1 : ¬ (i : Int) < (n.cells.length : Int) := by omega
      have hie : i = n.cells.length := by omega
      have hup' : n.upto n.cells.length := hie ▸ hup.out
      have HUP := Lib.hid hup'
      have HBW := Lib.hid hbw.out
      clear hup hup' hie hcz hkz hbz hbw
      go_wp2_with fail
      go_loopw [4] (fun s4 wr => ∃ j : Nat, s4 = .int .i64 (j : Int) ∧ j ≤ n.kids.length ∧ Hid (∀ (m : Nat) (k : Int), m < j → n.kids[m]? = some k → isCnt k 0 = true) ∧ Hid (Below w1.heap.size w1 wr)) (fun s4 _ => n.kids.length - (intOf s4).toNat)
      case atStart => exact ⟨0, rfl, Nat.zero_le _, Lib.hid (fun m k hm => absurd hm (by omega)), HBW⟩
      case round =>
        clear HBW x0 x1 x2
        obtain ⟨j, rfl, hj, hks, hbw⟩ := hrel
        obtain ⟨wv, hwv⟩ : ∃ wv : World, wv = wr := ⟨_, rfl⟩
        subst hwv
        obtain ⟨⟨x0, x1, x2⟩, hcz, hkz, hbz⟩ := HKEEP.out _ hbw.out
        by_cases hjl : j < n.kids.length
        · have b1 : (j : Int) < (n.kids.length : Int) := by omega
          have b0 : (0 : Int) ≤ (j : Int) := by omega
          obtain ⟨k, hkj⟩ : ∃ k, n.kids[j]? = some k := ⟨_, List.getElem?_eq_getElem hjl⟩
          obtain ⟨b, o, n', k', hv, -, hbs, c0⟩ := hkz.cell hkj
          injection hv with e1 e2 e3
          subst e1 e2 e3
          have HBZ := Lib.hid hbz
          by_cases hik : isCnt k 0 = true
          · have hkk : (0 ≤ k) ∧ k ≤ 2147483647 := by unfold isCnt at hik; simpa using hik
            obtain ⟨hk0, hk1⟩ := hkk
            have n1 : ¬ k < 0 := by omega
            have n2 : ¬ (2147483647 : Int) < k := by omega
            have HKS : Hid (∀ (m : Nat) (k : Int), m < j + 1 → n.kids[m]? = some k → isCnt k 0 = true) := Lib.hid fun m k' hm hk' => by
              by_cases hmj : m < j
              · exact hks.out m k' hmj hk'
              · have : m = j := by omega
                subst this
                rw [hkj] at hk'
                injection hk' with hk'
                subst hk'
                exact hik
            clear hks hkj hcz hkz hbz hik
            go_wp2_with fail
            exact ⟨⟨j + 1, by go_num, hjl, HKS, Lib.hid hbw.out⟩, by simp [intOf]; omega⟩
          · have HNO := Lib.hid (PN.chk_no (n := n) fun hm => hik (hm.2.1 k (List.mem_of_getElem? hkj)))
            by_cases n1 : k < 0
            · clear hks hkj hcz hkz hbz hik
              go_wp2_with fail
              go_ret
              exact ⟨ret_bool HNO.out.symm, HBZ.out⟩
            · have n2 : (2147483647 : Int) < k := by
                apply Classical.byContradiction
                intro hn
                exact hik (by unfold isCnt; simp; omega)
              clear hks hkj hcz hkz hbz hik
              go_wp2_with fail
              go_ret
              exact ⟨ret_bool HNO.out.symm, HBZ.out⟩
        · have b1 : ¬ (j : Int) < (n.kids.length : Int) := by omega
          have hall : ∀ k ∈ n.kids, isCnt k 0 = true := fun k hk => by
            obtain ⟨m, hm, rfl⟩ := List.getElem_of_mem hk
            exact hks.out m _ (by omega) (List.getElem?_eq_getElem hm)
          have HALL := Lib.hid hall
          have HBZ := Lib.hid hbz
          clear hks hall hcz hkz hbz
          cases hlf : n.leaf with
          | true =>
            rw [hlf] at x0
            go_wp2_with fail
            go_ret
            refine ⟨ret_bool ?_, HBZ.out⟩
            by_cases h0 : n.kids.length = 0
            · rw [PN.chk_yes ⟨HUP.out, HALL.out, by rw [hlf]; exact h0⟩]
              simp [h0]
            · rw [PN.chk_no fun hm => h0 (by have := hm.2.2; rw [hlf] at this; exact this)]
              simpa using h0
          | false =>
            rw [hlf] at x0
            go_wp2_with fail
            go_ret
            refine ⟨ret_bool ?_, HBZ.out⟩
            by_cases h0 : n.kids.length = n.cells.length + 1
            · rw [PN.chk_yes ⟨HUP.out, HALL.out, by rw [hlf]; exact h0⟩]
              simp [h0]
            · rw [PN.chk_no fun hm => h0 (by have := hm.2.2; rw [hlf] at this; exact this)]
              simp
              omega
end Go.Proofs.Ytedcknlafkokkaa
