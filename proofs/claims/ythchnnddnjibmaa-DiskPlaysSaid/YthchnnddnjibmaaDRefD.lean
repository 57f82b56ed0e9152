/-
  The document's own disk: Fuse, Reopen. Conditions: none but that it lies in memory and its lists are not too long.
-/
import Derived.Test.YthchnnddnjibmaaDRefC
namespace Go.Proofs.Ythchnnddnjibmaa
open Go.RowKit

/-- a new row of no elements -/
theorem empty_row (w : World) (e : TypeId) (size base : Nat) (h : base ≤ w.heap.size) : (w.alloc (.cells #[] e)).ownsRow base e size (.slice (some ⟨w.heap.size, 0, none⟩) 0 0) 0 [] := World.ownsRow_lit w #[] 0 h (by unfold maxLen; omega) (by simp)
theorem KS_one (l : List Bool) : ∀ u ∈ KS l, u.oneCell' = true := by
  intro u hu
  obtain ⟨b, _, rfl⟩ := List.mem_map.1 hu
  rfl
theorem SS_one (l : List (List UInt8)) : ∀ u ∈ SS l, u.oneCell' = true := by
  intro u hu
  obtain ⟨b, _, rfl⟩ := List.mem_map.1 hu
  rfl
theorem KS_length (l : List Bool) : (KS l).length = l.length := by simp [KS]
theorem SS_length (l : List (List UInt8)) : (SS l).length = l.length := by simp [SS]

set_option maxHeartbeats 2000000 in
theorem xFuse_any (F : Nat → Prop) (p : Nat) (D : DS) (k : Int) (vks : Value) (ks : List Bool) (w : World) (h : XD w F p D) (hks : RowAt w vks ks.length 1 (KS ks)) (hne : 0 < ks.length → ∀ b, vks.ownBlock = some b → ¬ F b) (hkl : ks.length ≤ 140737488355328) (hk63 : k ≤ 9223372036854775807) :
    Calls Try.prog 29 #[.pointer (some ⟨p, 0, none⟩), .int .i64 k, vks] w fun e w' => e = .returned (.int .i64 (D.lit k ks).1) ∧ Kept w w' F ∧ XD w' (More F w w') p (D.lit k ks).2 := by
  obtain ⟨vl, vw, vk, left, h⟩ := h
  obtain ⟨hc, hz⟩ := row7 h.cells
  have c3 : w.cell? ⟨p, 3, none⟩ = some (.bool D.dead) := hc 3
  cases hdead : D.dead with
  | true =>
    rw [hdead] at c3
    have hR : D.lit k ks = (20, D) := by unfold DS.lit; rw [hdead]; rfl
    rw [hR]
    have H := Lib.hid h
    obtain ⟨Ak, ck, rfl, -⟩ := hks
    clear hdead hR h hc hz hne
    go_enter Try.func29, Try.ntmps29
    go_wp2_with fail
    go_ret
    exact ⟨rfl, Kept.refl _ _, _, _, _, _, H.out.mono More.here⟩
  | false =>
    rw [hdead] at c3
    by_cases hk0 : k < 0
    · have hR : D.lit k ks = (1, D) := by unfold DS.lit; rw [hdead, if_pos hk0]; rfl
      rw [hR]
      have H := Lib.hid h
      obtain ⟨Ak, ck, rfl, -⟩ := hks
      clear hdead hR h hc hz hne
      go_enter Try.func29, Try.ntmps29
      go_wp2_with fail
      go_ret
      exact ⟨rfl, Kept.refl _ _, _, _, _, _, H.out.mono More.here⟩
    · have hR : D.lit k ks = (0, { D with fuse := some k.toNat, keep := ks }) := by unfold DS.lit; rw [hdead, if_neg hk0]; rfl
      rw [hR]
      have c4 : w.cell? ⟨p, 4, none⟩ = some (.bool D.fuse.isSome) := hc 4
      have c5 : w.cell? ⟨p, 5, none⟩ = some (.int .i64 left) := hc 5
      have z4 := hz 4
      have z5 := hz 5
      obtain ⟨i0, hi0, hz0, hz1, hz2⟩ := info_parts info_B
      have hp := h.inF
      have hps := h.lt
      have hcells := Joins.block_setCell (i := 5) (Joins.block_setCell (i := 4) h.cells (.bool true)) (.int .i64 k)
      have hk1 : Kept w ((w.setCell ⟨p, 4, none⟩ (.bool true)).setCell ⟨p, 5, none⟩ (.int .i64 k)) (fun n => n = p) := (Kept.setCell w ⟨p, 4, none⟩ (.bool true) (fun n => n = p) rfl).trans (Kept.setCell _ ⟨p, 5, none⟩ (.int .i64 k) (fun n => n = p) rfl) (fun _ h => .inl h)
      obtain ⟨w1, hw1⟩ : ∃ w1, w1 = (w.setCell ⟨p, 4, none⟩ (.bool true)).setCell ⟨p, 5, none⟩ (.int .i64 k) := ⟨_, rfl⟩
      rw [← hw1] at hcells hk1
      have hz1' : w1.heap.size = w.heap.size := by rw [hw1]; simp
      have hks1 : RowAt (w1.alloc (.cells #[] 4)) vks ks.length 1 (KS ks) := by
        rcases Nat.eq_zero_or_pos ks.length with hn0 | hn0
        · obtain ⟨A, cc, rfl, h1, h2, h3, h4, _⟩ := hks
          exact ⟨A, cc, rfl, h1, h2, h3, h4, fun hn => absurd hn (by omega)⟩
        · cases hvb : vks.ownBlock with
          | none => exact hks.kept fun b hb => by rw [hvb] at hb; cases hb
          | some q =>
            by_cases hq : q < w.heap.size
            · refine hks.kept fun b hb => ?_
              rw [hvb] at hb
              injection hb with hb
              subst hb
              exact (Below.heap_alloc w1 _ q (by omega)).trans (hk1.block q hq (fun e => hne hn0 q hvb (by rw [e]; exact hp)))
            · obtain ⟨A, cc, rfl, h1, h2, h3, h4, h5⟩ := hks
              refine ⟨A, cc, rfl, h1, h2, h3, h4, fun hn => ?_⟩
              obtain ⟨b, o, rfl, hcc⟩ := h5 hn
              have hl : 0 < (KS ks).length := by rw [KS_length]; exact hn
              have := World.block_lt_of_cell? w _ (hcc 0 _ (List.getElem?_eq_getElem hl))
              injection hvb with hvb
              subst hvb
              exact absurd this hq
      have H := Lib.hid h
      have HKS := Lib.hid hks1
      have HC := Lib.hid hcells
      have HK1 := Lib.hid hk1
      have HW1 := Lib.hid hw1
      have hps1 : p < w1.heap.size := by omega
      have HZ1 := Lib.hid hz1'
      clear hz1'
      obtain ⟨Ak, ck, rfl, -⟩ := hks
      clear hdead hR h hc hz hne hks1 hcells hk1 hw1
      go_enter Try.func29, Try.ntmps29
      go_upto_region 7 with fail
      rw [← HW1.out]
      go_wp2_with (at_builtin; go_must (refine wpList_appG rfl (.tmp 21) (.tmp 22) 31 rfl w1.heap.size 4 i0 _ 1 1 Try.underlying31 hi0 hz0 hz1 hz2 rfl (by decide) _ (.slice Ak ks.length ck) 0 [] ks.length (KS ks) rfl rfl (empty_row w1 4 1 w1.heap.size (Nat.le_refl _)) HKS.out (KS_one ks) (by unfold maxLen; omega) (by omega) (by simp) ?_; intro v2 w2 ho2 hg2; have hk2 : Kept w1 w2 (fun n => w1.heap.size ≤ n) := (Kept.alloc w1 _ _).trans (Kept.grown (F := fun n => w1.heap.size ≤ n) hg2 (fun b hb => by injection hb with hb; subst hb; exact Nat.le_refl _)) (fun _ h => .inl h); have hc2 := (hk2.block p hps1 (by show ¬ w1.heap.size ≤ p; omega)).trans HC.out; have d6 : w2.cell? ⟨p, 6, none⟩ = some vk := (row7 hc2).1 6; have f6 := (row7 hc2).2 6; obtain ⟨Av, cv, hv2, -⟩ := RowAt.of_own ho2; subst hv2; have HO2 := Lib.hid ho2; have HK2 := Lib.hid hk2; have HC2 := Lib.hid hc2; clear ho2 hg2 hk2 hc2))
      go_ret
      have hz1' := HZ1.out
      have hk2 := HK2.out
      have ho2 : w2.ownsRow w1.heap.size 4 1 (.slice Av (0 + ks.length) cv) ks.length (KS ks) := own_eq HO2.out (by omega) (by simp) (Nat.le_refl _)
      have hx := H.out
      have hz12 := HK1.out
      have hoth : ∀ b, b < w.heap.size → b ≠ p → w2.heap[b]? = w.heap[b]? := fun b hb hbp => (hk2.block b (by omega) (by show ¬ w1.heap.size ≤ b; omega)).trans (hz12.block b hb hbp)
      have hl2 : w2.ownsRow 0 9 1 vl D.lasts.length (SS D.lasts) := row_same hx.lasts fun b hb => hoth b (hx.lasts.lt b hb).2 (row_not hx.cells hx.lasts (by decide) b hb)
      have hw2 : w2.ownsRow 0 88 2 vw D.waits.length (WS D.waits) := row_same hx.waits fun b hb => hoth b (hx.waits.lt b hb).2 (row_not hx.cells hx.waits (by decide) b hb)
      have hzz : ∀ u : Value, (w2.setCell ⟨p, 6, none⟩ u).heap.size = w2.heap.size := fun u => by simp
      have hkn : ((k.toNat : Nat) : Int) = k := Int.toNat_of_nonneg (by omega)
      refine ⟨rfl, (hz12.trans hk2 (fun n h => .inr (by omega)) |>.mono fun n _ h => by rw [h]; exact hp).trans (Kept.setCell w2 ⟨p, 6, none⟩ _ F hp) (fun _ h => .inl h), vl, vw, .slice Av (0 + ks.length) cv, k, ?_⟩
      refine ⟨.inl hp, ?_, ?_, ?_, row_same hl2 fun b hb => set_other (row_not HC2.out hl2 (by decide) b hb), fun b hb => .inl (hx.lastsF b hb), row_same hw2 fun b hb => set_other (row_not HC2.out hw2 (by decide) b hb), fun b hb => .inl (hx.waitsF b hb), row_same (own_eq ho2 rfl rfl (Nat.zero_le _)) fun b hb => set_other (row_not HC2.out ho2 (by decide) b hb), fun b hb => .inr ?_⟩
      · rw [Joins.block_setCell HC2.out _]
        simp
      · intro q hq
        injection hq with hq
        omega
      · intro q hq
        injection hq with hq
        omega
      · have := ho2.lt b hb
        rw [hzz]
        omega

/-- blocks that have been made since -/
def Made (w w' : World) : Nat → Prop := fun n => w.heap.size ≤ n ∧ n < w'.heap.size

set_option maxHeartbeats 2000000 in
theorem xReopen_any (F : Nat → Prop) (p : Nat) (D : DS) (w : World) (h : XD w F p D) (hll : D.lasts.length ≤ 1000000) :
    Calls Try.prog 30 #[.pointer (some ⟨p, 0, none⟩)] w fun e w' => Below w.heap.size w w' ∧ (if D.dead then ∃ q, e = .returned (.tuple #[.pointer (some ⟨q, 0, none⟩), .int .i64 0]) ∧ XD w' (Made w w') q D.again else e = .returned (.tuple #[.pointer none, .int .i64 50])) := by
  obtain ⟨vl, vw, vk, left, h⟩ := h
  have hc := (row7 h.cells).1
  have c3 : w.cell? ⟨p, 3, none⟩ = some (.bool D.dead) := hc 3
  cases hdead : D.dead with
  | false =>
    rw [hdead] at c3
    clear hdead h hc
    go_enter Try.func30, Try.ntmps30
    go_wp2_with fail
    go_ret2
    exact ⟨Below.refl _ _, rfl⟩
  | true =>
    rw [hdead] at c3
    have c0 : w.cell? ⟨p, 0, none⟩ = some vl := hc 0
    have c0a : (w.alloc (.cells #[] 9)).cell? ⟨p, 0, none⟩ = some vl := ((Below.refl w.heap.size w).alloc (Nat.le_refl _) (.cells #[] 9)).cell (p := ⟨p, 0, none⟩) h.lt |>.trans c0
    obtain ⟨i0, hi0, hz0, hz1, hz2⟩ := info_parts info_S
    have hrow : RowAt (w.alloc (.cells #[] 9)) vl D.lasts.length 1 (SS D.lasts) := (RowAt.of_own h.lasts).kept fun b hb => Below.heap_alloc w _ b (h.lasts.lt b hb).2
    have HROW := Lib.hid hrow
    clear hdead h hc hrow
    go_enter Try.func30, Try.ntmps30
    go_wp2_with (at_builtin; go_must (refine wpList_appG rfl (.tmp 9) (.tmp 13) 60 rfl w.heap.size 9 i0 _ 1 16 Try.underlying60 hi0 hz0 hz1 hz2 rfl (by decide) _ vl 0 [] D.lasts.length (SS D.lasts) rfl rfl (empty_row w 9 1 w.heap.size (Nat.le_refl _)) HROW.out (SS_one D.lasts) (by unfold maxLen; omega) (by omega) (by simp) ?_; intro v2 w2 ho2 hg2; have hb2 : Below w.heap.size w w2 := ((Below.refl _ _).alloc (Nat.le_refl _) _).grown hg2 (by simp) (fun b hb => by injection hb with hb; subst hb; exact Nat.le_refl _); obtain ⟨Av, cv, hv2, -⟩ := RowAt.of_own ho2; subst hv2; have HO2 := Lib.hid ho2; clear ho2 hg2))
    go_ret2
    have ho2 : w2.ownsRow w.heap.size 9 1 (.slice Av D.lasts.length cv) D.lasts.length (SS D.lasts) := by
      have h0 := HO2.out
      rw [Nat.zero_add, List.nil_append] at h0
      exact h0
    refine ⟨hb2.alloc hb2.size _, ?_⟩
    refine ⟨w2.heap.size, rfl, .slice Av D.lasts.length cv, .slice none 0 0, .slice none 0 0, 0, ?_⟩
    have hsz := hb2.size
    refine ⟨⟨hsz, by simp⟩, heap_alloc_new w2 _, (fun q hq => by cases hq), (fun q hq => by cases hq), (own_eq ho2 rfl rfl (Nat.zero_le _)).alloc _, fun b hb => ⟨(ho2.lt b hb).1, by have := (ho2.lt b hb).2; simp; omega⟩, World.ownsRow_nil _ _ _ _, (fun b hb => by cases hb), World.ownsRow_nil _ _ _ _, (fun b hb => by cases hb)⟩
end Go.Proofs.Ythchnnddnjibmaa
