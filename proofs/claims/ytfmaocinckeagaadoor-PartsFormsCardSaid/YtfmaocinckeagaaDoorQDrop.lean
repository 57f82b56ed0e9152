/-
  The program's drop. No statement is proved here. No condition.
-/
import Derived.Test.YtfmaocinckeagaaDoorQJoin
namespace Go.Proofs.YtfmaocinckeagaaDoor
open Go.RowKit

theorem set2_at {w : World} {j : Nat} {T : TypeId} {a b x : Value} (h : w.heap[j]? = some (.cells #[a, b] T (0, 0))) : (w.setCell ⟨j, 1, none⟩ x).heap[j]? = some (.cells #[a, x] T (0, 0)) := by rw [Joins.block_setCell h _]; simp
theorem kept_near {w w' : World} {v : Value} {G : Nat → Prop} (hb : Below 0 w w') (hn : Near v w w') (hG : ∀ b, v.ownBlock = some b → G b) : Kept w w' G := ⟨hb.os, hb.tape, hb.output, hb.size, fun b hl hg => hn b hl fun e => hg (hG b e)⟩
/-- what a joiner has but for its messages -/
def core (j mb : Nat) (rv : Value) (b : Nat) : Prop := b = j ∨ b = mb ∨ rv.ownBlock = some b
set_option maxHeartbeats 4000000 in
set_option maxRecDepth 100000 in
theorem pdrop_core {w : World} {G : Nat → Prop} {j mb n : Nat} {rv : Value} {L : List KE} (h : JAt w G j mb rv n L) (k : Key) (hk : k.good) (hL : L.length ≤ 100000) :
    Calls Tryd.prog 25 #[.pointer (some ⟨j, 0, none⟩), k.v] w fun e w' => e = .returned (.tuple #[]) ∧ ∃ rv', JAt w' G j mb rv' n (dropL L k) ∧ Kept w w' (core j mb rv) := by
  obtain ⟨w1, hw1⟩ : ∃ w1, w1 = w.alloc (.cells #[.int .i64 k.1, .int .i64 k.2] 67) := ⟨_, rfl⟩
  have hb1 : Below w.heap.size w w1 := by rw [hw1]; exact (Below.refl _ _).alloc (Nat.le_refl _) _
  obtain ⟨q, hq⟩ : ∃ q, q = w.heap.size := ⟨_, rfl⟩
  have hx1 : w1.heap[q]? = some (.cells #[.int .i64 k.1, .int .i64 k.2] 67 (0, 0)) := by rw [hw1, hq]; exact heap_alloc_new w _
  obtain ⟨x0, x1⟩ : w1.cell? ⟨q, 0, none⟩ = some (.int .i64 k.1) ∧ w1.cell? ⟨q, 1, none⟩ = some (.int .i64 k.2) := ⟨(blk_cells hx1).1 0, (blk_cells hx1).1 1⟩
  have h1 := h.grow hb1
  have c0 : w1.cell? ⟨j, 0, none⟩ = some (.map (some mb)) := (blk_cells h1.obj).1 0
  obtain ⟨w2, hdel, hm2, ht⟩ := MapJ.del (w := w1.drew) (h1.map.same rfl) hk 0
  have hg := ht.grown
  have hjm := h1.jm
  have hmr := h1.mr
  have hjr := h1.jr
  have hqm : q ≠ mb := by rw [hq]; have := h.map.lt; omega
  have hqj : q ≠ j := by rw [hq]; have := h.lt; omega
  have hsame : ∀ b, b < w1.heap.size → b ≠ mb → w2.heap[b]? = w1.heap[b]? := fun b hb hne => hg.block b hb (fun e => hne (by injection e))
  have ho2 := (hsame j h1.lt hjm).trans h1.obj
  have hr2 : keyR.Own w2 0 67 rv (L.map KE.key) := row_same h1.row fun p hp => hsame p (h1.row.lt p hp).2 (fun e => hmr (by rw [← e]; exact hp))
  have hx2 := (hsame q (Array.getElem?_eq_some_iff.1 hx1).1 hqm).trans hx1
  have hk2 : KAt w2 q k := ⟨(blk_cells hx2).1 0, (blk_cells hx2).1 1⟩
  have hqr : rv.ownBlock ≠ some q := fun e => by have := (h.row.lt q e).2; omega
  have cD := delf_any (L.map KE.key) k q rv 0 w2 hr2 (Nat.zero_le _) hqr hk2 (by rw [List.length_map]; omega)
  have c1 : w2.cell? ⟨j, 1, none⟩ = some rv := (blk_cells ho2).1 1
  have hK2 : Kept w w2 (core j mb rv) := ((Kept.alloc w _ _).trans (Kept.drew _ _) fun n hn => .inl hn).trans (by rw [← hw1]; exact Kept.grown hg (fun b hb => by injection hb with hb; exact .inr (.inl hb.symm))) fun n hn => .inl hn
  have hS2 : ∀ b, b < w.heap.size → b ≠ mb → w2.heap[b]? = w.heap[b]? := fun b hb hne => (hsame b (Nat.lt_of_lt_of_le hb hb1.size) hne).trans (hb1.block b hb)
  have hsz2 : w.heap.size ≤ w2.heap.size := Nat.le_trans hb1.size hg.size
  obtain ⟨A, c, hrv⟩ := h.row.slice
  rw [List.length_map] at hrv
  have H := Lib.hid h
  have HW1 := Lib.hid hw1
  have HQ := Lib.hid hq
  have HM2 := Lib.hid hm2
  have HO2 := Lib.hid ho2
  have HK2 := Lib.hid hK2
  have HS2 := Lib.hid hS2
  have HJR := Lib.hid hjr
  have HMR := Lib.hid hmr
  have HJM := Lib.hid hjm
  have HZ2 := Lib.hid hsz2
  clear h hw1 hq hm2 ho2 hK2 hS2 hjr hmr hjm h1 hb1 hx1 hsame hr2 hx2 hk2 hqr ht hg hsz2
  subst hrv
  unfold Key.v at hdel
  unfold Key.v
  go_enter Tryd.func25, Tryd.ntmps25
  go_upto_region 1 with fail
  rw [← HW1.out, ← HQ.out]
  go_region
  clear hdel x0 x1 c0
  go_wp2_with fail
  refine cD.mono ?_
  rintro e w3 ⟨v', rfl, hr3, hb3, hn3, hob⟩
  obtain ⟨A', c', hv'⟩ := hr3.slice
  subst hv'
  clear cD c1
  have ho3 := (hn3 j (Nat.lt_of_lt_of_le H.out.lt HZ2.out) HJR.out).trans HO2.out
  obtain ⟨c1, f1⟩ : (∃ x, w3.cell? ⟨j, 1, none⟩ = some x) ∧ w3.frozen? ⟨j, 1, none⟩ = false := ⟨⟨_, (blk_cells ho3).1 1⟩, (blk_cells ho3).2 1⟩
  obtain ⟨x1, c1⟩ := c1
  have hm3 := HM2.out.same (hn3 mb HM2.out.lt HMR.out)
  have hfin : JAt (w3.setCell ⟨j, 1, none⟩ (.slice A' (delK (L.map KE.key) k).length c')) G j mb (.slice A' (delK (L.map KE.key) k).length c') n (dropL L k) := by
    refine H.out.dropped (fun b hb hbj hbm hbr => ?_) (set2_at ho3) (row_same hr3 fun p hp => set_far (fun e => HJR.out (by rw [← hob, hp, e]))) (hm3.same (set_far (Ne.symm HJM.out))) hob
    exact (set_far hbj).trans ((hn3 b (Nat.lt_of_lt_of_le hb HZ2.out) hbr).trans (HS2.out b hb hbm))
  have hK : Kept w (w3.setCell ⟨j, 1, none⟩ (.slice A' (delK (L.map KE.key) k).length c')) (core j mb (.slice A L.length c)) := (HK2.out.trans (kept_near hb3 hn3 fun b hb => .inr (.inr hb)) fun n hn => .inl hn).trans (Kept.setCell _ _ _ _ (.inl rfl)) fun n hn => .inl hn
  have HF := Lib.hid hfin
  have HK := Lib.hid hK
  clear hfin hK hm3 hr3 hb3 hn3 hob ho3
  go_wp2_with fail
  go_end0
  exact ⟨rfl, _, HF.out, HK.out⟩
theorem pdrop_any {w : World} {G : Nat → Prop} {j mb n : Nat} {rv : Value} {L : List KE} (h : JAt w G j mb rv n L) (k : Key) (hk : k.good) (hL : L.length ≤ 100000) :
    Calls Tryd.prog 25 #[.pointer (some ⟨j, 0, none⟩), k.v] w fun e w' => e = .returned (.tuple #[]) ∧ ∃ rv', JAt w' G j mb rv' n (dropL L k) ∧ Kept w w' G :=
  (pdrop_core h k hk hL).mono fun e w' ⟨h1, rv', h2, h3⟩ => ⟨h1, rv', h2, h3.mono fun b _ hb => by
    rcases hb with rfl | rfl | hb
    · exact h.gj
    · exact h.gm
    · exact h.gr b hb⟩
end Go.Proofs.YtfmaocinckeagaaDoor
