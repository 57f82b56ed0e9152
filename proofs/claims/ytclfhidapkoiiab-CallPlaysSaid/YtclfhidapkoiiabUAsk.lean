/-
  What is asked of each wait: the closures. No statement is proved here. No condition.
-/
import Derived.Test.YtclfhidapkoiiabUMem
namespace Go.Proofs.Ytclfhidapkoiiab
open Go.RowKit Go.Maps

section
variable {w : World} {p b : Nat} {life given : Int} {M : List (Nat × WT)}
theorem at_cells {w : World} {q : Nat} {x : WT} (h : w.heap[q]? = some (.cells x.cells 37 (0, 0))) :
    (w.cell? ⟨q, 0, none⟩ = some (.int .i64 x.req) ∧ w.cell? ⟨q, 1, none⟩ = some (.string x.key) ∧ w.cell? ⟨q, 2, none⟩ = some (.int .i64 x.client) ∧ w.cell? ⟨q, 3, none⟩ = some (.int .i64 x.id)) ∧ w.cell? ⟨q, 4, none⟩ = some (.int .i64 x.first) ∧ w.cell? ⟨q, 5, none⟩ = some (.int .i64 x.last) ∧ w.cell? ⟨q, 6, none⟩ = some (.bool x.marked) :=
  ⟨⟨(blk_cells h).1 0, (blk_cells h).1 1, (blk_cells h).1 2, (blk_cells h).1 3⟩, (blk_cells h).1 4, (blk_cells h).1 5, (blk_cells h).1 6⟩
theorem Kept.drewN (w : World) (n : Nat) (F : Nat → Prop) : Kept w (w.drewN n) F := ⟨rfl, rfl, rfl, Nat.le_refl _, fun _ _ _ => rfl⟩
theorem set6_at {w : World} {q : Nat} {x : WT} (h : w.heap[q]? = some (.cells x.cells 37 (0, 0))) (n : Nat) : ((w.drewN n).setCell ⟨q, 6, none⟩ (.bool true)).heap[q]? = some (.cells ({ x with marked := true } : WT).cells 37 (0, 0)) := by
  rw [Joins.block_setCell (w := w.drewN n) h _]
  rfl
theorem set5_at {w : World} {q : Nat} {x : WT} (h : w.heap[q]? = some (.cells x.cells 37 (0, 0))) (n : Nat) (now : Int) : ((w.drewN n).setCell ⟨q, 5, none⟩ (.int .i64 now)).heap[q]? = some (.cells ({ x with last := now } : WT).cells 37 (0, 0)) := by
  rw [Joins.block_setCell (w := w.drewN n) h _]
  rfl
set_option maxRecDepth 100000 in
theorem isago_any (t many now : Int) (w : World) : Calls Try.prog 25 #[.int .i64 t, .int .i64 many, .int .i64 now] w fun e w' => e = .returned (.bool (agoB t many now)) ∧ w' = w := by
  by_cases h1 : (1 : Int) ≤ many
  · by_cases h2 : t ≤ now
    · have hr : agoB t many now = decide (many ≤ wrap64 (now - t)) := by simp [agoB, h1, h2]
      rw [hr]
      clear hr
      go_enter Try.func25, Try.ntmps25
      go_wp2_with fail
      go_ret
      exact ⟨rfl, rfl⟩
    · have hr : agoB t many now = false := by simp [agoB, h2]
      rw [hr]
      clear hr
      go_enter Try.func25, Try.ntmps25
      go_wp2_with fail
      go_ret
      exact ⟨rfl, rfl⟩
  · have hr : agoB t many now = false := by simp [agoB, h1]
    rw [hr]
    clear hr
    go_enter Try.func25, Try.ntmps25
    go_wp2_with fail
    go_ret
    exact ⟨rfl, rfl⟩
set_option maxRecDepth 100000 in
theorem markf_any (q c : Nat) (x : WT) (k : ByteArray) (w : World) (h : w.heap[q]? = some (.cells x.cells 37 (0, 0))) (hc : w.cell? ⟨c, 0, none⟩ = some (.string k)) :
    Calls Try.prog 23 #[.pointer (some ⟨q, 0, none⟩), .pointer (some ⟨c, 0, none⟩)] w fun e w' => e = .returned (.bool (markA k x).isSome) ∧ Kept w w' (fun n => n = q) ∧ w'.heap[q]? = some (.cells ((markA k x).getD x).cells 37 (0, 0)) := by
  obtain ⟨⟨-, x1, -, -⟩, -, -, x6⟩ := at_cells h
  have f6 : w.frozen? ⟨q, 6, none⟩ = false := (blk_cells h).2 6
  by_cases hk : x.key = k
  · have hm : markA k x = some { x with marked := true } := by unfold markA; rw [if_pos hk]
    rw [hm]
    subst hk
    have HH := Lib.hid h
    clear h hm
    go_enter Try.func23, Try.ntmps23
    go_upto_region 1 with fail
    go_quiet (fail)
    go_wp2_with fail
    go_ret
    exact ⟨rfl, (Kept.drewN w nq _).trans (Kept.setCell _ _ _ (fun n => n = q) rfl) fun n hn => .inl hn, set6_at HH.out nq⟩
  · have hm : markA k x = none := by unfold markA; rw [if_neg hk]
    rw [hm]
    have hk2 : (x.key.toList == k.toList) = false := by
      rw [beq_eq_false_iff_ne]
      exact fun e => hk (toList_inj e)
    have HH := Lib.hid h
    clear h hm
    go_enter Try.func23, Try.ntmps23
    go_upto_region 1 with fail
    go_quiet (fail)
    go_wp2_with fail
    go_ret
    exact ⟨rfl, Kept.drewN w nq _, HH.out⟩
set_option maxRecDepth 100000 in
theorem duef_any (q c1 c2 : Nat) (x : WT) (every now : Int) (w : World) (h : w.heap[q]? = some (.cells x.cells 37 (0, 0))) (h1 : w.cell? ⟨c1, 0, none⟩ = some (.int .i64 every)) (h2 : w.cell? ⟨c2, 0, none⟩ = some (.int .i64 now)) :
    Calls Try.prog 24 #[.pointer (some ⟨q, 0, none⟩), .pointer (some ⟨c1, 0, none⟩), .pointer (some ⟨c2, 0, none⟩)] w fun e w' => e = .returned (.bool (dueA now every x).isSome) ∧ Kept w w' (fun n => n = q) ∧ w'.heap[q]? = some (.cells ((dueA now every x).getD x).cells 37 (0, 0)) := by
  obtain ⟨-, -, x5, -⟩ := at_cells h
  have f5 : w.frozen? ⟨q, 5, none⟩ = false := (blk_cells h).2 5
  have hc := fun W => isago_any x.last every now W
  by_cases hk : agoB x.last every now = true
  · have hm : dueA now every x = some { x with last := now } := by unfold dueA; rw [if_pos hk]
    rw [hm]
    rw [hk] at hc
    have HH := Lib.hid h
    have HC := Lib.hid hc
    clear h hm hc
    go_enter Try.func24, Try.ntmps24
    go_upto_region 1 with fail
    go_quiet ((go_at_call 25; exact Calls.quiet_of_same (HC.out _)))
    go_wp2_with fail
    go_ret
    exact ⟨rfl, (Kept.drewN w nq _).trans (Kept.setCell _ _ _ (fun n => n = q) rfl) fun n hn => .inl hn, set5_at HH.out nq now⟩
  · have hm : dueA now every x = none := by unfold dueA; rw [if_neg hk]
    rw [hm]
    have hk : agoB x.last every now = false := by simpa using hk
    rw [hk] at hc
    have HH := Lib.hid h
    have HC := Lib.hid hc
    clear h hm hc
    go_enter Try.func24, Try.ntmps24
    go_upto_region 1 with fail
    go_quiet ((go_at_call 25; exact Calls.quiet_of_same (HC.out _)))
    go_wp2_with fail
    go_ret
    exact ⟨rfl, Kept.drewN w nq _, HH.out⟩
set_option maxRecDepth 100000 in
theorem allf_any (q : Nat) (w : World) : Calls Try.prog 28 #[.pointer (some ⟨q, 0, none⟩)] w fun e w' => e = .returned (.bool true) ∧ w' = w := by
  go_enter Try.func28, Try.ntmps28
  go_wp2_with fail
  go_ret
  exact ⟨rfl, rfl⟩
set_option maxHeartbeats 1000000 in
set_option maxRecDepth 100000 in
theorem oldf_any {w : World} {p b n : Nat} {life given : Int} {A : List (Int × Option Nat)} (q c1 c2 c3 : Nat) (x : WT) (most now : Int) (h : w.heap[q]? = some (.cells x.cells 37 (0, 0))) (hM : MapI ptrK w b n A) (hp : w.heap[p]? = some (.cells #[.int .i64 life, .int .i64 given, .map (some b)] 56 (0, 0))) (hx : I6 x.req)
    (h1 : w.cell? ⟨c1, 0, none⟩ = some (.int .i64 most)) (h2 : w.cell? ⟨c2, 0, none⟩ = some (.int .i64 now)) (h3 : w.cell? ⟨c3, 0, none⟩ = some (.pointer (some ⟨p, 0, none⟩))) :
    Calls Try.prog 27 #[.pointer (some ⟨q, 0, none⟩), .pointer (some ⟨c1, 0, none⟩), .pointer (some ⟨c2, 0, none⟩), .pointer (some ⟨c3, 0, none⟩)] w fun e w' => e = .returned (.bool (oldA now most x).isSome) ∧
      ((oldA now most x = some x ∧ MapI ptrK w' b n (idel A x.req) ∧ Kept w w' (fun n => n = b)) ∨ (oldA now most x = none ∧ Kept w w' (fun _ => False))) := by
  obtain ⟨⟨x0, -, -, -⟩, x4, -, -⟩ := at_cells h
  have p2 : w.cell? ⟨p, 2, none⟩ = some (.map (some b)) := (blk_cells hp).1 2
  have hc := fun W => isago_any x.first most now W
  by_cases hk : agoB x.first most now = true
  · have hm : oldA now most x = some x := by unfold oldA; rw [if_pos hk]
    rw [hm]
    rw [hk] at hc
    have HC := Lib.hid hc
    have HMM := Lib.hid hM
    clear h hm hc hM hp
    go_enter Try.func27, Try.ntmps27
    go_upto_region 1 with fail
    go_quiet ((go_at_call 25; exact Calls.quiet_of_same (HC.out _)))
    go_upto_region 3 with fail
    obtain ⟨w1, hw1⟩ : ∃ w1, w1 = w.drewN nq := ⟨_, rfl⟩
    rw [← hw1]
    have hce : ∀ r, w1.cell? r = w.cell? r := fun r => by rw [hw1]; rfl
    rw [← hce] at x0 p2 h3
    obtain ⟨w2, hdel, hm2, ht⟩ := MapI.del (w := w1.drew) (HMM.out.same (by rw [hw1]; rfl)) hx 0
    have hg := ht.grown
    have hK : Kept w w2 (fun n => n = b) := (by rw [hw1]; exact Kept.drewN w nq _ : Kept w w1 (fun n => n = b)).trans ((Kept.drew _ _).trans (Kept.grown hg fun g hg => by injection hg with hg; exact hg.symm) fun n hn => .inl hn) fun n hn => .inl hn
    have HK := Lib.hid hK
    have HM2 := Lib.hid hm2
    have hdel : (Builtin.delete_ #[54, 3] 0 #[.map (some b), .int .i64 x.req]).run Try.prog w1.drew = .ok (.tuple #[]) w2 := hdel
    clear hK hm2 hg ht hce hw1 h1 h2 x4
    go_region
    clear hdel
    go_wp2_with fail
    go_ret
    exact ⟨rfl, .inl ⟨trivial, HM2.out, HK.out⟩⟩
  · have hm : oldA now most x = none := by unfold oldA; rw [if_neg hk]
    rw [hm]
    have hk : agoB x.first most now = false := by simpa using hk
    rw [hk] at hc
    have HC := Lib.hid hc
    clear h hm hc hM hp
    go_enter Try.func27, Try.ntmps27
    go_upto_region 1 with fail
    go_quiet ((go_at_call 25; exact Calls.quiet_of_same (HC.out _)))
    go_wp2_with fail
    go_ret
    exact ⟨rfl, .inr ⟨trivial, Kept.drewN w nq _⟩⟩
end
end Go.Proofs.Ytclfhidapkoiiab
