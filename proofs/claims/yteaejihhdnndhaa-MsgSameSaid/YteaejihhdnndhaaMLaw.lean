/-
  MsgSame walked. No statement is proved here. No condition.
-/
import Derived.Test.YteaejihhdnndhaaMRSame
import Derived.Test.YteaejihhdnndhaaMTwin
import Derived.Test.YteaejihhdnndhaaMRTwin
import Derived.Test.YteaejihhdnndhaaMSpoil
namespace Go.Proofs.Yteaejihhdnndhaa
open Go.RowKit

theorem beq_c {α : Type} [BEq α] [LawfulBEq α] (x y : α) : (x == y) = (y == x) := BEq.comm
theorem sameL_refl {α : Type} {f : α → α → Bool} (hf : ∀ x, f x x = true) : ∀ l, sameL f l l = true
  | [] => rfl
  | a :: l => by unfold sameL; rw [hf, sameL_refl hf l]; rfl
theorem sameL_comm {α : Type} {f : α → α → Bool} (hf : ∀ x y, f x y = f y x) : ∀ l m, sameL f l m = sameL f m l
  | [], [] => rfl
  | a :: l, b :: m => by unfold sameL; rw [hf, sameL_comm hf l m]
  | [], b :: m => rfl
  | a :: l, [] => rfl
theorem iSame_comm (x y : Int) : iSame x y = iSame y x := beq_c x y
theorem PP.comm (a b : PP) : a.same b = b.same a := by unfold PP.same; rw [beq_c a.key.toList, beq_c a.val.toList]
theorem PR.comm (a b : PR) : a.same b = b.same a := by unfold PR.same; rw [beq_c a.kind, beq_c a.found, beq_c a.val.toList]
theorem PL.comm (a b : PL) : a.same b = b.same a := by unfold PL.same; rw [beq_c a.client, beq_c a.id, PR.comm a.res]
theorem PO.comm (a b : PO) : a.same b = b.same a := by unfold PO.same; rw [beq_c a.kind, beq_c a.key.toList, beq_c a.val.toList, beq_c a.old.toList, beq_c a.had]
theorem CM.comm (a b : CM) : a.same b = b.same a := by unfold CM.same; rw [beq_c a.kind, beq_c a.shard, beq_c a.store, beq_c a.epoch]
theorem EN.comm (a b : EN) : a.same b = b.same a := by unfold EN.same; rw [beq_c a.term, beq_c a.kind, beq_c a.data.toList, sameL_comm iSame_comm a.list]
theorem MG.comm (a b : MG) : a.same b = b.same a := by
  unfold MG.same
  rw [beq_c a.kind, beq_c a.shard, beq_c a.epoch, beq_c a.owner, beq_c a.req, beq_c a.client, beq_c a.id, PO.comm a.op, beq_c a.code, PR.comm a.res, beq_c a.grant, beq_c a.term, beq_c a.index, beq_c a.prev, beq_c a.commit, beq_c a.granted, sameL_comm EN.comm a.entries, sameL_comm iSame_comm a.list, beq_c a.state.toList, beq_c a.part, beq_c a.last, sameL_comm PP.comm a.pairs, sameL_comm PL.comm a.lasts, CM.comm a.cmd]
theorem iSame_refl (x : Int) : iSame x x = true := by simp [iSame]
theorem PP.refl (a : PP) : a.same a = true := by simp [PP.same]
theorem PR.refl (a : PR) : a.same a = true := by simp [PR.same]
theorem PL.refl (a : PL) : a.same a = true := by simp [PL.same, PR.refl]
theorem PO.refl (a : PO) : a.same a = true := by simp [PO.same]
theorem CM.refl (a : CM) : a.same a = true := by simp [CM.same]
theorem EN.refl (a : EN) : a.same a = true := by simp [EN.same, sameL_refl iSame_refl]
theorem MG.refl (a : MG) : a.same a = true := by simp [MG.same, PO.refl, PR.refl, CM.refl, sameL_refl iSame_refl, sameL_refl EN.refl, sameL_refl PP.refl, sameL_refl PL.refl]
theorem ld_Msg (p : Nat) (cs : Array Value) (W : World) (h : W.heap[p]? = some (.cells cs 38 (0, 0))) (hs : cs.size = 33) : (Instr.loadAt 38 (.pointer (some ⟨p, 0, none⟩))).run Try.prog W = .ok (.agg cs) W := by
  have h1 := run_loadVar_row (P := Try.prog) W p 38 38 cs (0, 0) _ h Try.underlying38 rfl (by rw [hs]; exact msg_size)
  simp [Instr.loadAt, Instr.sureAddr, h1]
set_option maxHeartbeats 40000000 in
set_option maxRecDepth 1000000 in
theorem law_walk (a b : MG) (vE1 vL1 vP1 vX1 vE2 vL2 vP2 vX2 : Value) (w : World) (ha : MsgL w Any a vE1 vL1 vP1 vX1) (hb : MsgL w Any b vE2 vL2 vP2 vX2) (hn : MsgS a) :
    Calls Try.prog 6 #[.agg (a.cells vE1 vL1 vP1 vX1), .agg (b.cells vE2 vL2 vP2 vX2)] w fun e w' => e = .returned (.bool true) ∧ Below w.heap.size w w' := by
  obtain ⟨ca, hca⟩ : ∃ ca, ca = a.cells vE1 vL1 vP1 vX1 := ⟨_, rfl⟩
  obtain ⟨cb, hcb⟩ : ∃ cb, cb = b.cells vE2 vL2 vP2 vX2 := ⟨_, rfl⟩
  rw [← hca, ← hcb]
  have hca33 : ca.size = 33 := by rw [hca]; rfl
  have hcb33 : cb.size = 33 := by rw [hcb]; rfl
  obtain ⟨w1, hw1⟩ : ∃ w1, w1 = w.alloc (.cells ca 38) := ⟨_, rfl⟩
  have hb1 : Below w.heap.size w w1 := by rw [hw1]; exact (Below.refl _ _).alloc (Nat.le_refl _) _
  have hx1 : w1.heap[w.heap.size]? = some (.cells ca 38 (0, 0)) := by rw [hw1]; exact heap_alloc_new w _
  obtain ⟨w2, hw2⟩ : ∃ w2, w2 = w1.alloc (.cells cb 38) := ⟨_, rfl⟩
  have hb2 : Below w1.heap.size w1 w2 := by rw [hw2]; exact (Below.refl _ _).alloc (Nat.le_refl _) _
  have hy2 : w2.heap[w1.heap.size]? = some (.cells cb 38 (0, 0)) := by rw [hw2]; exact heap_alloc_new w1 _
  have hx2 := (hb2.block _ (Array.getElem?_eq_some_iff.1 hx1).1).trans hx1
  have hB : Below w.heap.size w w2 := hb1.trans (Joins.below_le hb2 hb1.size)
  have hs1 : w1.heap.size = w.heap.size + 1 := by rw [hw1]; simp
  obtain ⟨p, hp⟩ : ∃ p, p = w.heap.size := ⟨_, rfl⟩
  obtain ⟨q, hq⟩ : ∃ q, q = w1.heap.size := ⟨_, rfl⟩
  have hq1 : q = w.heap.size + 1 := hq.trans hs1
  rw [← hp] at hx2
  rw [← hq] at hy2
  have hww : w2 = (w.alloc (.cells ca 38)).alloc (.cells cb 38) := by rw [hw2, hw1]
  have hBd : Below w.heap.size w w2.drew := hB.trans (Below.refl _ _).drew
  have hAd := ha.grow hBd
  have hCd := hb.grow hBd
  have HW := Lib.hid hww
  have HP := Lib.hid hp
  have HQ := Lib.hid hq1
  have HA := Lib.hid hAd
  have HC := Lib.hid hCd
  have HBD := Lib.hid hBd
  have HCA := Lib.hid (And.intro hca hcb)
  have HN := Lib.hid hn
  have hsd : (fun W : World => W.heap[p]? = some (.cells ca 38 (0, 0)) ∧ W.heap[q]? = some (.cells cb 38 (0, 0))) w2.drew := ⟨hx2, hy2⟩
  obtain ⟨z, hz⟩ : ∃ z, z = a.same b := ⟨_, rfl⟩
  have c1 : ∀ W, MsgL W Any a vE1 vL1 vP1 vX1 → MsgL W Any b vE2 vL2 vP2 vX2 → _ := fun W h1 h2 => psame_any a b _ _ _ _ _ _ _ _ W h1 h2
  have c2 : ∀ W, MsgL W Any a vE1 vL1 vP1 vX1 → MsgL W Any b vE2 vL2 vP2 vX2 → _ := fun W h1 h2 => rsame_any a b _ _ _ _ _ _ _ _ W h1 h2
  have c3 : ∀ W, MsgL W Any a vE1 vL1 vP1 vX1 → MsgL W Any b vE2 vL2 vP2 vX2 → _ := fun W h1 h2 => psame_any b a _ _ _ _ _ _ _ _ W h2 h1
  have c5 : ∀ W, MsgL W Any a vE1 vL1 vP1 vX1 → _ := fun W h1 => psame_any a a _ _ _ _ _ _ _ _ W h1 h1
  have c8 : ∀ W vE vL vP vX, MsgL W Any a vE vL vP vX → MsgL W Any a vE1 vL1 vP1 vX1 → _ := fun W vE vL vP vX h1 h2 => rsame_any a a vE vL vP vX vE1 vL1 vP1 vX1 W h1 h2
  have c9 : ∀ W vE vL vP vX, MsgL W Any a vE vL vP vX → MsgL W Any a vE1 vL1 vP1 vX1 → _ := fun W vE vL vP vX h1 h2 => rsame_any a a vE1 vL1 vP1 vX1 vE vL vP vX W h2 h1
  rw [← hz] at c1 c2
  rw [MG.comm b a, ← hz] at c3
  rw [MG.refl] at c5 c8 c9
  rw [← hca, ← hcb] at c1 c2 c3
  have c6 : ∀ W, MsgL W Any a vE1 vL1 vP1 vX1 → _ := fun W h1 => rtwin_any a vE1 vL1 vP1 vX1 W h1 hn
  have c7 : ∀ W, MsgL W Any a vE1 vL1 vP1 vX1 → _ := fun W h1 => ptwin_any a vE1 vL1 vP1 vX1 W h1 hn
  rw [← hca] at c5 c8 c9 c6 c7
  have C6 := Lib.hid c6
  have C7 := Lib.hid c7
  have hcaS : (Try.prog.info? 38).map (·.size) = some ca.size := by rw [hca33]; exact msg_size
  have C1 := Lib.hid c1
  have C2 := Lib.hid c2
  have C3 := Lib.hid c3
  have C5 := Lib.hid c5
  have C8 := Lib.hid c8
  have C9 := Lib.hid c9
  clear ha hb hn hw1 hb1 hx1 hw2 hb2 hy2 hx2 hB hs1 hp hq hq1 hww hBd hAd hCd hca hcb hz c1 c2 c3 c5 c6 c7 c8 c9
  go_enter Try.func6, Try.ntmps6
  go_upto_region 1 with fail
  rw [← HW.out, ← HQ.out, ← HP.out]
  clear HW
  refine wp_region_held_drew (S := (fun W : World => W.heap[p]? = some (.cells ca 38 (0, 0)) ∧ W.heap[q]? = some (.cells cb 38 (0, 0)))) (by kernel_rfl) hsd (fun hHeld => ?_)
  refine takeD (i := 0) (d := 7) (v := .agg ca) rfl rfl (by kernel_rfl) (by kernel_rfl) (by kernel_rfl) (fun _ _ _ h => h) (.inl ⟨by rfl, fun w hSw => by dsimp only at hSw; exact ex_load rfl rfl (ld_Msg p ca w hSw.1 hca33)⟩) (by assumption) ?_
  simp only [Act.put, List.setIfInBounds_toArray, List.set_cons_zero, List.set_cons_succ]
  refine takeD (i := 1) (d := 8) (v := .agg cb) rfl rfl (by kernel_rfl) (by kernel_rfl) (by kernel_rfl) (fun _ _ _ h => h) (.inl ⟨by rfl, fun w hSw => by dsimp only at hSw; exact ex_load rfl rfl (ld_Msg q cb w hSw.2 hcb33)⟩) (by assumption) ?_
  simp only [Act.put, List.setIfInBounds_toArray, List.set_cons_zero, List.set_cons_succ]
  refine takeD (i := 3) (d := 10) (v := .agg ca) rfl rfl (by kernel_rfl) (by kernel_rfl) (by kernel_rfl) (fun _ _ _ h => h) (.inl ⟨by rfl, fun w hSw => by dsimp only at hSw; exact ex_load rfl rfl (ld_Msg p ca w hSw.1 hca33)⟩) (by assumption) ?_
  simp only [Act.put, List.setIfInBounds_toArray, List.set_cons_zero, List.set_cons_succ]
  refine takeD (i := 4) (d := 11) (v := .agg cb) rfl rfl (by kernel_rfl) (by kernel_rfl) (by kernel_rfl) (fun _ _ _ h => h) (.inl ⟨by rfl, fun w hSw => by dsimp only at hSw; exact ex_load rfl rfl (ld_Msg q cb w hSw.2 hcb33)⟩) (by assumption) ?_
  simp only [Act.put, List.setIfInBounds_toArray, List.set_cons_zero, List.set_cons_succ]
  refine wpAnyH_ready (rs := [2]) (by kernel_rfl) (by simp) ?_
  refine AllReadyH.cons rfl (fun K1 hK1 => ?_) AllReadyH.nil
  rw [if_pos (by rfl)]
  go_simp
  go_at_call 17
  refine (C1.out w2.drew HA.out HC.out).mono ?_
  rintro e w4 ⟨rfl, hb4⟩
  have hs4 : (fun W : World => W.heap[p]? = some (.cells ca 38 (0, 0)) ∧ W.heap[q]? = some (.cells cb 38 (0, 0))) w4 := ⟨(hb4.block p (Array.getElem?_eq_some_iff.1 hsd.1).1).trans hsd.1, (hb4.block q (Array.getElem?_eq_some_iff.1 hsd.2).1).trans hsd.2⟩
  have HA4 := Lib.hid (HA.out.grow hb4)
  have HC4 := Lib.hid (HC.out.grow hb4)
  have HB4 := Lib.hid (HBD.out.trans (Joins.below_le hb4 HBD.out.size))
  dsimp only
  refine hK1.out _ _ hs4 (fun hHeldhK1 => ?_)
  try simp only [Act.put, List.setIfInBounds_toArray, List.set_cons_zero, List.set_cons_succ]
  refine wpAnyH_ready (rs := [5]) (by kernel_rfl) (by simp) ?_
  refine AllReadyH.cons rfl (fun K2 hK2 => ?_) AllReadyH.nil
  rw [if_pos (by rfl)]
  go_simp
  go_at_call 14
  refine (C2.out w4 HA4.out HC4.out).mono ?_
  rintro e w5 ⟨rfl, hb5⟩
  have hs5 : (fun W : World => W.heap[p]? = some (.cells ca 38 (0, 0)) ∧ W.heap[q]? = some (.cells cb 38 (0, 0))) w5 := ⟨(hb5.block p (Array.getElem?_eq_some_iff.1 hs4.1).1).trans hs4.1, (hb5.block q (Array.getElem?_eq_some_iff.1 hs4.2).1).trans hs4.2⟩
  have HA5 := Lib.hid (HA4.out.grow hb5)
  have HC5 := Lib.hid (HC4.out.grow hb5)
  have HB5 := Lib.hid (HB4.out.trans (Joins.below_le hb5 HB4.out.size))
  dsimp only
  refine hK2.out _ _ hs5 (fun hHeldhK2 => ?_)
  try simp only [Act.put, List.setIfInBounds_toArray, List.set_cons_zero, List.set_cons_succ]
  refine takeD (i := 6) (d := 13) (v := .bool false) rfl rfl (by kernel_rfl) (by kernel_rfl) (by kernel_rfl) (fun _ _ _ h => h) (.inl ⟨by rfl, fun w hSw => by dsimp only at hSw; go_simp; try with_reducible rfl⟩) (by assumption) ?_
  simp only [Act.put, List.setIfInBounds_toArray, List.set_cons_zero, List.set_cons_succ]
  refine takeD (i := 7) (d := 14) (v := .bool false) rfl rfl (by kernel_rfl) (by kernel_rfl) (by kernel_rfl) (fun _ _ _ h => h) (.inl ⟨by rfl, fun w hSw => by dsimp only at hSw; go_simp; try with_reducible rfl⟩) (by assumption) ?_
  simp only [Act.put, List.setIfInBounds_toArray, List.set_cons_zero, List.set_cons_succ]
  refine takeD (i := 8) (d := 15) (v := .agg cb) rfl rfl (by kernel_rfl) (by kernel_rfl) (by kernel_rfl) (fun _ _ _ h => h) (.inl ⟨by rfl, fun w hSw => by dsimp only at hSw; exact ex_load rfl rfl (ld_Msg q cb w hSw.2 hcb33)⟩) (by assumption) ?_
  simp only [Act.put, List.setIfInBounds_toArray, List.set_cons_zero, List.set_cons_succ]
  refine takeD (i := 9) (d := 16) (v := .agg ca) rfl rfl (by kernel_rfl) (by kernel_rfl) (by kernel_rfl) (fun _ _ _ h => h) (.inl ⟨by rfl, fun w hSw => by dsimp only at hSw; exact ex_load rfl rfl (ld_Msg p ca w hSw.1 hca33)⟩) (by assumption) ?_
  simp only [Act.put, List.setIfInBounds_toArray, List.set_cons_zero, List.set_cons_succ]
  refine takeD (i := 11) (d := 18) (v := .agg ca) rfl rfl (by kernel_rfl) (by kernel_rfl) (by kernel_rfl) (fun _ _ _ h => h) (.inl ⟨by rfl, fun w hSw => by dsimp only at hSw; exact ex_load rfl rfl (ld_Msg p ca w hSw.1 hca33)⟩) (by assumption) ?_
  simp only [Act.put, List.setIfInBounds_toArray, List.set_cons_zero, List.set_cons_succ]
  refine takeD (i := 12) (d := 19) (v := .agg cb) rfl rfl (by kernel_rfl) (by kernel_rfl) (by kernel_rfl) (fun _ _ _ h => h) (.inl ⟨by rfl, fun w hSw => by dsimp only at hSw; exact ex_load rfl rfl (ld_Msg q cb w hSw.2 hcb33)⟩) (by assumption) ?_
  simp only [Act.put, List.setIfInBounds_toArray, List.set_cons_zero, List.set_cons_succ]
  refine wpAnyH_ready (rs := [10]) (by kernel_rfl) (by simp) ?_
  refine AllReadyH.cons rfl (fun K3 hK3 => ?_) AllReadyH.nil
  rw [if_pos (by rfl)]
  go_simp
  go_at_call 17
  refine (C3.out w5 HA5.out HC5.out).mono ?_
  rintro e w6 ⟨rfl, hb6⟩
  have hs6 : (fun W : World => W.heap[p]? = some (.cells ca 38 (0, 0)) ∧ W.heap[q]? = some (.cells cb 38 (0, 0))) w6 := ⟨(hb6.block p (Array.getElem?_eq_some_iff.1 hs5.1).1).trans hs5.1, (hb6.block q (Array.getElem?_eq_some_iff.1 hs5.2).1).trans hs5.2⟩
  have HA6 := Lib.hid (HA5.out.grow hb6)
  have HC6 := Lib.hid (HC5.out.grow hb6)
  have HB6 := Lib.hid (HB5.out.trans (Joins.below_le hb6 HB5.out.size))
  dsimp only
  refine hK3.out _ _ hs6 (fun hHeldhK3 => ?_)
  try simp only [Act.put, List.setIfInBounds_toArray, List.set_cons_zero, List.set_cons_succ]
  refine wpAnyH_ready (rs := [13]) (by kernel_rfl) (by simp) ?_
  refine AllReadyH.cons rfl (fun K4 hK4 => ?_) AllReadyH.nil
  rw [if_pos (by rfl)]
  go_simp
  go_at_call 17
  refine (C1.out w6 HA6.out HC6.out).mono ?_
  rintro e w7 ⟨rfl, hb7⟩
  have hs7 : (fun W : World => W.heap[p]? = some (.cells ca 38 (0, 0)) ∧ W.heap[q]? = some (.cells cb 38 (0, 0))) w7 := ⟨(hb7.block p (Array.getElem?_eq_some_iff.1 hs6.1).1).trans hs6.1, (hb7.block q (Array.getElem?_eq_some_iff.1 hs6.2).1).trans hs6.2⟩
  have HA7 := Lib.hid (HA6.out.grow hb7)
  have HC7 := Lib.hid (HC6.out.grow hb7)
  have HB7 := Lib.hid (HB6.out.trans (Joins.below_le hb7 HB6.out.size))
  dsimp only
  refine hK4.out _ _ hs7 (fun hHeldhK4 => ?_)
  try simp only [Act.put, List.setIfInBounds_toArray, List.set_cons_zero, List.set_cons_succ]
  refine takeD (i := 14) (d := 21) (v := .bool false) rfl rfl (by kernel_rfl) (by kernel_rfl) (by kernel_rfl) (fun _ _ _ h => h) (.inl ⟨by rfl, fun w hSw => by dsimp only at hSw; go_simp; try with_reducible rfl⟩) (by assumption) ?_
  simp only [Act.put, List.setIfInBounds_toArray, List.set_cons_zero, List.set_cons_succ]
  refine takeD (i := 15) (d := 22) (v := .bool false) rfl rfl (by kernel_rfl) (by kernel_rfl) (by kernel_rfl) (fun _ _ _ h => h) (.inl ⟨by rfl, fun w hSw => by dsimp only at hSw; go_simp; try with_reducible rfl⟩) (by assumption) ?_
  simp only [Act.put, List.setIfInBounds_toArray, List.set_cons_zero, List.set_cons_succ]
  refine takeD (i := 16) (d := 23) (v := .bool false) rfl rfl (by kernel_rfl) (by kernel_rfl) (by kernel_rfl) (fun _ _ _ h => h) (.inl ⟨by rfl, fun w hSw => by dsimp only at hSw; go_simp; try with_reducible rfl⟩) (by assumption) ?_
  simp only [Act.put, List.setIfInBounds_toArray, List.set_cons_zero, List.set_cons_succ]
  refine takeD (i := 17) (d := 24) (v := .agg ca) rfl rfl (by kernel_rfl) (by kernel_rfl) (by kernel_rfl) (fun _ _ _ h => h) (.inl ⟨by rfl, fun w hSw => by dsimp only at hSw; exact ex_load rfl rfl (ld_Msg p ca w hSw.1 hca33)⟩) (by assumption) ?_
  simp only [Act.put, List.setIfInBounds_toArray, List.set_cons_zero, List.set_cons_succ]
  refine takeD (i := 18) (d := 25) (v := .agg ca) rfl rfl (by kernel_rfl) (by kernel_rfl) (by kernel_rfl) (fun _ _ _ h => h) (.inl ⟨by rfl, fun w hSw => by dsimp only at hSw; exact ex_load rfl rfl (ld_Msg p ca w hSw.1 hca33)⟩) (by assumption) ?_
  simp only [Act.put, List.setIfInBounds_toArray, List.set_cons_zero, List.set_cons_succ]
  refine wpAnyH_ready (rs := [19]) (by kernel_rfl) (by simp) ?_
  refine AllReadyH.cons rfl (fun K5 hK5 => ?_) AllReadyH.nil
  rw [if_pos (by rfl)]
  go_simp
  go_at_call 17
  refine (C5.out w7 HA7.out).mono ?_
  rintro e w8 ⟨rfl, hb8⟩
  have hs8 : (fun W : World => W.heap[p]? = some (.cells ca 38 (0, 0)) ∧ W.heap[q]? = some (.cells cb 38 (0, 0))) w8 := ⟨(hb8.block p (Array.getElem?_eq_some_iff.1 hs7.1).1).trans hs7.1, (hb8.block q (Array.getElem?_eq_some_iff.1 hs7.2).1).trans hs7.2⟩
  have HA8 := Lib.hid (HA7.out.grow hb8)
  have HC8 := Lib.hid (HC7.out.grow hb8)
  have HB8 := Lib.hid (HB7.out.trans (Joins.below_le hb8 HB7.out.size))
  dsimp only
  refine hK5.out _ _ hs8 (fun hHeldhK5 => ?_)
  try simp only [Act.put, List.setIfInBounds_toArray, List.set_cons_zero, List.set_cons_succ]
  refine takeD (i := 20) (d := 27) (v := .bool false) rfl rfl (by kernel_rfl) (by kernel_rfl) (by kernel_rfl) (fun _ _ _ h => h) (.inl ⟨by rfl, fun w hSw => by dsimp only at hSw; go_simp; try with_reducible rfl⟩) (by assumption) ?_
  simp only [Act.put, List.setIfInBounds_toArray, List.set_cons_zero, List.set_cons_succ]
  refine takeD (i := 21) (d := 28) (v := .bool false) rfl rfl (by kernel_rfl) (by kernel_rfl) (by kernel_rfl) (fun _ _ _ h => h) (.inl ⟨by rfl, fun w hSw => by dsimp only at hSw; go_simp; try with_reducible rfl⟩) (by assumption) ?_
  simp only [Act.put, List.setIfInBounds_toArray, List.set_cons_zero, List.set_cons_succ]
  refine wpAnyH_done (by kernel_rfl) ?_ _
  clear hsd hs4 hs5 hs6 hs7 hHeld
  have hzz := zero_msg
  obtain ⟨Z, hZ⟩ : ∃ Z, Z = zC := ⟨_, rfl⟩
  rw [← hZ] at hzz
  have hZ33 : Z.size = 33 := by rw [hZ]; rfl
  clear hZ
  have hp8 := hs8.1
  have HS8 := Lib.hid hs8
  clear hs8 hb4 hb5 hb6 hb7 hb8
  go_wp2_with (first
    | (refine wpList_load_row rfl 38 (.tmp 2) rfl p rfl 38 ca (0, 0) _ hp8 Try.underlying38 rfl hcaS ?_))
  refine (C6.out w8 HA8.out).mono ?_
  rintro e w9 ⟨vE3, vL3, vP3, vX3, rfl, hm9, hb9⟩
  obtain ⟨A1, c1, rfl, -, -⟩ := hm9.e.slice
  obtain ⟨A2, c2, rfl, -, -⟩ := hm9.l.slice
  obtain ⟨A3, c3, rfl, -, -⟩ := hm9.p.slice
  obtain ⟨A4, c4, rfl, -, -⟩ := hm9.x.slice
  have hco := cells_one a A1 A2 A3 A4 a.entries.length a.list.length a.pairs.length a.lasts.length c1 c2 c3 c4
  obtain ⟨vE3, hE3⟩ : ∃ v, v = Value.slice A1 a.entries.length c1 := ⟨_, rfl⟩
  obtain ⟨vL3, hL3⟩ : ∃ v, v = Value.slice A2 a.list.length c2 := ⟨_, rfl⟩
  obtain ⟨vP3, hP3⟩ : ∃ v, v = Value.slice A3 a.pairs.length c3 := ⟨_, rfl⟩
  obtain ⟨vX3, hX3⟩ : ∃ v, v = Value.slice A4 a.lasts.length c4 := ⟨_, rfl⟩
  rw [← hE3, ← hL3, ← hP3, ← hX3] at hco hm9 ⊢
  clear hE3 hL3 hP3 hX3
  obtain ⟨cw, hcw⟩ : ∃ cw, cw = a.cells vE3 vL3 vP3 vX3 := ⟨_, rfl⟩
  rw [← hcw] at hco ⊢
  have hcw33 : cw.size = 33 := by rw [hcw]; rfl
  have hcwS : (Try.prog.info? 38).map (·.size) = some cw.size := by rw [hcw33]; exact msg_size
  have hZw : Z.size = cw.size := by rw [hZ33, hcw33]
  obtain ⟨w10, hw10⟩ : ∃ w10, w10 = w9.alloc (.cells Z 38) := ⟨_, rfl⟩
  have hb10 : Below w9.heap.size w9 w10 := by rw [hw10]; exact (Below.refl _ _).alloc (Nat.le_refl _) _
  have hu10 : w10.heap[w9.heap.size]? = some (.cells Z 38 (0, 0)) := by rw [hw10]; exact heap_alloc_new w9 _
  obtain ⟨u, hu⟩ : ∃ u, u = w9.heap.size := ⟨_, rfl⟩
  rw [← hu] at hu10
  obtain ⟨w11, hw11⟩ : ∃ w11, w11 = w10.setRow u cw := ⟨_, rfl⟩
  have hb11 : Below w9.heap.size w9 w11 := by rw [hw11]; exact below_setRow hb10 (Nat.le_of_eq hu.symm) _
  have hu11 : w11.heap[u]? = some (.cells cw 38 (0, 0)) := by rw [hw11]; exact setRow_heap w10 u Z cw _ _ hu10
  have hp9 := (hb9.block p (Array.getElem?_eq_some_iff.1 HS8.out.1).1).trans HS8.out.1
  have hp11 := (hb11.block p (Array.getElem?_eq_some_iff.1 hp9).1).trans hp9
  have hb811 : Below w8.heap.size w8 w11 := hb9.trans (Joins.below_le hb11 hb9.size)
  have HA11 := Lib.hid (HA8.out.grow hb811)
  have HM11 := Lib.hid (hm9.grow hb11)
  have HB11 := Lib.hid (HB8.out.trans (Joins.below_le hb811 HB8.out.size))
  have HW10 := Lib.hid hw10
  have HU := Lib.hid hu
  have HW11 := Lib.hid hw11
  have HP11 := Lib.hid (And.intro hp11 hu11)
  have hcwx := hcw
  have HCW := Lib.hid hcw
  clear hp8 hm9 hb9 hw10 hb10 hu hw11 hb11 hu11 hp9 hb811 hcw hcwx HS8 HA4 HA5 HA6 HA7 HC4 HC5 HC6 HC7 HC8 HB4 HB5 HB6 HB7
  go_upto_region 4 with (first
    | (rw [← HW10.out, ← HU.out]; refine wpList_store_row rfl 38 (.tmp 5) (.tmp 30) rfl u cw rfl rfl 38 Z hu10 hcwS hZw hco ?_))
  rw [← HW11.out]
  clear HW10 HW11 hu10
  go_wp2_with (first
    | (refine wpList_load_row rfl 38 (.tmp 2) rfl p rfl 38 ca (0, 0) _ hp11 Try.underlying38 rfl hcaS ?_))
  refine (C7.out w11 HA11.out).mono ?_
  rintro e w12 ⟨vE4, vL4, vP4, vX4, rfl, hm12, hb12⟩
  have hn12 := hm12.n
  obtain ⟨A5, c5, rfl, -, -⟩ := hn12.e.slice
  obtain ⟨A6, c6, rfl, -, -⟩ := hn12.l.slice
  obtain ⟨A7, c7, rfl, -, -⟩ := hn12.p.slice
  obtain ⟨A8, c8, rfl, -, -⟩ := hn12.x.slice
  have hcp := cells_one a A5 A6 A7 A8 a.entries.length a.list.length a.pairs.length a.lasts.length c5 c6 c7 c8
  obtain ⟨vE4, hE4⟩ : ∃ v, v = Value.slice A5 a.entries.length c5 := ⟨_, rfl⟩
  obtain ⟨vL4, hL4⟩ : ∃ v, v = Value.slice A6 a.list.length c6 := ⟨_, rfl⟩
  obtain ⟨vP4, hP4⟩ : ∃ v, v = Value.slice A7 a.pairs.length c7 := ⟨_, rfl⟩
  obtain ⟨vX4, hX4⟩ : ∃ v, v = Value.slice A8 a.lasts.length c8 := ⟨_, rfl⟩
  rw [← hE4, ← hL4, ← hP4, ← hX4] at hcp hm12 ⊢
  clear hE4 hL4 hP4 hX4 hn12
  obtain ⟨cx, hcx⟩ : ∃ cx, cx = a.cells vE4 vL4 vP4 vX4 := ⟨_, rfl⟩
  rw [← hcx] at hcp ⊢
  have hcx33 : cx.size = 33 := by rw [hcx]; rfl
  have hcxS : (Try.prog.info? 38).map (·.size) = some cx.size := by rw [hcx33]; exact msg_size
  have hZx : Z.size = cx.size := by rw [hZ33, hcx33]
  obtain ⟨w13, hw13⟩ : ∃ w13, w13 = w12.alloc (.cells Z 38) := ⟨_, rfl⟩
  have hb13 : Below w12.heap.size w12 w13 := by rw [hw13]; exact (Below.refl _ _).alloc (Nat.le_refl _) _
  have hv13 : w13.heap[w12.heap.size]? = some (.cells Z 38 (0, 0)) := by rw [hw13]; exact heap_alloc_new w12 _
  obtain ⟨v, hv⟩ : ∃ v, v = w12.heap.size := ⟨_, rfl⟩
  rw [← hv] at hv13
  obtain ⟨w14, hw14⟩ : ∃ w14, w14 = w13.setRow v cx := ⟨_, rfl⟩
  have hb14 : Below w12.heap.size w12 w14 := by rw [hw14]; exact below_setRow hb13 (Nat.le_of_eq hv.symm) _
  have hv14 : w14.heap[v]? = some (.cells cx 38 (0, 0)) := by rw [hw14]; exact setRow_heap w13 v Z cx _ _ hv13
  have hB14 : Below w11.heap.size w11 w14 := hb12.trans (Joins.below_le hb14 hb12.size)
  have hp14 := (hB14.block p (Array.getElem?_eq_some_iff.1 HP11.out.1).1).trans HP11.out.1
  have hm14 := hm12.below hb14
  have c10 := C8.out w14 vE4 vL4 vP4 vX4 hm14.n (HA11.out.grow hB14)
  rw [← hcx] at c10
  have HM14 := Lib.hid hm14
  have HB14 := Lib.hid hB14
  have HW13 := Lib.hid hw13
  have HV := Lib.hid hv
  have HW14 := Lib.hid hw14
  have HV14 := Lib.hid hv14
  have HC10 := Lib.hid c10
  have HCX := Lib.hid hcx
  clear hp11 hm12 hb12 hw13 hb13 hv hw14 hb14 hB14 hm14 c10 hcx hco hcwS hZw
  go_upto_region 5 with (first
    | (rw [← HW13.out, ← HV.out]; refine wpList_store_row rfl 38 (.tmp 6) (.tmp 32) rfl v cx rfl rfl 38 Z hv13 hcxS hZx hcp ?_))
  rw [← HW14.out]
  clear HW13 HW14 hv13
  go_wp2_with (first
    | (refine wpList_load_row rfl 38 (.tmp 2) rfl p rfl 38 ca (0, 0) _ hp14 Try.underlying38 rfl hcaS ?_)
    | (refine wpList_load_row rfl 38 (.tmp 6) rfl v rfl 38 cx (0, 0) _ hv14 Try.underlying38 rfl hcxS ?_))
  refine HC10.out.mono ?_
  rintro e w15 ⟨rfl, hb15⟩
  have hv15 := (hb15.block v (Array.getElem?_eq_some_iff.1 HV14.out).1).trans HV14.out
  have hB15 : Below w11.heap.size w11 w15 := HB14.out.trans (Joins.below_le hb15 HB14.out.size)
  have cSp := spoil_any a vE4 vL4 vP4 vX4 w11.heap.size w15 (HM14.out.below hb15) hB15.size HN.out
  rw [← HCX.out] at cSp
  have HB15 := Lib.hid hB15
  clear hp14 hv14 hb15 hB15
  go_wp2_with (first
    | (refine wpList_load_row rfl 38 (.tmp 6) rfl v rfl 38 cx (0, 0) _ hv15 Try.underlying38 rfl hcxS ?_))
  refine cSp.mono ?_
  rintro e w16 ⟨rfl, hb16⟩
  have hB16 : Below w11.heap.size w11 w16 := HB15.out.trans hb16
  have hp16 := (hB16.block p (Array.getElem?_eq_some_iff.1 HP11.out.1).1).trans HP11.out.1
  have hu16 := (hB16.block u (Array.getElem?_eq_some_iff.1 HP11.out.2).1).trans HP11.out.2
  have c11 := C9.out w16 vE3 vL3 vP3 vX3 (HM11.out.grow hB16) (HA11.out.grow hB16)
  rw [← HCW.out] at c11
  have hcwS : (Try.prog.info? 38).map (·.size) = some cw.size := by rw [hcw33]; exact msg_size
  have HF := Lib.hid (HB11.out.trans (Joins.below_le hB16 HB11.out.size))
  have HC11 := Lib.hid c11
  have hs16 := hB16.size
  clear hv15 hb16 hB16 c11 cSp
  go_wp2_with (first
    | (refine wpList_load_row rfl 38 (.tmp 2) rfl p rfl 38 ca (0, 0) _ hp16 Try.underlying38 rfl hcaS ?_)
    | (refine wpList_load_row rfl 38 (.tmp 5) rfl u rfl 38 cw (0, 0) _ hu16 Try.underlying38 rfl hcwS ?_))
  refine HC11.out.mono ?_
  rintro e w17 ⟨rfl, hb17⟩
  have HF2 := Lib.hid (HF.out.trans (Joins.below_le hb17 HF.out.size))
  clear hb17 hp16 hu16
  go_wp2_with fail
  go_ret
  exact ⟨rfl, HF2.out⟩
end Go.Proofs.Yteaejihhdnndhaa
