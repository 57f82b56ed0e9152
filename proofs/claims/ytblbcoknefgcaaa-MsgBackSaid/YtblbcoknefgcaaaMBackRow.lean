/-
  PROVED HERE: MsgBack: each message that may be is read of its bytes as it was, and two have the same bytes just if they are the same: for any two messages, in whatever memory the law is called, it returns true, its arguments read as they did, and nothing that was there has turned. No condition.
-/
import Derived.Test.YtblbcoknefgcaaaMBack
import Derived.Test.YtblbcoknefgcaaaMArgsR
namespace Go.Proofs.Ytblbcoknefgcaaa
open Go.ChangeShapes Go.WideShapes Go.ChangeAt Go.RowKit

set_option maxRecDepth 100000 in
theorem back_lifted (os : Os) (started : os.Started) (H : Type) (enc : TypeId × Value → H) :
    ReturnsInHanded {} Try.checked os 6 .any (Rows.msgBackSpec.pre6 enc Try.prog Try.f6 Rows.msgBackRow.domain false) (Rows.msgBackSpec.post enc Try.prog Try.f6 false true false false) := by
  refine returnsInHanded_of_change_sized (C := Try.checked) args_knob started (by kernel_rfl) Try.func6
    (ChangeSpec.witness6 (enc := enc) (C := Try.checked) false ⟨#[], #[.agg zC, .agg zC], []⟩ 8 (by kernel_rfl) (by kernel_rfl) (by kernel_rfl) (by kernel_rfl)) ?_
  intro W base args ds gs before hval0 hW _ hsz0 _
  have hsz : (DataW.weightsEach Try.prog (Try.f6.params.toList ++ Rows.msgBackSpec.plain.varTypes Try.prog) (ds ++ gs)).all (· ≤ reachBytes) = true := hsz0
  clear hsz0
  have hval : ∀ (j : Nat) t v, Try.f6.params[j]? = some t → args[j]? = some v → Value.okWide Try.prog W .any base t v := hval0
  have hW' := hW
  obtain ⟨p, q, hA0, hV, rfl, _, _⟩ := hW
  have hA : DataW.TrodAll enc Try.prog W 0 (fun _ => true) true Try.f6.params.toList args.toList ds p := hA0
  rw [Try.params6] at hA hval hsz
  obtain ⟨v0, vs0, d0, ds0, p0, q0, hargs, rfl, rfl, h0, r0⟩ := trodAll_cons hA
  obtain ⟨v1, vs1, d1, ds1, p1, q1, rfl, rfl, rfl, h1, r1⟩ := trodAll_cons r0
  obtain ⟨rfl, rfl, rfl⟩ := trodAll_nil r1
  obtain rfl : args = #[v0, v1] := by cases args; simp_all
  obtain ⟨rfl, rfl⟩ := trodVars_none hV
  obtain ⟨fs, hfs, -⟩ := msg_struct
  obtain ⟨cs0, rfl, -⟩ := okWide_struct hfs (hval 0 38 v0 rfl rfl)
  obtain ⟨cs1, rfl, -⟩ := okWide_struct hfs (hval 1 38 v1 rfl rfl)
  have lt0 : ∀ x ∈ p0, x.block < W.heap.size := by obtain ⟨m, hm⟩ := h0; exact DataW.trod_lt m _ _ _ hm
  obtain ⟨m0, vE0, vL0, vP0, vX0, hc0, hl0, hs0, hf0, ht0⟩ : ∃ (m : MG) (vE vL vP vX : Value), cs0 = m.cells vE vL vP vX ∧ MsgL W Any m vE vL vP vX ∧ MsgS m ∧ m.fit ∧ m.texts := by
    obtain ⟨k, hm⟩ := h0
    obtain ⟨m, vE, vL, vP, vX, h1, h2, h3⟩ := one_msgR hm (fun q hq => by simpa using List.all_eq_true.1 hsz _ (DataW.weights_mem_each (j := 0) (t := 38) rfl rfl _ hq))
    exact ⟨m, vE, vL, vP, vX, Array.toList_inj.1 h1, h2, h3⟩
  have lt1 : ∀ x ∈ p1, x.block < W.heap.size := by obtain ⟨m, hm⟩ := h1; exact DataW.trod_lt m _ _ _ hm
  obtain ⟨m1, vE1, vL1, vP1, vX1, hc1, hl1, hs1, hf1, ht1⟩ : ∃ (m : MG) (vE vL vP vX : Value), cs1 = m.cells vE vL vP vX ∧ MsgL W Any m vE vL vP vX ∧ MsgS m ∧ m.fit ∧ m.texts := by
    obtain ⟨k, hm⟩ := h1
    obtain ⟨m, vE, vL, vP, vX, h1, h2, h3⟩ := one_msgR hm (fun q hq => by simpa using List.all_eq_true.1 hsz _ (DataW.weights_mem_each (j := 1) (t := 38) rfl rfl _ hq))
    exact ⟨m, vE, vL, vP, vX, Array.toList_inj.1 h1, h2, h3⟩
  clear hA0 hval0 hsz
  have hcall : Calls Try.prog 6 #[.agg cs0, .agg cs1] W fun e w' => e = .returned (.bool true) ∧ Below W.heap.size W w' := by
    rw [hc0, hc1]
    exact back_walk m0 m1 _ _ _ _ _ _ _ _ W hl0 hl1 hf0 ht0 hf1 ht1
  refine hcall.mono fun e W' ⟨he, bel⟩ => ?_
  subst he
  exact ⟨_, rfl, _, _, _, [], _, [], hW', trodAll_mk1 (shut_bool Try.underlying4 _), (trodAll_cons_mk (Below.trod args_laid (by kernel_rfl) (of_decide_eq_true (by kernel_rfl)) h0 bel lt0) (trodAll_cons_mk (Below.trod args_laid (by kernel_rfl) (of_decide_eq_true (by kernel_rfl)) h1 bel lt1) trodAll_mk0)), rfl, bel.frame _, fun h => by cases h⟩

theorem back_holds : Rows.MsgBackSaid :=
  OpenClaim.holds_of_wide 6 Try.f6 rfl rfl rfl rfl rfl rfl rfl ⟨rfl, rfl, rfl, rfl, rfl⟩ rfl rfl rfl rfl rfl (by kernel_rfl) Try.func6 (by kernel_rfl)
    (of_decide_eq_true (by kernel_rfl)) (by unfold Func.isWrapper; first | (rw [if_pos (by decide +kernel)]; kernel_rfl) | (rw [if_neg (by decide +kernel)]; exact ⟨rfl, rfl⟩))
    (fun os started H enc _ => back_lifted os started H enc)
end Go.Proofs.Ytblbcoknefgcaaa
