/-
  PROVED HERE: RlogEntries: whether an entry may be, its bytes, and the entry of any bytes, is as the document says: for every entry and any bytes, in whatever memory the law is called, it returns true, its arguments read as they did, and nothing that was there has turned. No condition.
-/
import Derived.Test.YtackfigkhjdidaaLEntries
import Derived.Test.YtackfigkhjdidaaLArgs
namespace Go.Proofs.Ytackfigkhjdidaa
open Go.ChangeShapes Go.WideShapes Go.ChangeAt Go.RowKit

set_option maxRecDepth 100000 in
theorem entries_lifted (os : Os) (started : os.Started) (H : Type) (enc : TypeId × Value → H) :
    ReturnsInHanded {} Try.checked os 8 .any (Rows.rlogEntriesSpec.pre6 enc Try.prog Try.f8 Rows.rlogEntriesRow.domain false) (Rows.rlogEntriesSpec.post enc Try.prog Try.f8 false true false false) := by
  refine returnsInHanded_of_change_sized (C := Try.checked) args_knob started (by kernel_rfl) Try.func8
    (ChangeSpec.witness6 (enc := enc) (C := Try.checked) false ⟨#[], #[.agg #[.int .i64 0, .int .u8 0, .string ⟨#[]⟩, .slice none 0 0], .slice none 0 0], []⟩ 8 (by kernel_rfl) (by kernel_rfl) (by kernel_rfl) (by kernel_rfl)) ?_
  intro W base args ds gs before hval0 hW _ hsz0 _
  have hsz : (DataW.weightsEach Try.prog (Try.f8.params.toList ++ Rows.rlogEntriesSpec.plain.varTypes Try.prog) (ds ++ gs)).all (· ≤ reachBytes) = true := hsz0
  clear hsz0
  have hval : ∀ (j : Nat) t v, Try.f8.params[j]? = some t → args[j]? = some v → Value.okWide Try.prog W .any base t v := hval0
  have hW' := hW
  obtain ⟨p, q, hA0, hV, rfl, _, _⟩ := hW
  have hA : DataW.TrodAll enc Try.prog W 0 (fun _ => true) true Try.f8.params.toList args.toList ds p := hA0
  rw [Try.params8] at hA hval hsz
  obtain ⟨v0, vs0, d0, ds0, p0, q0, hargs, rfl, rfl, h0, r0⟩ := trodAll_cons hA
  obtain ⟨v1, vs1, d1, ds1, p1, q1, rfl, rfl, rfl, h1, r1⟩ := trodAll_cons r0
  obtain ⟨rfl, rfl, rfl⟩ := trodAll_nil r1
  obtain rfl : args = #[v0, v1] := by cases args; simp_all
  obtain ⟨rfl, rfl⟩ := trodVars_none hV
  obtain ⟨fs, hfs, -⟩ := entry_struct
  obtain ⟨cs0, rfl, -⟩ := okWide_struct hfs (hval 0 50 v0 rfl rfl)
  have lt0 : ∀ x ∈ p0, x.block < W.heap.size := by obtain ⟨m, hm⟩ := h0; exact DataW.trod_lt m _ _ _ hm
  obtain ⟨x0, A0, c0, hc0, hl0, hs0, hd0⟩ : ∃ (x : EN) (A : Option Addr) (c : Nat), cs0 = #[.int .i64 x.term, .int .u8 x.kind, .string x.data, .slice A x.list.length c] ∧ inR.N W Any (.slice A x.list.length c) x.list ∧ x.list.length ≤ 17592186044416 ∧ x.data.size ≤ 140737488355328 := by
    obtain ⟨k, hm⟩ := h0
    obtain ⟨⟨⟨r, L⟩, e1, e2, e3, e4⟩, hv⟩ := one_entry hm (fun q hq => by simpa using List.all_eq_true.1 hsz _ (DataW.weights_mem_each (j := 0) (t := 50) rfl rfl _ hq))
    dsimp only at e1 e2 e3 e4
    refine ⟨⟨r.term, r.kind, r.data, L⟩, r.la, r.lc, ?_, ?_, e3, e4⟩
    · apply Array.toList_inj.1
      refine Eq.trans hv ?_
      show [Value.int .i64 r.term, .int .u8 r.kind, .string r.data, .slice r.la r.ln r.lc] = _
      rw [e2]
    · rw [← e2]
      exact e1
  obtain ⟨a1, len1, cap1, rfl⟩ := okWide_slice Try.underlying23 (hval 1 23 v1 rfl rfl)
  have lt1 : ∀ x ∈ p1, x.block < W.heap.size := by obtain ⟨m, hm⟩ := h1; exact DataW.trod_lt m _ _ _ hm
  obtain ⟨l1, hl1, hrd1, hd1, hdn1⟩ := open_bytes h1
  have hlen1 := reach_bytes hsz (j := 1) rfl rfl hd1 hdn1
  clear hA0 hval0 hsz hd1 hdn1
  have hcall : Calls Try.prog 8 #[.agg cs0, .slice a1 len1 cap1] W fun e w' => e = .returned (.bool true) ∧ Below W.heap.size W w' := by
    rw [hc0]
    exact entries_walk x0 A0 c0 l1 _ W hl0 hs0 hd0 hrd1 (by omega)
  refine hcall.mono fun e W' ⟨he, bel⟩ => ?_
  subst he
  exact ⟨_, rfl, _, _, _, [], _, [], hW', trodAll_mk1 (shut_bool Try.underlying4 _), (trodAll_cons_mk (Below.trod args_laid (by kernel_rfl) (of_decide_eq_true (by kernel_rfl)) h0 bel lt0) (trodAll_cons_mk (Below.trod args_laid (by kernel_rfl) (of_decide_eq_true (by kernel_rfl)) h1 bel lt1) trodAll_mk0)), rfl, bel.frame _, fun h => by cases h⟩

theorem entries_holds : Rows.RlogEntriesSaid :=
  OpenClaim.holds_of_wide 8 Try.f8 rfl rfl rfl rfl rfl rfl rfl ⟨rfl, rfl, rfl, rfl, rfl⟩ rfl rfl rfl rfl rfl (by kernel_rfl) Try.func8 (by kernel_rfl)
    (of_decide_eq_true (by kernel_rfl)) (by unfold Func.isWrapper; first | (rw [if_pos (by decide +kernel)]; kernel_rfl) | (rw [if_neg (by decide +kernel)]; exact ⟨rfl, rfl⟩))
    (fun os started H enc _ => entries_lifted os started H enc)
end Go.Proofs.Ytackfigkhjdidaa
