/-
  PROVED HERE: DedupApart: what is done to one key changes no other one, and what one client does changes no other one's last write: for all lists, every write, any other key and client, in whatever memory the law is called, it returns true, its arguments read as they did, and nothing that was there has turned. No condition.
-/
import Derived.Test.YtlgjidoehnhnoaaEApart
import Derived.Test.YtlgjidoehnhnoaaEArgs
namespace Go.Proofs.Ytlgjidoehnhnoaa
open Go.ChangeShapes Go.WideShapes Go.ChangeAt Go.RowKit
open Go.ChangeMaps (open_string shut_string)

set_option maxRecDepth 100000 in
theorem apart_lifted (os : Os) (started : os.Started) (H : Type) (enc : TypeId × Value → H) :
    ReturnsInHanded {} Try.checked os 8 .any (Rows.dedupApartSpec.pre6 enc Try.prog Try.f8 Rows.dedupApartRow.domain false) (Rows.dedupApartSpec.post enc Try.prog Try.f8 false true false false) := by
  refine returnsInHanded_of_change_sized (C := Try.checked) args_knob started (by kernel_rfl) Try.func8
    (ChangeSpec.witness6 (enc := enc) (C := Try.checked) false ⟨#[], #[.slice none 0 0, .slice none 0 0, .int .i64 0, .int .i64 0, .agg #[.int .u8 0, .string ⟨#[]⟩, .string ⟨#[]⟩, .string ⟨#[]⟩, .bool false], .string ByteArray.empty, .int .i64 0], []⟩ 8 (by kernel_rfl) (by kernel_rfl) (by kernel_rfl) (by kernel_rfl)) ?_
  intro W base args ds gs before hval0 hW _ hsz0 _
  have hsz : (DataW.weightsEach Try.prog (Try.f8.params.toList ++ Rows.dedupApartSpec.plain.varTypes Try.prog) (ds ++ gs)).all (· ≤ reachBytes) = true := hsz0
  clear hsz0
  have hval : ∀ (j : Nat) t v, Try.f8.params[j]? = some t → args[j]? = some v → Value.okWide Try.prog W .any base t v := hval0
  have hW' := hW
  obtain ⟨p, q, hA0, hV, rfl, _, _⟩ := hW
  have hA : DataW.TrodAll enc Try.prog W 0 (fun _ => true) true Try.f8.params.toList args.toList ds p := hA0
  rw [Try.params8] at hA hval hsz
  obtain ⟨v0, vs0, d0, ds0, p0, q0, hargs, rfl, rfl, h0, r0⟩ := trodAll_cons hA
  obtain ⟨v1, vs1, d1, ds1, p1, q1, rfl, rfl, rfl, h1, r1⟩ := trodAll_cons r0
  obtain ⟨v2, vs2, d2, ds2, p2, q2, rfl, rfl, rfl, h2, r2⟩ := trodAll_cons r1
  obtain ⟨v3, vs3, d3, ds3, p3, q3, rfl, rfl, rfl, h3, r3⟩ := trodAll_cons r2
  obtain ⟨v4, vs4, d4, ds4, p4, q4, rfl, rfl, rfl, h4, r4⟩ := trodAll_cons r3
  obtain ⟨v5, vs5, d5, ds5, p5, q5, rfl, rfl, rfl, h5, r5⟩ := trodAll_cons r4
  obtain ⟨v6, vs6, d6, ds6, p6, q6, rfl, rfl, rfl, h6, r6⟩ := trodAll_cons r5
  obtain ⟨rfl, rfl, rfl⟩ := trodAll_nil r6
  obtain rfl : args = #[v0, v1, v2, v3, v4, v5, v6] := by cases args; simp_all
  obtain ⟨rfl, rfl⟩ := trodVars_none hV
  obtain ⟨a0, len0, cap0, rfl⟩ := okWide_slice Try.underlying25 (hval 0 25 v0 rfl rfl)
  have lt0 : ∀ x ∈ p0, x.block < W.heap.size := by obtain ⟨m, hm⟩ := h0; exact DataW.trod_lt m _ _ _ hm
  obtain ⟨l0, hn0, hl0⟩ : ∃ l, pairR.N W Any (.slice a0 len0 cap0) l ∧ l.length ≤ 4398046510976 := by
    obtain ⟨m, hm⟩ := h0
    obtain ⟨⟨l, hl, hn⟩, hd⟩ := open_rec (R := pairR) Try.underlying25 cells_9.2.2.2.2.1 (by decide) (fun n cs y h => one_pair h) hm
    refine ⟨l, hn, ?_⟩
    rcases hd with ⟨-, hd⟩ | ⟨el, sp, hd, hle⟩
    · omega
    · dsimp only at hd
      have := sized_slice hsz (j := 0) (t := 25) (e := 24) rfl (by rw [← hd]; rfl) Try.underlying25
      rw [cells_9.2.2.2.2.2.2.2.2.1] at this
      simp only [reachBytes] at this
      omega
  obtain ⟨a1, len1, cap1, rfl⟩ := okWide_slice Try.underlying33 (hval 1 33 v1 rfl rfl)
  have lt1 : ∀ x ∈ p1, x.block < W.heap.size := by obtain ⟨m, hm⟩ := h1; exact DataW.trod_lt m _ _ _ hm
  obtain ⟨l1, hn1, hl1⟩ : ∃ l, lastR.N W Any (.slice a1 len1 cap1) l ∧ l.length ≤ 3518437208780 := by
    obtain ⟨m, hm⟩ := h1
    obtain ⟨⟨l, hl, hn⟩, hd⟩ := open_rec (R := lastR) Try.underlying33 cells_9.2.2.2.2.2.1 (by decide) (fun n cs y h => one_last h) hm
    refine ⟨l, hn, ?_⟩
    rcases hd with ⟨-, hd⟩ | ⟨el, sp, hd, hle⟩
    · omega
    · dsimp only at hd
      have := sized_slice hsz (j := 1) (t := 33) (e := 46) rfl (by rw [← hd]; rfl) Try.underlying33
      rw [cells_9.2.2.2.2.2.2.2.2.2] at this
      simp only [reachBytes] at this
      omega
  obtain ⟨n2, rfl, rfl, rfl, w2⟩ := open_int Try.underlying3 (hval 2 3 v2 rfl rfl) h2
  have hi2 := bounds_i64 w2
  obtain ⟨n3, rfl, rfl, rfl, w3⟩ := open_int Try.underlying3 (hval 3 3 v3 rfl rfl) h3
  have hi3 := bounds_i64 w3
  obtain ⟨fs4, hfs4, -⟩ := op_struct
  obtain ⟨cs4, rfl, -⟩ := okWide_struct hfs4 (hval 4 32 v4 rfl rfl)
  have lt4 : ∀ x ∈ p4, x.block < W.heap.size := by obtain ⟨m, hm⟩ := h4; exact DataW.trod_lt m _ _ _ hm
  obtain ⟨o4, ho4, hk4, hkey4⟩ : ∃ o : PO, Value.agg cs4 = o.agg ∧ (0 ≤ o.kind ∧ o.kind ≤ 255) ∧ o.key.size ≤ 140737488355328 := by
    obtain ⟨m, hm⟩ := h4
    obtain ⟨o, h1, h2, h3⟩ := open_op hm (fun q hq => by simpa using List.all_eq_true.1 hsz _ (DataW.weights_mem_each (j := 4) (t := 32) rfl rfl _ hq))
    exact ⟨o, h1, h2, h3⟩
  obtain ⟨s5, rfl, rfl, rfl, w5⟩ := open_string Try.underlying9 (hval 5 9 v5 rfl rfl) h5
  have hs5 : s5.size ≤ 140737488355328 := by
    have h1 := List.all_eq_true.1 hsz _ (DataW.weights_mem_each (j := 5) (t := 9) rfl rfl s5.data.toList.length (by simp [DataW.weights]))
    have h2 : s5.data.toList.length = s5.size := by simp
    have h3 : s5.data.toList.length ≤ 0x7ffffffff000 := of_decide_eq_true h1
    omega
  obtain ⟨n6, rfl, rfl, rfl, w6⟩ := open_int Try.underlying3 (hval 6 3 v6 rfl rfl) h6
  have hi6 := bounds_i64 w6
  clear hA0 hval0 hsz
  have hcall : Calls Try.prog 8 #[.slice a0 len0 cap0, .slice a1 len1 cap1, .int .i64 n2, .int .i64 n3, .agg cs4, .string s5, .int .i64 n6] W fun e w' => e = .returned (.bool true) ∧ Below W.heap.size W w' := by
    rw [ho4]
    exact apart_walk l0 l1 n2 n3 o4 s5 n6 _ _ W hn0 hn1 hl0 hl1 hk4
  refine hcall.mono fun e W' ⟨he, bel⟩ => ?_
  subst he
  exact ⟨_, rfl, _, _, _, [], _, [], hW', trodAll_mk1 (shut_bool Try.underlying4 _), (trodAll_cons_mk (Below.trod args_laid (by kernel_rfl) (of_decide_eq_true (by kernel_rfl)) h0 bel lt0) (trodAll_cons_mk (Below.trod args_laid (by kernel_rfl) (of_decide_eq_true (by kernel_rfl)) h1 bel lt1) (trodAll_cons_mk (shut_int Try.underlying3 w2) (trodAll_cons_mk (shut_int Try.underlying3 w3) (trodAll_cons_mk (Below.trod args_laid (by kernel_rfl) (of_decide_eq_true (by kernel_rfl)) h4 bel lt4) (trodAll_cons_mk (shut_string Try.underlying9 w5) (trodAll_cons_mk (shut_int Try.underlying3 w6) trodAll_mk0))))))), rfl, bel.frame _, fun h => by cases h⟩

theorem apart_holds : Rows.DedupApartSaid :=
  OpenClaim.holds_of_wide 8 Try.f8 rfl rfl rfl rfl rfl rfl rfl ⟨rfl, rfl, rfl, rfl, rfl⟩ rfl rfl rfl rfl rfl (by kernel_rfl) Try.func8 (by kernel_rfl)
    (of_decide_eq_true (by kernel_rfl)) (by unfold Func.isWrapper; first | (rw [if_pos (by decide +kernel)]; kernel_rfl) | (rw [if_neg (by decide +kernel)]; exact ⟨rfl, rfl⟩))
    (fun os started H enc _ => apart_lifted os started H enc)
end Go.Proofs.Ytlgjidoehnhnoaa
