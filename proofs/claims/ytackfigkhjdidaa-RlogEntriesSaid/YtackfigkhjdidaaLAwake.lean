/-
  The examples: what each law asks first. No statement is proved here. No condition.
-/
import Derived.Test.YtackfigkhjdidaaLMerge
namespace Go.Proofs.Ytackfigkhjdidaa
open Go.RowKit

def nE (t : Int) : EN := ⟨t, 1, ⟨#[]⟩, []⟩
def nR (t : Int) : RE := ⟨t, 1, ⟨#[]⟩, none, 0, 0⟩
theorem lit_ents {w : World} {b : Nat} {N : Nat → Prop} (ts : List Int) (hl : ts.length ≤ 1000000) (h : w.heap[b]? = some (.cells (entR.row (ts.map nR)).toArray 50 (0, 0))) (hN : N b) : EntN w N (.slice (some ⟨b, 0, none⟩) ts.length ts.length) (ts.map nE) := by
  refine ⟨ts.map nR, ⟨_, ts.length, by rw [List.length_map], by rw [entR.row_length], by rw [List.length_map]; exact Nat.le_refl _, by unfold maxLen; omega, (fun h => by cases h), fun _ => ⟨b, 0, rfl, hN, (Array.getElem?_eq_some_iff.1 h).1, fun j u hu => ?_⟩⟩, by rw [List.length_map, List.length_map], fun i r e hr he => ?_⟩
  · rw [Nat.zero_add, (blk_cells h).1 j, List.getElem?_toArray]
    exact hu
  · rw [List.getElem?_map] at hr he
    cases hx : ts[i]? with
    | none => rw [hx] at hr; cases hr
    | some t =>
      rw [hx] at hr he
      have hr := Option.some.inj hr
      have he := Option.some.inj he
      subst hr he
      exact ⟨rfl, rfl, rfl, rfl, Rec.N.nil _ _⟩
theorem LogAt.off {w W : World} {B p : Nat} {v : Value} {g : LG} (h : LogAt w B p v g) : OffLog W p v (fun b => w.heap.size ≤ b) := fun b hb _ => by
  obtain ⟨rs, he⟩ := h.ent
  refine ⟨fun e => ?_, fun e => ?_⟩
  · have := lt_of_heap h.blk
    omega
  · have := (he.row.lt b e).2
    omega
set_option maxRecDepth 100000 in
theorem noop_any (t : Int) (w : World) : Calls Try.prog 81 #[.int .i64 t] w fun e w' => e = .returned (.agg #[.int .i64 t, .int .u8 1, .string ⟨#[]⟩, .slice none 0 0]) ∧ Below w.heap.size w w' := by
  obtain ⟨w1, hw1⟩ : ∃ w1, w1 = w.alloc (.cells #[.int .i64 0, .int .u8 0, .string ⟨#[]⟩, .slice none 0 0] 50) := ⟨_, rfl⟩
  have hb1 : Below w.heap.size w w1 := by rw [hw1]; exact (Below.refl _ _).alloc (Nat.le_refl _) _
  have hq1 : w1.heap[w.heap.size]? = some (.cells #[.int .i64 0, .int .u8 0, .string ⟨#[]⟩, .slice none 0 0] 50 (0, 0)) := by rw [hw1]; exact heap_alloc_new w _
  have hz := zero_ent
  have hB2 := below_setRow hb1 (Nat.le_refl w.heap.size) #[.int .i64 t, .int .u8 1, .string ⟨#[]⟩, .slice none 0 0]
  have hfr := setRow_heap w1 w.heap.size _ #[.int .i64 t, .int .u8 1, .string ⟨#[]⟩, .slice none 0 0] _ _ hq1
  have HB2 := Lib.hid hB2
  have HW1 := Lib.hid hw1
  clear hw1 hb1 hB2
  go_enter Try.func81, Try.ntmps81
  go_upto_region 1 with fail
  rw [← HW1.out]
  go_wp2_with (refine wpList_store_row rfl 50 (.tmp 2) (.tmp 4) rfl w.heap.size #[.int .i64 t, .int .u8 1, .string ⟨#[]⟩, .slice none 0 0] rfl rfl 50 _ hq1 (ent_sized _ _ _ _) rfl (by simp [Value.oneCell']) ?_)
  refine bodyPost_ret (v := .agg #[.int .i64 t, .int .u8 1, .string ⟨#[]⟩, .slice none 0 0]) ?_ rfl ⟨rfl, HB2.out⟩
  exact results_cell_row rfl _ _ w.heap.size 50 #[.int .i64 t, .int .u8 1, .string ⟨#[]⟩, .slice none 0 0] (0, 0) _ rfl hfr Try.underlying50 rfl (ent_sized _ _ _ _)
end Go.Proofs.Ytackfigkhjdidaa
