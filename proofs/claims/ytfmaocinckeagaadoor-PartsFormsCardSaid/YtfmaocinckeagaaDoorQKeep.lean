/-
  The program's keep. No statement is proved here. No condition.
-/
import Derived.Test.YtfmaocinckeagaaDoorQAdd
namespace Go.Proofs.YtfmaocinckeagaaDoor
open Go.RowKit

/-- a joiner's own blocks -/
def foot (j mb : Nat) (rv : Value) (L : List KE) (b : Nat) : Prop := b = j ∨ b = mb ∨ rv.ownBlock = some b ∨ ∃ e ∈ L, b = e.p ∨ b = e.s
section
variable {w w' : World} {G : Nat → Prop} {j mb n : Nat} {rv : Value} {L : List KE}
theorem foot_sub (h : JAt w G j mb rv n L) {b : Nat} (hb : foot j mb rv L b) : G b ∧ b < w.heap.size := by
  rcases hb with rfl | rfl | hb | ⟨e, he, rfl | rfl⟩
  · exact ⟨h.gj, h.lt⟩
  · exact ⟨h.gm, h.map.lt⟩
  · exact ⟨h.gr b hb, (h.row.lt b hb).2⟩
  · exact ⟨(h.ge e he).1, (h.msg e he).ltp⟩
  · exact ⟨(h.ge e he).2, (h.msg e he).lts⟩
theorem JAt.tight (h : JAt w G j mb rv n L) : JAt w (foot j mb rv L) j mb rv n L :=
  ⟨h.obj, h.row, h.map, h.msg, h.good, h.keys, h.ps, h.ss, .inl rfl, .inr (.inl rfl), fun b hb => .inr (.inr (.inl hb)), fun e he => ⟨.inr (.inr (.inr ⟨e, he, .inl rfl⟩)), .inr (.inr (.inr ⟨e, he, .inr rfl⟩))⟩⟩
theorem MsgAt.out (h : JAt w G j mb rv n L) {e : KE} (he : MsgAt w e) (h1 : ∀ x ∈ L, x.p ≠ e.p) (h2 : ∀ x ∈ L, x.s ≠ e.s) : ¬ foot j mb rv L e.p ∧ ¬ foot j mb rv L e.s := by
  obtain ⟨a1, a2, a3, a4, a5, a6⟩ := h.far he
  have t := types_11.2.2.2.2.2
  refine ⟨fun hb => ?_, fun hb => ?_⟩
  · rcases hb with hb | hb | hb | ⟨x, hx, hb | hb⟩
    · exact a1 hb
    · exact a2 hb
    · exact a3 hb
    · exact h1 x hx hb.symm
    · exact apart_T he.obj (h.msg x hx).row t hb
  · rcases hb with hb | hb | hb | ⟨x, hx, hb | hb⟩
    · exact a4 hb
    · exact a5 hb
    · exact a6 hb
    · exact apart_T (h.msg x hx).obj he.row t hb.symm
    · exact h2 x hx hb.symm
/-- the joiner, a message more -/
theorem JAt.added {rv' : Value} {e : KE} (h : JAt w G j mb rv n L) (hs : ∀ b, b < w.heap.size → b ≠ j → b ≠ mb → rv.ownBlock ≠ some b → w'.heap[b]? = w.heap[b]?) (ho : w'.heap[j]? = some (.cells #[.map (some mb), rv'] 63 (0, 0)))
    (hr : keyR.Own w' 0 67 rv' (L.map KE.key ++ [e.key])) (hm : MapJ w' mb (n + 1) (pairs L ++ [(e.key, e.p)])) (hgr : ∀ b, rv'.ownBlock = some b → G b) (he : MsgAt w e) (hk : e.key.good) (hn : ∀ x ∈ L, x.key ≠ e.key) (h1 : ∀ x ∈ L, x.p ≠ e.p) (h2 : ∀ x ∈ L, x.s ≠ e.s) (hgp : G e.p) (hgs : G e.s) :
    JAt w' G j mb rv' (n + 1) (L ++ [e]) := by
  have keep : ∀ x, MsgAt w x → MsgAt w' x := fun x hx => by
    obtain ⟨a1, a2, a3, a4, a5, a6⟩ := h.far hx
    exact hx.same (hs _ hx.ltp a1 a2 a3) (hs _ hx.lts a4 a5 a6)
  have nd : ∀ {α : Type} (f : KE → α), (L.map f).Nodup → (∀ x ∈ L, f x ≠ f e) → ((L ++ [e]).map f).Nodup := fun f hf hne => by
    rw [List.map_append, List.nodup_append]
    refine ⟨hf, by simp, fun a ha b hb => ?_⟩
    obtain ⟨x, hx, rfl⟩ := List.mem_map.1 ha
    simp at hb
    rw [hb]
    exact hne x hx
  have mem : ∀ {p : KE → Prop}, (∀ x ∈ L, p x) → p e → ∀ x ∈ L ++ [e], p x := fun hp he x hx => by
    rcases List.mem_append.1 hx with hx | hx
    · exact hp x hx
    · rw [List.mem_singleton.1 hx]; exact he
  exact ⟨ho, by rw [List.map_append]; exact hr, by unfold pairs at *; rw [List.map_append]; exact hm, mem (fun x hx => keep x (h.msg x hx)) (keep e he), mem h.good hk, nd _ h.keys hn, nd _ h.ps h1, nd _ h.ss h2, h.gj, h.gm, hgr, mem h.ge ⟨hgp, hgs⟩⟩
end
end Go.Proofs.YtfmaocinckeagaaDoor
