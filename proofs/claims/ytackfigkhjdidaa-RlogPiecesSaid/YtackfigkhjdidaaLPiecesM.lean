/-
  The law of pieces: what its last loop holds. No statement is proved here. No condition.
-/
import Derived.Test.YtackfigkhjdidaaLBuild
import Derived.Test.YtackfigkhjdidaaLCut
import Derived.Test.YtackfigkhjdidaaLTell
import Derived.Lib.SliceRun
namespace Go.Proofs.Ytackfigkhjdidaa
open Go.RowKit

/-- the other log in memory, beside the first -/
structure M3 (w w' : World) (B p : Nat) (u : Value) (g : LG) (A : Option Addr) (c : Nat) (L : List EN) (cc k : Nat) : Prop where
  log : LogAt w' B p u g
  own : u.ownBlock.isSome = true
  pg : PG L g cc k
  row : ∃ rs, EntO w' w.heap.size (.slice A L.length c) rs L
  emp : ∀ e ∈ L, e.list = []
  old : ∀ b, (Value.slice A L.length c).ownBlock = some b → b < B
  sz : B ≤ w'.heap.size
  wB : w.heap.size ≤ B
  bel : Below w.heap.size w w'
section
variable {w w' w'' : World} {B p : Nat} {u : Value} {g : LG} {A : Option Addr} {c : Nat} {L : List EN} {cc k : Nat}
theorem M3.below (h : M3 w w' B p u g A c L cc k) (hb : Below w'.heap.size w' w'') : M3 w w'' B p u g A c L cc k := by
  obtain ⟨rs, he⟩ := h.row
  exact ⟨h.log.below hb, h.own, h.pg, ⟨rs, he.below hb⟩, h.emp, h.old, Nat.le_trans h.sz hb.size, h.wB, h.bel.trans (Joins.below_le hb h.bel.size)⟩
theorem M3.turned {u' : Value} {g' : LG} {cc' k' : Nat} (h : M3 w w' B p u g A c L cc k) (hl : LogAt w'' B p u' g') (hs : u'.ownBlock.isSome = true) (hp : PG L g' cc' k') (ht : Turned p u w' w'') : M3 w w'' B p u' g' A c L cc' k' := by
  obtain ⟨rs, he⟩ := h.row
  obtain ⟨rs2, he2⟩ := h.log.ent
  have hbe := ht.below h.log h.sz
  refine ⟨hl, hs, hp, ⟨rs, row_same he.row fun b hb => ht.block b (he.row.lt b hb).2 (fun e => ?_) (fun e => ?_), he.len, fun i r e hr hx => ⟨(he.ent i r e hr hx).1, row_same (he.ent i r e hr hx).2 fun b hb => ht.block b ((he.ent i r e hr hx).2.lt b hb).2 (fun e => ?_) (fun e => ?_)⟩⟩, h.emp, h.old, Nat.le_trans h.sz ht.size, h.wB, h.bel.trans (Joins.below_le hbe h.wB)⟩
  · subst e
    obtain ⟨c, hc⟩ := row_type he.row hb
    exact apart_T hc h.log.blk (by decide) rfl
  · have := (he2.row.lt b e).1
    have := h.old b hb
    omega
  · subst e
    obtain ⟨c, hc⟩ := row_type (he.ent i r _ hr hx).2 hb
    exact apart_T hc h.log.blk (by decide) rfl
  · obtain ⟨c, hc⟩ := row_type (he.ent i r _ hr hx).2 hb
    obtain ⟨c2, hc2⟩ := row_type he2.row e
    exact apart_T hc hc2 (by decide) rfl
theorem empty_N {w : World} {N N' : Nat → Prop} {v : Value} (h : inR.N w N v []) : inR.N w N' v [] := by
  obtain ⟨A, c, rfl, h1, h2, h3, h4, -⟩ := h
  exact ⟨A, c, rfl, h1, h2, h3, h4, fun h => absurd h (by simp)⟩
/-- a piece of the first log, apart from the other -/
theorem M3.piece (h : M3 w w' B p u g A c L cc k) {f t : Nat} (hft : f ≤ t) (ht : t ≤ L.length) : EntN w' (fun b => b < B) (.slice (atFrom A c f 4) (t - f) (c - f)) (pc L f t) ∧ OffLog w' p u (fun b => b < B) := by
  obtain ⟨rs, he⟩ := h.row
  have hn : EntN w' (fun b => b < B) (.slice A L.length c) L := by
    refine ⟨rs, RowN.of_own (by rw [he.len]; have := he.row; unfold Rec.Own at this; rw [he.len] at this; exact this) h.old, he.len, fun i r e hr hx => ?_⟩
    have h1 := (he.ent i r e hr hx).1
    have h2 := (he.ent i r e hr hx).2.n.any
    have h3 := h.emp e (List.mem_of_getElem? hx)
    exact ⟨h1.term, h1.kind, h1.data, h1.ln, by rw [h3] at h2 ⊢; exact empty_N h2⟩
  refine ⟨?_, fun b hb _ => ⟨by have := h.log.pB; omega, fun e => ?_⟩⟩
  · have h1 := hn.drop (k := f) (by omega)
    have h2 := h1.take (k := t - f) (by rw [List.length_drop]; omega)
    exact h2
  · obtain ⟨rs2, he2⟩ := h.log.ent
    have := (he2.row.lt b e).1
    omega
end
theorem PG.start {L M O : List EN} {k : Nat} (hM : M = L.take k ++ O) (he : ∀ e ∈ O, e.term % 2 = 0 ∧ e.list = []) (hk : k ≤ L.length) : PG L ⟨0, 0, M⟩ 0 k :=
  ⟨⟨O, by rw [List.drop_zero]; exact hM, fun e h => (he e h).1⟩, rfl, rfl, Nat.zero_le _, hk⟩
theorem PG.cut {L M O : List EN} {k cc : Nat} (hM : M = L.take k ++ O) (he : ∀ e ∈ O, e.term % 2 = 0 ∧ e.list = []) (hk : k ≤ L.length) (hc : cc ≤ k) : PG L ⟨0 + cc, lastTerm 0 (M.take cc), M.drop cc⟩ cc k := by
  have hl : (L.take k).length = k := by rw [List.length_take, Nat.min_eq_left hk]
  refine ⟨⟨O, ?_, fun e h => (he e h).1⟩, Nat.zero_add _, ?_, hc, hk⟩
  · show M.drop cc = _
    rw [hM, List.drop_append_of_le_length (by omega)]
  · show lastTerm 0 (M.take cc) = _
    rw [hM, List.take_append_of_le_length (by omega), List.take_take, Nat.min_eq_left hc]
theorem refuse_zero {M : List EN} (hf : follows 0 M = true) (hl : M.length ≤ 1000) : refuse 0 0 M = 0 := by
  unfold refuse
  rw [hf, show isCnt 0 = true from rfl]
  show (if ((M.length : Nat) : Int) > 2147483647 - 0 then (70 : Int) else 0) = 0
  exact if_neg (by omega)
theorem mod_many (z : Int) {n f : Nat} (h : f ≤ n) : ∃ m : Nat, f + m ≤ n ∧ (IntKind.u64.wrap z).tmod ((n : Int) - (f : Int) + 1) = (m : Int) := by
  have hw : 0 ≤ IntKind.u64.wrap z := by rw [show IntKind.u64.wrap z = z % 18446744073709551616 by simp [IntKind.wrap, IntKind.bits, IntKind.signed]]; omega
  have h1 := Int.tmod_lt_of_pos (IntKind.u64.wrap z) (show (0 : Int) < (n : Int) - (f : Int) + 1 by omega)
  have h2 := Int.tmod_nonneg ((n : Int) - (f : Int) + 1) hw
  exact ⟨((IntKind.u64.wrap z).tmod ((n : Int) - (f : Int) + 1)).toNat, by omega, by omega⟩
theorem EN.same_self (x : EN) : x.same x = true := by
  unfold EN.same
  have : sameL iSame x.list x.list = true := sameL_all rfl fun j a b ha hb => by
    have := Option.some.inj (ha.symm.trans hb)
    subst this
    simp [iSame]
  simp [this]
end Go.Proofs.Ytackfigkhjdidaa
