/-
  The logs that the law of pieces builds: one entry more in memory, plainly. No statement is proved here. No condition.
-/
import Derived.Test.YtackfigkhjdidaaLPiecesP
import Derived.Test.YtackfigkhjdidaaLSame
namespace Go.Proofs.Ytackfigkhjdidaa
open Go.RowKit

/-- one more entry without a list, appended as a literal of one -/
theorem push_one {w : World} {B : Nat} {A : Option Addr} {c : Nat} {rs : List RE} {L : List EN} (h : EntO w B (.slice A L.length c) rs L) (x : EN) (hx : x.list = []) (hl : L.length ≤ 1000) (hB : B ≤ w.heap.size) :
    ∃ A7 c7 w7, (Builtin.append_ #[31, 31] 31 #[.slice A L.length c, .slice (some ⟨w.heap.size, 0, none⟩) 1 1]).run Try.prog (w.alloc (.cells #[.int .i64 x.term, .int .u8 x.kind, .string x.data, .slice none 0 0] 50)) = .ok (.slice A7 (L.length + 1) c7) w7 ∧
      (∃ rs', EntO w7 B (.slice A7 (L ++ [x]).length c7) rs' (L ++ [x])) ∧ Below B w w7 ∧ B ≤ w7.heap.size ∧ (∀ b, b < w.heap.size → (Value.slice A L.length c).ownBlock ≠ some b → w7.heap[b]? = w.heap[b]?) ∧ (∀ b, (Value.slice A7 (L.length + 1) c7).ownBlock = some b → (Value.slice A L.length c).ownBlock = some b ∨ w.heap.size ≤ b) ∧ w.heap.size ≤ w7.heap.size := by
  obtain ⟨ie, hie, z0, z1, z2⟩ := info_parts info_cEntry
  have hb1 : Below w.heap.size w (w.alloc (.cells #[.int .i64 x.term, .int .u8 x.kind, .string x.data, .slice none 0 0] 50)) := (Below.refl _ _).alloc (Nat.le_refl _) _
  obtain ⟨r, hr⟩ : ∃ r : RE, r = ⟨x.term, x.kind, x.data, none, 0, 0⟩ := ⟨_, rfl⟩
  have hrv : (entR.vals r).toArray = #[.int .i64 x.term, .int .u8 x.kind, .string x.data, .slice none 0 0] := by rw [hr]; rfl
  have hx1 : entR.N (w.alloc (.cells #[.int .i64 x.term, .int .u8 x.kind, .string x.data, .slice none 0 0] 50)) Any (.slice (some ⟨w.heap.size, 0, none⟩) 1 1) [r] := Rec.one_row (R := entR) (N := Any) (a := r) (by rw [hrv]; exact heap_alloc_new w _) trivial
  have hE := h.below hb1
  have hrl := h.len
  obtain ⟨v7, w7, hrun, ho, hg, hat⟩ := Rec.app (P := Try.prog) (t := 31) Try.underlying31 hie z0 z1 z2 rfl (by decide) hE.row hx1 (by unfold maxLen; simp; omega) (by simp; omega) (Nat.le_trans hB hb1.size)
  obtain ⟨A7, c7, hv7⟩ := ho.slice
  have hlen : (rs ++ [r]).length = L.length + 1 := by simp [hrl]
  rw [hlen] at hv7
  subst hv7
  have hk : ∀ b, b < (w.alloc (.cells #[.int .i64 x.term, .int .u8 x.kind, .string x.data, .slice none 0 0] 50)).heap.size → (Value.slice A L.length c).ownBlock ≠ some b → w7.heap[b]? = (w.alloc (.cells #[.int .i64 x.term, .int .u8 x.kind, .string x.data, .slice none 0 0] 50)).heap[b]? := fun b hb hn => hg.block b hb fun e => hn e.symm
  have h2 : EntO (w.alloc (.cells #[.int .i64 x.term, .int .u8 x.kind, .string x.data, .slice none 0 0] 50)) B (.slice (some ⟨w.heap.size, 0, none⟩) 1 1) [r] [x] := by
    refine ⟨?_, rfl, fun i r' e hr' he => ?_⟩
    · have := Rec.own_closed (R := entR) (w := w.alloc (.cells #[.int .i64 x.term, .int .u8 x.kind, .string x.data, .slice none 0 0] 50)) (B := B) (g := w.heap.size) (T := 50) (l := [r]) (rest := []) (cap := 1) hB (by
        rw [List.append_nil, show entR.row [r] = entR.vals r ++ [] from rfl, List.append_nil, hrv]
        exact heap_alloc_new w _) (Nat.le_refl _) (by unfold maxLen; omega) (by simp)
      exact this
    · cases i with
      | zero =>
        have hr' := Option.some.inj hr'
        have he := Option.some.inj he
        subst hr' he
        rw [hr]
        exact ⟨⟨rfl, rfl, rfl, by rw [hx]; rfl⟩, by rw [hx]; exact Rec.Own.none _ _ _ _⟩
      | succ i => simp at hr'
  have h3 := hE.app h2 (Nat.le_refl _) ho hk
  refine ⟨A7, c7, w7, hrun, ⟨_, by rw [List.length_append]; exact h3⟩, ?_, Nat.le_trans hB (Nat.le_trans hb1.size hg.size), fun b hb hn => (hk b (Nat.lt_of_lt_of_le hb hb1.size) hn).trans (hb1.block b hb), fun b hb => ?_, Nat.le_trans hb1.size hg.size⟩
  · exact (Joins.below_le hb1 hB).grown hg (Nat.le_trans hB hb1.size) fun p hp => (hE.row.lt p hp).1
  · rcases hat with e | e
    · exact .inl (by rw [← e]; exact hb)
    · rw [e] at hb
      have := Option.some.inj hb
      exact .inr (by rw [← this]; exact hb1.size)
/-- the first log so far: its next term -/
structure Gr (L : List EN) (i : Nat) (t : Int) : Prop where
  len : L.length = i
  fol : follows 0 L = true
  odd : ∀ e ∈ L, e.term % 2 = 1 ∧ e.list = []
  todd : t % 2 = 1
  last : lastTerm 0 L ≤ t
  lo : 1 ≤ t
  hi : t ≤ 1 + 4 * (i : Int)
theorem Gr.low {L : List EN} {i k : Nat} {t : Int} (h : Gr L i t) (hi : i ≤ 40) : lastTerm 0 (L.take k) ≤ 161 := by
  have e := lastTerm_drop' 0 L k
  have m := follows_mono _ _ (follows_split k h.fol).2
  have h1 := h.last
  have h2 := h.hi
  omega
theorem Gr.step {L : List EN} {i : Nat} {t t' : Int} {x : Nat} {d : ByteArray} (h : Gr L i t) (hx : x < 3) (ht : t' = t + (x : Int) * 2) (hd : d.size ≤ 256) (hi : i ≤ 40) : Gr (L ++ [⟨t', 2, d, []⟩]) (i + 1) t' := by
  have h1 := h.todd
  have h2 := h.last
  have h3 := h.lo
  have h4 := h.hi
  refine ⟨by rw [List.length_append, h.len]; rfl, ?_, fun e he => ?_, by omega, by rw [lastTerm_snoc]; exact Int.le_refl _, by omega, by push_cast; omega⟩
  · rw [follows_snoc, h.fol, Bool.true_and, Bool.and_eq_true]
    refine ⟨?_, by simp; omega⟩
    unfold EN.may
    simp
    omega
  · rcases List.mem_append.1 he with he | he
    · exact h.odd e he
    · have he := List.mem_singleton.1 he
      subst he
      exact ⟨by dsimp only; omega, rfl⟩
/-- the other log so far: its next term -/
structure Gm (L : List EN) (k : Nat) (M : List EN) (i : Nat) (u : Int) : Prop where
  ex : ∃ O, M = L.take k ++ O ∧ (∀ e ∈ O, e.term % 2 = 0 ∧ e.list = []) ∧ O.length = i
  fol : follows 0 M = true
  last : lastTerm 0 M ≤ u
  lo : 0 ≤ u
  hi : u ≤ 200 + 6 * (i : Int)
theorem Gm.step {L M : List EN} {k i : Nat} {u u' : Int} (h : Gm L k M i u) (h1 : u ≤ u') (h2 : u' ≤ u + 6) (h3 : u' % 2 = 0) (h4 : 1 ≤ u') (hi : i ≤ 40) : Gm L k (M ++ [⟨u', 1, ⟨#[]⟩, []⟩]) (i + 1) u' := by
  obtain ⟨O, ho, he, hl⟩ := h.ex
  have h5 := h.last
  have h6 := h.hi
  refine ⟨⟨O ++ [⟨u', 1, ⟨#[]⟩, []⟩], by rw [ho, List.append_assoc], fun e hm => ?_, by rw [List.length_append, hl]; rfl⟩, ?_, by rw [lastTerm_snoc]; exact Int.le_refl _, by omega, by push_cast; omega⟩
  · rcases List.mem_append.1 hm with hm | hm
    · exact he e hm
    · have hm := List.mem_singleton.1 hm
      subst hm
      exact ⟨h3, rfl⟩
  · rw [follows_snoc, h.fol, Bool.true_and, Bool.and_eq_true]
    refine ⟨?_, by simp; omega⟩
    unfold EN.may
    simp
    constructor
    · omega
    · rfl
theorem u8_mod (x : UInt8) : ∃ m : Nat, m < 3 ∧ ((x.toNat : Int)).tmod 3 = (m : Int) := ⟨x.toNat % 3, by omega, by rw [Int.tmod_eq_emod_of_nonneg (by omega)]; omega⟩
end Go.Proofs.Ytackfigkhjdidaa
