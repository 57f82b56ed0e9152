/-
  An entry put behind the last: the program's Append. No statement is proved here. No condition.
-/
import Derived.Test.YtjfcofalhajgfaaLCut
import Derived.Test.YtjfcofalhajgfaaLBuild
namespace Go.Proofs.Ytjfcofalhajgfaa
open Go.RowKit

theorem one_entL {w : World} {p : Nat} {x : EN} {A : Option Addr} {c : Nat} (hp : w.heap[p]? = some (.cells #[.int .i64 x.term, .int .u8 x.kind, .string x.data, .slice A x.list.length c] 50 (0, 0))) (h : inR.N w Any (.slice A x.list.length c) x.list) : EntN w Any (.slice (some ⟨p, 0, none⟩) 1 1) [x] := by
  refine ⟨[⟨x.term, x.kind, x.data, A, x.list.length, c⟩], Rec.one_row (R := entR) (a := ⟨x.term, x.kind, x.data, A, x.list.length, c⟩) hp trivial, rfl, fun i r e hr he => ?_⟩
  cases i with
  | zero =>
    have hr := Option.some.inj hr
    have he := Option.some.inj he
    subst hr he
    exact ⟨rfl, rfl, rfl, rfl, h⟩
  | succ i => simp at hr
theorem push_gen {w : World} {B : Nat} {A : Option Addr} {c : Nat} {rs : List RE} {L : List EN} (h : EntO w B (.slice A L.length c) rs L) (x : EN) {A8 : Option Addr} {c8 : Nat} (hx : inR.Own w B 3 (.slice A8 x.list.length c8) x.list) (hl : L.length ≤ 2147483647) (hB : B ≤ w.heap.size) :
    ∃ A7 c7 w7, (Builtin.append_ #[31, 31] 31 #[.slice A L.length c, .slice (some ⟨w.heap.size, 0, none⟩) 1 1]).run Try.prog (w.alloc (.cells #[.int .i64 x.term, .int .u8 x.kind, .string x.data, .slice A8 x.list.length c8] 50)) = .ok (.slice A7 (L.length + 1) c7) w7 ∧
      (∃ rs', EntO w7 B (.slice A7 (L ++ [x]).length c7) rs' (L ++ [x])) ∧ Below B w w7 ∧ B ≤ w7.heap.size ∧ (∀ b, b < w.heap.size → (Value.slice A L.length c).ownBlock ≠ some b → w7.heap[b]? = w.heap[b]?) ∧ (∀ b, (Value.slice A7 (L.length + 1) c7).ownBlock = some b → (Value.slice A L.length c).ownBlock = some b ∨ w.heap.size ≤ b) ∧ w.heap.size ≤ w7.heap.size := by
  obtain ⟨ie, hie, z0, z1, z2⟩ := info_parts info_cEntry
  have hb1 : Below w.heap.size w (w.alloc (.cells #[.int .i64 x.term, .int .u8 x.kind, .string x.data, .slice A8 x.list.length c8] 50)) := (Below.refl _ _).alloc (Nat.le_refl _) _
  obtain ⟨r, hr⟩ : ∃ r : RE, r = ⟨x.term, x.kind, x.data, A8, x.list.length, c8⟩ := ⟨_, rfl⟩
  have hrv : (entR.vals r).toArray = #[.int .i64 x.term, .int .u8 x.kind, .string x.data, .slice A8 x.list.length c8] := by rw [hr]; rfl
  have hx1 : entR.N (w.alloc (.cells #[.int .i64 x.term, .int .u8 x.kind, .string x.data, .slice A8 x.list.length c8] 50)) Any (.slice (some ⟨w.heap.size, 0, none⟩) 1 1) [r] := Rec.one_row (R := entR) (N := Any) (a := r) (by rw [hrv]; exact heap_alloc_new w _) trivial
  have hE := h.below hb1
  have hrl := h.len
  obtain ⟨v7, w7, hrun, ho, hg, hat⟩ := Rec.app (P := Try.prog) (t := 31) Try.underlying31 hie z0 z1 z2 rfl (by decide) hE.row hx1 (by unfold maxLen; simp; omega) (by simp; omega) (Nat.le_trans hB hb1.size)
  obtain ⟨A7, c7, hv7⟩ := ho.slice
  have hlen : (rs ++ [r]).length = L.length + 1 := by simp [hrl]
  rw [hlen] at hv7
  subst hv7
  have hk : ∀ b, b < (w.alloc (.cells #[.int .i64 x.term, .int .u8 x.kind, .string x.data, .slice A8 x.list.length c8] 50)).heap.size → (Value.slice A L.length c).ownBlock ≠ some b → w7.heap[b]? = (w.alloc (.cells #[.int .i64 x.term, .int .u8 x.kind, .string x.data, .slice A8 x.list.length c8] 50)).heap[b]? := fun b hb hn => hg.block b hb fun e => hn e.symm
  have h2 : EntO (w.alloc (.cells #[.int .i64 x.term, .int .u8 x.kind, .string x.data, .slice A8 x.list.length c8] 50)) B (.slice (some ⟨w.heap.size, 0, none⟩) 1 1) [r] [x] := by
    refine ⟨?_, rfl, fun i r' e hr' he => ?_⟩
    · have := Rec.own_closed (R := entR) (w := w.alloc (.cells #[.int .i64 x.term, .int .u8 x.kind, .string x.data, .slice A8 x.list.length c8] 50)) (B := B) (g := w.heap.size) (T := 50) (l := [r]) (rest := []) (cap := 1) hB (by
        rw [List.append_nil, show entR.row [r] = entR.vals r ++ [] from rfl, List.append_nil, hrv]
        exact heap_alloc_new w _) (Nat.le_refl _) (by unfold maxLen; omega) (by simp)
      exact this
    · cases i with
      | zero =>
        have hr' := Option.some.inj hr'
        have he := Option.some.inj he
        subst hr' he
        rw [hr]
        exact ⟨⟨rfl, rfl, rfl, rfl⟩, hx.below hb1⟩
      | succ i => simp at hr'
  have h3 := hE.app h2 (Nat.le_refl _) ho hk
  refine ⟨A7, c7, w7, hrun, ⟨_, by rw [List.length_append]; exact h3⟩, ?_, Nat.le_trans hB (Nat.le_trans hb1.size hg.size), fun b hb hn => (hk b (Nat.lt_of_lt_of_le hb hb1.size) hn).trans (hb1.block b hb), fun b hb => ?_, Nat.le_trans hb1.size hg.size⟩
  · exact (Joins.below_le hb1 hB).grown hg (Nat.le_trans hB hb1.size) fun p hp => (hE.row.lt p hp).1
  · rcases hat with e | e
    · exact .inl (by rw [← e]; exact hb)
    · rw [e] at hb
      have := Option.some.inj hb
      exact .inr (by rw [← this]; exact hb1.size)
def LG.append (g : LG) (x : EN) : Int × LG := if refuse (g.last : Int) g.lastT [x] = 0 then (0, { g with l := g.l ++ [x] }) else (refuse (g.last : Int) g.lastT [x], g)
set_option maxHeartbeats 4000000 in
set_option maxRecDepth 100000 in
/-- an entry without a list -/
theorem append_any (g : LG) (B p : Nat) (v : Value) (x : EN) (w : World) (h : LogAt w B p v g) (hs : v.ownBlock.isSome = true) (hx : x.list = []) (hBw : B ≤ w.heap.size) :
    Calls Try.prog 39 #[.pointer (some ⟨p, 0, none⟩), x.agg (.slice none 0 0)] w fun e w' => e = .returned (.int .i64 (g.append x).1) ∧ (∃ u, LogAt w' B p u (g.append x).2 ∧ u.ownBlock.isSome = true) ∧ Turned p v w w' := by
  obtain ⟨w1, hw1⟩ : ∃ w1, w1 = w.alloc (.cells #[.int .i64 x.term, .int .u8 x.kind, .string x.data, .slice none 0 0] 50) := ⟨_, rfl⟩
  have hb1 : Below w.heap.size w w1 := by rw [hw1]; exact (Below.refl _ _).alloc (Nat.le_refl _) _
  have hq1 : w1.heap[w.heap.size]? = some (.cells #[.int .i64 x.term, .int .u8 x.kind, .string x.data, .slice none 0 0] 50 (0, 0)) := by rw [hw1]; exact heap_alloc_new w _
  obtain ⟨q, hq⟩ : ∃ q, q = w.heap.size := ⟨_, rfl⟩
  rw [← hq] at hq1
  have cL := last_any g B p v w1 (h.below hb1)
  have H := Lib.hid (And.intro h hs)
  have HB1 := Lib.hid (And.intro hb1 hq1)
  have HW1 := Lib.hid hw1
  have HQ := Lib.hid hq
  unfold EN.agg
  clear h hs hw1 hb1 hq1 hq
  go_enter Try.func39, Try.ntmps39
  go_upto_region 1 with fail
  rw [← HW1.out, ← HQ.out]
  go_wp2_with fail
  refine cL.mono ?_
  rintro e w2 ⟨rfl, hb2⟩
  clear cL
  have hq2 := (hb2.block q (lt_of_heap HB1.out.2)).trans HB1.out.2
  have hB2 := HB1.out.1.trans (Joins.below_le hb2 HB1.out.1.size)
  obtain ⟨w3, hw3⟩ : ∃ w3, w3 = w2.alloc (.cells #[.int .i64 x.term, .int .u8 x.kind, .string x.data, .slice none 0 0] 50) := ⟨_, rfl⟩
  have hb3 : Below w2.heap.size w2 w3 := by rw [hw3]; exact (Below.refl _ _).alloc (Nat.le_refl _) _
  have hz3 : w3.heap[w2.heap.size]? = some (.cells #[.int .i64 x.term, .int .u8 x.kind, .string x.data, .slice none 0 0] 50 (0, 0)) := by rw [hw3]; exact heap_alloc_new w2 _
  have hn3 : EntN w3 Any (.slice (some ⟨w2.heap.size, 0, none⟩) 1 1) [x] := one_entL (x := x) (A := none) (c := 0) (by rw [hx]; exact hz3) (by rw [hx]; exact Rec.N.nil _ _)
  have cR := refusal_any (g.last : Int) g.lastT [x] _ w3 hn3
  rw [hw3] at cR
  have HB3 := Lib.hid (hB2.trans (Joins.below_le hb3 hB2.size))
  have hq3 := (hb3.block q (lt_of_heap hq2)).trans hq2
  have HQ3 := Lib.hid hq3
  have HW3 := Lib.hid hw3
  obtain ⟨x0, x1, x2, x3⟩ : w2.cell? ⟨q, 0, none⟩ = some (.int .i64 x.term) ∧ w2.cell? ⟨q, 1, none⟩ = some (.int .u8 x.kind) ∧ w2.cell? ⟨q, 2, none⟩ = some (.string x.data) ∧ w2.cell? ⟨q, 3, none⟩ = some (.slice none 0 0) := ⟨(blk_cells hq2).1 0, (blk_cells hq2).1 1, (blk_cells hq2).1 2, (blk_cells hq2).1 3⟩
  clear hb2 hq2 hB2 hw3 hb3 hz3 hn3 hq3 HB1
  go_wp2_with fail
  refine cR.mono ?_
  rintro e w4 ⟨rfl, hb4⟩
  rw [← HW3.out] at hb4
  clear cR x0 x1 x2 x3
  have hB4 := HB3.out.trans (Joins.below_le hb4 HB3.out.size)
  have hq4 := (hb4.block q (lt_of_heap HQ3.out)).trans HQ3.out
  obtain ⟨r, hr⟩ : ∃ r, r = refuse (g.last : Int) g.lastT [x] := ⟨_, rfl⟩
  rw [← hr]
  by_cases hr0 : r = 0
  case neg =>
    have hr0' : (r == 0) = false := by simpa using hr0
    have hap : g.append x = (r, g) := by unfold LG.append; rw [← hr, if_neg hr0]
    have HF := Lib.hid (And.intro hap (And.intro (H.out.1.below hB4) hB4))
    clear hr hr0 hap hB4 hq4 hb4
    go_wp2_with fail
    go_ret
    rw [HF.out.1]
    exact ⟨rfl, ⟨v, HF.out.2.1, H.out.2⟩, Turned.of_below HF.out.2.2⟩
  have hap : g.append x = (0, { g with l := g.l ++ [x] }) := by unfold LG.append; rw [← hr, hr0]; rfl
  obtain ⟨q1, q2, q3, q4⟩ := refuse_ok (hr.symm.trans hr0)
  have HAPP := Lib.hid hap
  have hl4 := H.out.1.below hB4
  have hfit := hl4.fit
  obtain ⟨rs, he⟩ := hl4.ent
  obtain ⟨Av, cap, hv⟩ := he.slice
  subst hv
  have cT := twin_any x (.slice none 0 0) w4.drew (by rw [hx]; exact Rec.N.nil _ _) (by rw [hx]; decide)
  unfold EN.agg at cT
  have hmay : follows g.term (g.l ++ [x]) = true := by rw [follows_append, hl4.may, Bool.true_and]; exact q3
  have hnext : ∀ w5 A5 c5, inR.Own w5 w4.drew.heap.size 3 (.slice A5 x.list.length c5) x.list → Below w4.drew.heap.size w4.drew w5 →
      (w5.cell? ⟨p, 2, none⟩ = some (.slice Av g.l.length cap) ∧ (w5.alloc (.cells #[.int .i64 x.term, .int .u8 x.kind, .string x.data, .slice A5 x.list.length c5] 50)).cell? ⟨p, 2, none⟩ = some (.slice Av g.l.length cap)) ∧
      ∃ A7 c7 w7, (Builtin.append_ #[31, 31] 31 #[.slice Av g.l.length cap, .slice (some ⟨w5.heap.size, 0, none⟩) 1 1]).run Try.prog (w5.alloc (.cells #[.int .i64 x.term, .int .u8 x.kind, .string x.data, .slice A5 x.list.length c5] 50)) = .ok (.slice A7 (g.l.length + 1) c7) w7 ∧
        w7.cell? ⟨p, 2, none⟩ = some (.slice Av g.l.length cap) ∧ w7.frozen? ⟨p, 2, none⟩ = false ∧
        Hid ((∃ u, LogAt (w7.setCell ⟨p, 2, none⟩ (.slice A7 (g.l.length + 1) c7)) B p u { g with l := g.l ++ [x] } ∧ u.ownBlock.isSome = true) ∧ Turned p (.slice Av g.l.length cap) w (w7.setCell ⟨p, 2, none⟩ (.slice A7 (g.l.length + 1) c7))) := by
    intro w5 A5 c5 ho5 hb5
    have hBw4 : B ≤ w4.drew.heap.size := Nat.le_trans hBw hB4.size
    have hl5 : LogAt w5 B p (.slice Av g.l.length cap) g := (hl4.below (w' := w4.drew) (Below.refl _ _).drew).below hb5
    obtain ⟨rs5, he5⟩ := hl5.ent
    obtain ⟨A7, c7, w7, hap, ⟨rs7, he7⟩, hB7, -, hf7, hat, hs7⟩ := push_gen he5 x (own_base ho5 hBw4) (by omega) (Nat.le_trans hBw4 hb5.size)
    have hp5 := hl5.blk
    have hne : (Value.slice Av g.l.length cap).ownBlock ≠ some p := fun e => by
      obtain ⟨c1, h1⟩ := row_type he5.row e
      exact apart_T h1 hp5 (by decide) rfl
    have hp7 := (hf7 p (lt_of_heap hp5) hne).trans hp5
    have hlen : (g.l ++ [x]).length = g.l.length + 1 := by simp
    rw [hlen] at he7
    obtain ⟨w8, hw8⟩ : ∃ w8, w8 = w7.setCell ⟨p, 2, none⟩ (.slice A7 (g.l.length + 1) c7) := ⟨_, rfl⟩
    have hf8 : ∀ b, b ≠ p → w8.heap[b]? = w7.heap[b]? := fun b hb => by rw [hw8]; exact Below.heap_setCell w7 ⟨p, 2, none⟩ _ b hb
    have hp8 : w8.heap[p]? = some (.cells #[.int .i64 (g.base : Int), .int .i64 g.term, .slice A7 (g.l.length + 1) c7] 122 (0, 0)) := by rw [hw8, Joins.block_setCell hp7 _]; rfl
    have hs8 : w7.heap.size ≤ w8.heap.size := by rw [hw8]; simp [World.setCell]
    have nP : ∀ {e : TypeId} {size n : Nat} {y : Value} {xs : List Value}, e ≠ 122 → w7.ownsRow B e size y n xs → ∀ b, y.ownBlock = some b → b ≠ p := fun {e size n y xs} hT hy b hb e2 => by
      subst e2
      obtain ⟨c1, h1⟩ := row_type hy hb
      exact apart_T h1 hp7 hT rfl
    refine ⟨⟨(blk_cells hp5).1 2, (World.cell?_alloc_lt w5 _ _ (lt_of_heap hp5)).trans ((blk_cells hp5).1 2)⟩, A7, c7, w7, hap, (blk_cells hp7).1 2, (blk_cells hp7).2 2, Lib.hid ⟨⟨.slice A7 (g.l.length + 1) c7, ?_, ?_⟩, ?_⟩⟩
    · rw [← hw8]
      exact ⟨hp8, ⟨rs7, row_same he7.row fun b hb => hf8 b (nP (by decide) he7.row b hb), he7.len, fun i r e hr he => ⟨(he7.ent i r e hr he).1, row_same (he7.ent i r e hr he).2 fun b hb => hf8 b (nP (by decide) (he7.ent i r e hr he).2 b hb)⟩⟩, hl5.pB, by show g.base + (g.l ++ [x]).length ≤ _; rw [hlen]; unfold LG.last at q4; simp only [List.length_cons, List.length_nil] at q4; omega, hl5.term0, hmay⟩
    · cases A7 with
      | some a => rfl
      | none =>
        exfalso
        obtain ⟨A', c', hv, h1, h2⟩ := he7.n.slice
        rcases own_opened he7.row with ⟨h3, h4⟩ | ⟨g', cap', rest, h3, -⟩
        · have := he7.len
          rw [h4] at this
          simp at this
        · cases h3
    · rw [← hw8]
      have h45 : Below w4.heap.size w4 w5 := (Below.refl _ _).drew.trans hb5
      refine ⟨?_, ?_, ?_, ?_, fun b hb hbp hbv => ?_⟩
      · rw [hw8]; exact hB7.os.trans (hb5.os.trans hB4.os)
      · rw [hw8]; exact hB7.tape.trans (hb5.tape.trans hB4.tape)
      · rw [hw8]; exact hB7.output.trans (hb5.output.trans hB4.output)
      · exact Nat.le_trans hB4.size (Nat.le_trans h45.size (Nat.le_trans hs7 hs8))
      · have h1 := hB4.size
        have h2 := h45.size
        exact (hf8 b hbp).trans ((hf7 b (by omega) hbv).trans ((h45.block b (by omega)).trans (hB4.block b hb)))
  have HNEXT := Lib.hid hnext
  have c2 : w4.cell? ⟨p, 2, none⟩ = some (.slice Av g.l.length cap) := hl4.cells.2.2
  have d2 : w4.drew.cell? ⟨p, 2, none⟩ = some (.slice Av g.l.length cap) := c2
  obtain ⟨x0, x1, x2, x3⟩ : w4.cell? ⟨q, 0, none⟩ = some (.int .i64 x.term) ∧ w4.cell? ⟨q, 1, none⟩ = some (.int .u8 x.kind) ∧ w4.cell? ⟨q, 2, none⟩ = some (.string x.data) ∧ w4.cell? ⟨q, 3, none⟩ = some (.slice none 0 0) := ⟨(blk_cells hq4).1 0, (blk_cells hq4).1 1, (blk_cells hq4).1 2, (blk_cells hq4).1 3⟩
  obtain ⟨y0, y1, y2, y3⟩ : w4.drew.cell? ⟨q, 0, none⟩ = some (.int .i64 x.term) ∧ w4.drew.cell? ⟨q, 1, none⟩ = some (.int .u8 x.kind) ∧ w4.drew.cell? ⟨q, 2, none⟩ = some (.string x.data) ∧ w4.drew.cell? ⟨q, 3, none⟩ = some (.slice none 0 0) := ⟨x0, x1, x2, x3⟩
  clear hr hap hl4 hfit he hmay hnext hB4 hq4 hb4 q1 q2 q3 q4 hBw hx
  subst hr0
  go_upto_region 7 with fail
  apply cut_goal
  case h =>
    intro key
    go_region_law (first
      | (refine step_app rfl (.tmp 27) (.tmp 30) 31 rfl (.slice Av g.l.length cap) (.slice (some ⟨w5.heap.size, 0, none⟩) 1 1) rfl rfl (by with_reducible exact HAP.out) ?_)
      | (go_simp; go_at_call 81; refine cT.mono ?_; rintro e w5 ⟨A5, c5, rfl, ho5, hb5⟩; obtain ⟨⟨d5, e5⟩, A7, c7, w7, hap, u3, v3, HFIN⟩ := HNEXT.out w5 A5 c5 ho5 hb5; have HAP := Lib.hid hap; clear hap))
    all_goals
      clear d5 e5 hb5 HAP
      revert HFIN v3 u3
      revert w7
      revert c7
      revert A7
      clear ho5
      revert c5
      revert A5
      revert w5
      exact key
  intro w5 A5 c5 A7 c7 w7 u3 v3 HFIN
  go_wp2_with fail
  go_ret
  rw [HAPP.out]
  exact ⟨rfl, HFIN.out.1, HFIN.out.2⟩
end Go.Proofs.Ytjfcofalhajgfaa
