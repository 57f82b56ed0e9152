/-
  Entries take the place of all from a place on: the program's turn, walked. No statement is proved here. No condition.
-/
import Derived.Test.YtackfigkhjdidaaLTurn
namespace Go.Proofs.Ytackfigkhjdidaa
open Go.RowKit

/-- what lies apart from a log -/
def OffLog (w : World) (p : Nat) (v : Value) (N : Nat → Prop) : Prop := ∀ b, N b → b < w.heap.size → b ≠ p ∧ v.ownBlock ≠ some b
set_option maxHeartbeats 4000000 in
set_option maxRecDepth 100000 in
theorem turn_any (g : LG) (B p k : Nat) (v vl : Value) (l : List EN) (N : Nat → Prop) (w : World) (h : LogAt w B p v g) (hs : v.ownBlock.isSome = true) (hk : k ≤ g.l.length) (hl : EntN w N vl l) (hN : OffLog w p v N) (hfit : g.base + k + l.length ≤ 2147483647) (hmay : follows g.term (g.l.take k ++ l) = true) (hBw : B ≤ w.heap.size) :
    Calls Try.prog 93 #[.pointer (some ⟨p, 0, none⟩), .int .i64 (k : Int), vl] w fun e w' => e = .returned (.tuple #[]) ∧ (∃ u, LogAt w' B p u { g with l := g.l.take k ++ l } ∧ u.ownBlock.isSome = true ∧ (u.ownBlock = v.ownBlock ∨ ∀ b, u.ownBlock = some b → w.heap.size ≤ b)) ∧ Turned p v w w' := by
  obtain ⟨rs, he⟩ := h.ent
  obtain ⟨Av, cap, hv⟩ := he.slice
  subst hv
  cases Av with
  | none => cases hs
  | some a =>
    obtain ⟨g0, ha⟩ : ∃ g0, a = ⟨g0, 0, none⟩ := by
      rcases own_opened he.row with ⟨hv, -⟩ | ⟨g', cap', rest, hv, -⟩
      · cases hv
      · injection hv with v1 v2 v3
        injection v1 with v1
        exact ⟨g', v1⟩
    subst ha
    clear hs
    have hlc : g.l.length ≤ cap := by
      obtain ⟨A', c', hv, h1, -⟩ := h.n.slice
      injection hv with _ _ e
      rw [e]
      exact h1
    have hg0 := row_type he.row (p := g0) rfl
    obtain ⟨C0, hC0⟩ := hg0
    have hg0B : B ≤ g0 := (he.row.lt g0 rfl).1
    have hpg : p ≠ g0 := apart_T h.blk hC0 (by decide)
    have hpB := h.pB
    obtain ⟨w1, hcl, he1, hf1, hs1, hB1⟩ := ents_cleared w he hk
    have hp1 := (hf1 p hpg).trans h.blk
    have hfr := fromE
    have hl1 : EntN w1 N vl l := by
      obtain ⟨rl, k1, k2, k3⟩ := hl
      have hkeep : ∀ b, N b → b < w.heap.size → w1.heap[b]? = w.heap[b]? := fun b hb hbl => hf1 b fun e => (hN b hb hbl).2 (by rw [e]; rfl)
      exact ⟨rl, k1.kept (fun _ h _ => h) (by omega) hkeep, k2, fun i r e hr he => { k3 i r e hr he with list := (k3 i r e hr he).list.kept (fun _ h _ => h) (by omega) hkeep }⟩
    have hle := fun e (hm : e ∈ l) => (EN.may_list (follows_all hmay e (by simp [hm])).1).1
    have hll : l.length ≤ 2147483647 := by omega
    have hl1d : EntN w1.drew Any vl l := by
      obtain ⟨rl, k1, k2, k3⟩ := hl1
      exact ⟨rl, k1.any, k2, fun i r e hr he => { k3 i r e hr he with list := (k3 i r e hr he).list.any }⟩
    have cT := twins_any l vl w1.drew hl1d (by omega) (fun e he => by have := hle e he; omega)
    obtain ⟨Al, cl, hvl, -, -⟩ := hl.slice
    subst hvl
    obtain ⟨iu, hiu, z0, z1, z2⟩ := info_parts info_cEntry
    have hklen : (g.l.take k).length = k := by rw [List.length_take, Nat.min_eq_left hk]
    have hrslen : (rs.take k).length = k := by rw [List.length_take, he.len, Nat.min_eq_left hk]
    -- what comes behind the twins
    have hnext : ∀ w3 A3 c3, (∃ rs2, EntO w3 w1.drew.heap.size (.slice A3 l.length c3) rs2 l) → Below w1.drew.heap.size w1.drew w3 →
        w3.cell? ⟨p, 2, none⟩ = some (.slice (some ⟨g0, 0, none⟩) g.l.length cap) ∧ ∃ A4 c4 w4, (Builtin.append_ #[31, 31] 31 #[.slice (some ⟨g0, 0, none⟩) k cap, .slice A3 l.length c3]).run Try.prog w3 = .ok (.slice A4 (k + l.length) c4) w4 ∧
          w4.cell? ⟨p, 2, none⟩ = some (.slice (some ⟨g0, 0, none⟩) g.l.length cap) ∧ w4.frozen? ⟨p, 2, none⟩ = false ∧
          Hid ((∃ u, LogAt (w4.setCell ⟨p, 2, none⟩ (.slice A4 (k + l.length) c4)) B p u { g with l := g.l.take k ++ l } ∧ u.ownBlock.isSome = true ∧ (u.ownBlock = (Value.slice (some ⟨g0, 0, none⟩) g.l.length cap).ownBlock ∨ ∀ b, u.ownBlock = some b → w.heap.size ≤ b)) ∧ Turned p (.slice (some ⟨g0, 0, none⟩) g.l.length cap) w (w4.setCell ⟨p, 2, none⟩ (.slice A4 (k + l.length) c4))) := by
      rintro w3 A3 c3 ⟨rs2, he2⟩ hb3
      have hs1d : w1.drew.heap.size = w.heap.size := hs1
      have hp3 : w3.heap[p]? = _ := (hb3.block p (by rw [hs1d]; exact lt_of_heap h.blk)).trans hp1
      have he13 : EntO w3 B (.slice (some ⟨g0, 0, none⟩) k cap) (rs.take k) (g.l.take k) := EntO.below (w := w1.drew) ⟨he1.row, he1.len, he1.ent⟩ hb3
      obtain ⟨v4, w4, hr4, ho4, hg4, hat4⟩ := Rec.app (P := Try.prog) (t := 31) Try.underlying31 hiu z0 z1 z2 rfl (by decide) (show entR.Own w3 B 50 (.slice (some ⟨g0, 0, none⟩) k cap) (rs.take k) from he13.row) he2.row.n.any (by rw [hrslen, he2.len]; unfold maxLen; omega) (by rw [hrslen, he2.len]; omega) (Nat.le_trans (by rw [hs1d]; exact hBw) hb3.size)
      obtain ⟨A4, c4, hv4⟩ := ho4.slice
      have hlen4 : (rs.take k ++ rs2).length = k + l.length := by rw [List.length_append, hrslen, he2.len]
      rw [hlen4] at hv4
      subst hv4
      have hpn : (Value.slice (some ⟨g0, 0, none⟩) k cap).ownBlock ≠ some p := fun e => hpg (Option.some.inj e).symm
      have hp4 := (hg4.block p (lt_of_heap hp3) (fun e => hpn e.symm)).trans hp3
      have he4 : EntO w4 B (.slice A4 (k + l.length) c4) (rs.take k ++ rs2) (g.l.take k ++ l) := he13.app he2 (by rw [hs1d]; exact hBw) ho4 fun b hb hn => hg4.block b hb fun e => hn e.symm
      obtain ⟨w5, hw5⟩ : ∃ w5, w5 = w4.setCell ⟨p, 2, none⟩ (.slice A4 (k + l.length) c4) := ⟨_, rfl⟩
      have hf5 : ∀ b, b ≠ p → w5.heap[b]? = w4.heap[b]? := fun b hb => by rw [hw5]; exact Below.heap_setCell w4 ⟨p, 2, none⟩ _ b hb
      have hs5 : w4.heap.size ≤ w5.heap.size := by rw [hw5]; simp [World.setCell]
      have hp5 : w5.heap[p]? = some (.cells #[.int .i64 (g.base : Int), .int .i64 g.term, .slice A4 (k + l.length) c4] 128 (0, 0)) := by rw [hw5, Joins.block_setCell hp4 _]; rfl
      have nP : ∀ {T : TypeId} {e : TypeId} {size n : Nat} {x : Value} {xs : List Value}, e ≠ 128 → w4.ownsRow B e size x n xs → ∀ b, x.ownBlock = some b → b ≠ p := fun {T e size n x xs} hT hx b hb e2 => by
        subst e2
        obtain ⟨c1, h1⟩ := row_type hx hb
        exact apart_T h1 hp4 hT rfl
      have he5 : EntO w5 B (.slice A4 (k + l.length) c4) (rs.take k ++ rs2) (g.l.take k ++ l) := ⟨row_same he4.row fun b hb => hf5 b (nP (T := 0) (by decide) he4.row b hb), he4.len, fun i r e hr he => ⟨(he4.ent i r e hr he).1, row_same (he4.ent i r e hr he).2 fun b hb => hf5 b (nP (T := 0) (by decide) (he4.ent i r e hr he).2 b hb)⟩⟩
      refine ⟨(blk_cells hp3).1 2, A4, c4, w4, hr4, (blk_cells hp4).1 2, (blk_cells hp4).2 2, Lib.hid ⟨⟨.slice A4 (k + l.length) c4, ?_, ?_, ?_⟩, ?_⟩⟩
      · rw [← hw5]
        exact ⟨hp5, ⟨_, he5⟩, hpB, by show g.base + (g.l.take k ++ l).length ≤ _; rw [List.length_append, hklen]; omega, h.term0, hmay⟩
      · rcases hat4 with e | e <;> rw [e] <;> rfl
      · rcases hat4 with e | e
        · left; rw [e]; rfl
        · right
          intro b hb
          rw [e] at hb
          have := Option.some.inj hb
          have h1 := hb3.size
          rw [hs1d] at h1
          omega
      · rw [← hw5]
        refine ⟨?_, ?_, ?_, ?_, fun b hb hbp hbv => ?_⟩
        · rw [hw5]; exact (hg4.os.trans hb3.os).trans hB1.os
        · rw [hw5]; exact (hg4.tape.trans hb3.tape).trans hB1.tape
        · rw [hw5]; exact (hg4.output.trans hb3.output).trans hB1.output
        · have h1 := hb3.size
          rw [hs1d] at h1
          exact Nat.le_trans h1 (Nat.le_trans hg4.size hs5)
        · have hbg : b ≠ g0 := fun e => hbv (by rw [e]; rfl)
          have h1 := hb3.size
          rw [hs1d] at h1
          exact (hf5 b hbp).trans ((hg4.block b (by omega) (fun e => hbg (Option.some.inj e))).trans ((hb3.block b (by rw [hs1d]; exact hb)).trans (hf1 b hbg)))
    have HNEXT := Lib.hid hnext
    have c2 : w.cell? ⟨p, 2, none⟩ = some (.slice (some ⟨g0, 0, none⟩) g.l.length cap) := h.cells.2.2
    have d2 : w1.cell? ⟨p, 2, none⟩ = some (.slice (some ⟨g0, 0, none⟩) g.l.length cap) := (blk_cells hp1).1 2
    have e2 : w1.drew.cell? ⟨p, 2, none⟩ = some (.slice (some ⟨g0, 0, none⟩) g.l.length cap) := d2
    have s1 := fun W => fromE W (some ⟨g0, 0, none⟩) g.l.length cap k hk
    have s2 := fun W => tillE W (some ⟨g0, 0, none⟩) g.l.length cap k (by omega)
    have k0 : (0 : Int) ≤ (k : Int) := Int.natCast_nonneg _
    clear h he hl hN hfit hmay hBw hC0 hg0B hpg hpB he1 hf1 hs1 hB1 hp1 hfr hl1 hle hll hl1d hiu z0 z1 z2 hklen hrslen hnext hlc hk
    go_enter Try.func93, Try.ntmps93
    go_upto_region 1 with (at_builtin; go_must (refine wpList_clr rfl (.tmp 11) 31 rfl _ rfl hcl ?_))
    clear hcl c2
    go_region_law (first
      | (refine step_app rfl (.tmp 18) (.tmp 20) 31 rfl (.slice (some ⟨g0, 0, none⟩) k cap) (.slice (some ⟨A3, 0, none⟩) l.length c3) rfl rfl (by with_reducible exact HAP.out) ?_)
      | (go_simp; go_at_call 88; refine cT.mono ?_; rintro e w3 ⟨A3, c3, rfl, hee, hb3⟩; obtain ⟨d3, A4, c4, w4, hap, u3, v3, HFIN⟩ := HNEXT.out w3 (some ⟨A3, 0, none⟩) c3 hee hb3; have HAP := Lib.hid hap; clear hap hee hb3))
    all_goals
      go_wp2_with fail
      go_end0
      exact ⟨rfl, HFIN.out.1, HFIN.out.2⟩
end Go.Proofs.Ytackfigkhjdidaa
