/-
  The document's ring (butteryref04): Open. No statement is proved here. Condition: each sector has 512 bytes.
-/
import Derived.Test.YtlokehekkllbeaaGRead
import Derived.Test.YtlokehekkllbeaaGSmall
namespace Go.Proofs.Ytlokehekkllbeaa
open Go.RowKit

/-- the document's Open, what it has in hand: the records L, what is open l -/
structure YSt (w2 wr : World) (x : Nat) (S : List (List UInt8)) (R : RG) (N : Nat → Prop) (v10 v11 : Value) (n10 n11 : Nat) (xs : List Value) (L : List (List UInt8)) (l : List UInt8) : Prop where
  ring : XG wr N x S R
  row : wr.ownsRow w2.heap.size 5 1 v11 n11 (BS l)
  rows : wr.ownsRow w2.heap.size 39 1 v10 n10 xs
  els : Els wr (fun b => w2.heap.size ≤ b ∧ v11.ownBlock ≠ some b ∧ U8B wr b) xs L
  kept : Kept w2 wr (fun b => b = x)
section
variable {w2 wr w' : World} {x : Nat} {S : List (List UInt8)} {R : RG} {N : Nat → Prop} {v10 v11 : Value} {n10 n11 : Nat} {xs : List Value} {L : List (List UInt8)} {l : List UInt8}
theorem YSt.below (h : YSt w2 wr x S R N v10 v11 n10 n11 xs L l) (hb : Below wr.heap.size wr w') : YSt w2 w' x S R N v10 v11 n10 n11 xs L l :=
  ⟨h.ring.below hb, row_same h.row fun p hp => hb.block p (h.row.lt p hp).2, row_same h.rows fun p hp => hb.block p (h.rows.lt p hp).2, h.els.kept (fun p hp hl => ⟨hp.1, hp.2.1, by obtain ⟨C, hC⟩ := hp.2.2; exact ⟨C, (hb.block p hl).trans hC⟩⟩) hb.size (fun p _ hl => hb.block p hl), h.kept.trans (Kept.ofBelow (F := fun b => b = x) hb) (fun _ h => .inl h)⟩
theorem YSt.more (h : YSt w2 wr x S R N v10 v11 n10 n11 xs L l) (hN : ∀ b, N b → b < w2.heap.size) {v' : Value} {n' : Nat} {d : List UInt8} (ho : w'.ownsRow w2.heap.size 5 1 v' n' (BS (l ++ d))) (hg : wr.grownBy w' v11.ownBlock) (hat : v'.ownBlock = v11.ownBlock ∨ v'.ownBlock = some wr.heap.size) : YSt w2 w' x S R N v10 v' n10 n' xs L (l ++ d) := by
  have hb : ∀ p, p < wr.heap.size → v11.ownBlock ≠ some p → w'.heap[p]? = wr.heap[p]? := fun p hp hn => hg.block p hp (fun e => hn e.symm)
  refine ⟨h.ring.kept (fun _ h _ => h) hg.size (fun b hb' hl => hb b hl (fun e => by have := (h.row.lt b e).1; have := hN b hb'; omega)), ho, row_same h.rows fun p hp => hb p (h.rows.lt p hp).2 fun e => rows_apart h.row h.rows (by decide) e hp rfl, h.els.kept (fun p hp hl => ⟨hp.1, ?_, ?_⟩) hg.size (fun p hp hl => hb p hl hp.2.1), h.kept.trans (Kept.grown (F := fun p => v11.ownBlock = some p) hg (fun _ h => h)) (fun p hp => .inr (h.row.lt p hp).1)⟩
  · rcases hat with h1 | h1
    · rw [h1]; exact hp.2.1
    · rw [h1]; intro e; injection e with e; omega
  · obtain ⟨C, hC⟩ := hp.2.2
    exact ⟨C, (hb p hl hp.2.1).trans hC⟩
theorem YSt.push (h : YSt w2 wr x S R N v10 v11 n10 n11 xs L l) (hN : ∀ b, N b → b < w2.heap.size) {A : Option Addr} {nn cc : Nat} (hv : v11 = .slice A nn cc) {v' : Value} {n' : Nat} (ho : w'.ownsRow w2.heap.size 39 1 v' n' (xs ++ [v11])) (hg : wr.grownBy w' v10.ownBlock) : YSt w2 w' x S R N v' (.slice none 0 0) n' 0 (xs ++ [v11]) (L ++ [l]) [] := by
  have hb : ∀ p, p < wr.heap.size → v10.ownBlock ≠ some p → w'.heap[p]? = wr.heap[p]? := fun p hp hn => hg.block p hp (fun e => hn e.symm)
  have hne : ∀ {T : TypeId} {C : Array Value} {p : Nat}, wr.heap[p]? = some (.cells C T (0, 0)) → T ≠ 39 → v10.ownBlock ≠ some p := fun hc hT e => by
    obtain ⟨cur, hcur⟩ := row_type h.rows e
    rw [hcur] at hc
    injection hc with hc
    injection hc with _ hc
    exact hT hc.symm
  have hrow : w'.ownsRow w2.heap.size 5 1 v11 n11 (BS l) := row_same h.row fun p hp => hb p (h.row.lt p hp).2 fun e => rows_apart h.rows h.row (by decide) e hp rfl
  refine ⟨h.ring.kept (fun _ h _ => h) hg.size (fun b hb' hl => hb b hl (fun e => by have := (h.rows.lt b e).1; have := hN b hb'; omega)), World.ownsRow_nil _ _ _ _, ho, ?_, h.kept.trans (Kept.grown (F := fun p => v10.ownBlock = some p) hg (fun _ h => h)) (fun p hp => .inr (h.rows.lt p hp).1)⟩
  have he : Els w' (fun b => w2.heap.size ≤ b ∧ (Value.slice none 0 0).ownBlock ≠ some b ∧ U8B w' b) xs L := h.els.kept (fun p hp hl => ⟨hp.1, (fun e => by cases e), by
    obtain ⟨C, hC⟩ := hp.2.2
    exact ⟨C, (hb p hl (hne hC (by decide))).trans hC⟩⟩) hg.size (fun p hp hl => hb p hl (by obtain ⟨C, hC⟩ := hp.2.2; exact hne hC (by decide)))
  subst hv
  exact he.snoc (RdN.own hrow (fun p hp => ⟨(hrow.lt p hp).1, (fun e => by cases e), row_type hrow hp⟩))
theorem YSt.noted (h : YSt w2 wr x S R N v10 v11 n10 n11 xs L l) (hN : ∀ b, N b → b < w2.heap.size) (m : Nat) : YSt w2 (wr.setCell ⟨x, 2, none⟩ (.int .i64 (m : Int))) x S { R with last := m } N v10 v11 n10 n11 xs L l := by
  have hx : x < w2.heap.size := hN x h.ring.inx
  obtain ⟨v, ys, hr⟩ := h.ring
  exact ⟨⟨v, ys, hr.note 2 _ { R with last := m } (by simp)⟩, row_same h.row fun p hp => set_other (by have := (h.row.lt p hp).1; omega), row_same h.rows fun p hp => set_other (by have := (h.rows.lt p hp).1; omega), h.els.kept (fun p hp _ => ⟨hp.1, hp.2.1, by obtain ⟨C, hC⟩ := hp.2.2; exact ⟨C, (set_other (by have := hp.1; omega)).trans hC⟩⟩) (by simp) (fun p hp _ => set_other (by have := hp.1; omega)), h.kept.trans (Kept.setCell wr ⟨x, 2, none⟩ _ (fun b => b = x) rfl) (fun _ h => .inl h)⟩
end

/-- a sector's bytes are copied behind the ring's sectors -/
theorem xlaid {w wr : World} {x : Nat} {S : List (List UInt8)} {R : RG} {k : Nat} {v : Value} {xs : List Value} {B : Nat} (h : XAt wr (fun b => B ≤ b) x S R v xs) (hk : S.length = k) (hk2 : k < 65536) (hb : Below B w wr) (hBw : B ≤ w.heap.size) {As : Option Addr} {ns cs : Nat} {s : List UInt8} (hs : Rd wr wr.heap.size (.slice As ns cs) s) (hs5 : s.length = 512) (ib : TypeInfo) (hib : Try.prog.info? 39 = some ib) (z0 : ib.zero = some (.slice none 0 0)) (z1 : ib.size = 1) (z2 : ib.bytes = 24)
    (iu : TypeInfo) (hiu : Try.prog.info? 5 = some iu) (u0 : iu.zero = some (.int .u8 0)) (u1 : iu.size = 1) (u2 : iu.bytes = 1) :
    ∃ A5 n5 c5 w5 A7 c7 w7, (Builtin.append_ #[39, 39] 39 #[.slice (some ⟨wr.heap.size, 0, none⟩) 0 0, .slice As ns cs]).run Try.prog (wr.alloc (.cells #[] 5)).drew = .ok (.slice A5 n5 c5) w5 ∧
      (Builtin.append_ #[28, 28] 28 #[v, .slice (some ⟨w5.heap.size, 0, none⟩) 1 1]).run Try.prog (w5.alloc (.cells #[.slice A5 n5 c5] 39)) = .ok (.slice A7 (k + 1) c7) w7 ∧
      (∀ W, W = w5 ∨ W = w5.alloc (.cells #[.slice A5 n5 c5] 39) ∨ W = w7 → W.heap[x]? = wr.heap[x]?) ∧ Below B w (w7.setCell ⟨x, 0, none⟩ (.slice A7 (k + 1) c7)) ∧ wr.heap.size ≤ w7.heap.size ∧ (w7.setCell ⟨x, 0, none⟩ (.slice A7 (k + 1) c7)).heap.size = w7.heap.size ∧
      XG (w7.setCell ⟨x, 0, none⟩ (.slice A7 (k + 1) c7)) (fun b => B ≤ b) x (S ++ [s]) R := by
  have hBs : B ≤ wr.heap.size := Nat.le_trans hBw hb.size
  have hxl := h.lt
  have hxB : B ≤ x := h.inx
  obtain ⟨W1, hW1⟩ : ∃ W1, W1 = (wr.alloc (.cells #[] 5)).drew := ⟨_, rfl⟩
  have hba : Below wr.heap.size wr W1 := by rw [hW1]; exact ((Below.refl _ _).alloc (Nat.le_refl _) _).drew
  have hown : W1.ownsRow wr.heap.size 5 1 (.slice (some ⟨wr.heap.size, 0, none⟩) 0 0) 0 (BS []) := by rw [hW1]; exact World.ownsRow.drew (World.ownsRow_lit wr #[] 0 (Nat.le_refl _) (by unfold maxLen; omega) rfl)
  obtain ⟨v5, w5, hap, ho5, hg5⟩ := run_app (P := Try.prog) (w := W1) wr.heap.size 39 39 5 iu Try.underlying39 hiu u0 u1 u2 _ _ [] s 0 hown wr.heap.size (hs.below hba (Nat.le_refl _)) (by rw [hs5]; decide) hba.size
  rw [List.nil_append] at ho5
  have hb5 : Below wr.heap.size wr w5 := hba.grown hg5 hba.size (fun k h => (hown.lt k h).1)
  obtain ⟨A5, c5, rfl⟩ := own_slice ho5
  obtain ⟨n5, hn5⟩ : ∃ n5, n5 = 0 + s.length := ⟨_, rfl⟩
  rw [← hn5] at hap ho5
  obtain ⟨w6, hw6⟩ : ∃ w6, w6 = w5.alloc (.cells #[.slice A5 n5 c5] 39) := ⟨_, rfl⟩
  have hb6 : Below w5.heap.size w5 w6 := by rw [hw6]; exact (Below.refl _ _).alloc (Nat.le_refl _) _
  have hb56 : Below wr.heap.size wr w6 := hb5.trans (Joins.below_le hb6 hb5.size)
  have h6 := h.kept (w' := w6) (fun _ h _ => h) hb56.size (fun b _ hl => hb56.block b hl)
  have hrow6 : RowAt w6 (.slice (some ⟨w5.heap.size, 0, none⟩) 1 1) 1 1 [Value.slice A5 n5 c5] := by rw [hw6]; exact RowAt.of_own (World.ownsRow_lit (base := 0) (e := 39) (size := 1) w5 #[Value.slice A5 n5 c5] 1 (Nat.zero_le _) (by unfold maxLen; omega) rfl)
  have ho6 : w6.ownsRow wr.heap.size 5 1 (.slice A5 n5 c5) n5 (BS s) := row_same ho5 fun p hp => hb6.block p (ho5.lt p hp).2
  obtain ⟨A7, c7, w7, hap7, ho7, hg7, hat7⟩ := run_appAt (P := Try.prog) (w := w6) 0 28 28 39 ib _ 1 24 Try.underlying28 hib z0 z1 z2 rfl (by decide) v _ S.length xs h6.own 1 [Value.slice A5 n5 c5] hrow6 (fun u hu => by simp at hu; rw [hu]; rfl) (by unfold maxLen; omega) (by omega) (Nat.zero_le _)
  rw [hk] at hap7 ho7 hat7
  have hne : ∀ {T : TypeId} {C : Array Value} {p : Nat}, w6.heap[p]? = some (.cells C T (0, 0)) → T ≠ 39 → v.ownBlock ≠ some p := fun hc hT => h6.neRow hc hT
  have hx67 : w7.heap[x]? = w6.heap[x]? := hg7.block x h6.lt (fun e => hne h6.cells (by decide) e.symm)
  have hx56 : w6.heap[x]? = wr.heap[x]? := hb56.block x hxl
  have hUk : ∀ b, U8B w6 b → b < w6.heap.size → w7.heap[b]? = w6.heap[b]? := fun b hb hl => hg7.block b hl (fun e => by
    obtain ⟨C, hC⟩ := hb
    exact hne hC (by decide) e.symm)
  have hb67 : Below B w w7 := (hb.trans (Joins.below_le hb56 hBs)).grown hg7 (by have := hb56.size; omega) (fun p hp => h.inv p hp)
  have hs67 : wr.heap.size ≤ w7.heap.size := Nat.le_trans hb56.size hg7.size
  have hx7 := hx67.trans (hx56.trans h.cells)
  obtain ⟨w8, hw8⟩ : ∃ w8, w8 = w7.setCell ⟨x, 0, none⟩ (.slice A7 (k + 1) c7) := ⟨_, rfl⟩
  have ho : ∀ p, p ≠ x → w8.heap[p]? = w7.heap[p]? := fun p hp => by rw [hw8]; exact set_other hp
  have hx8 : w8.heap[x]? = some (.cells #[.slice A7 (k + 1) c7, .int .i64 (R.base : Int), .int .i64 (R.last : Int), .int .i64 (R.top : Int)] 46 (0, 0)) := by
    rw [hw8, Joins.block_setCell hx7 _]
    simp
  have hU8 : ∀ b, U8B w7 b → b ≠ x := fun b hb e => by
    obtain ⟨C, hC⟩ := hb
    rw [e, hx7] at hC
    injection hC with hC
    injection hC with _ hC
    exact absurd hC (by decide)
  have hnx : ∀ p, (Value.slice A7 (k + 1) c7).ownBlock = some p → p ≠ x := fun p hp e => by
    obtain ⟨cur, hcur⟩ := row_type ho7 hp
    rw [e, hx7] at hcur
    injection hcur with hcur
    injection hcur with _ hcur
    exact absurd hcur (by decide)
  have hels6 : Els w6 (fun b => B ≤ b ∧ U8B w6 b) (xs ++ [Value.slice A5 n5 c5]) (S ++ [s]) := h6.els.snoc (RdN.own ho6 (fun p hp => ⟨by have := (ho6.lt p hp).1; omega, row_type ho6 hp⟩))
  have hels7 : Els w7 (fun b => B ≤ b ∧ U8B w7 b) (xs ++ [Value.slice A5 n5 c5]) (S ++ [s]) := hels6.kept (fun b hb hl => ⟨hb.1, by obtain ⟨C, hC⟩ := hb.2; exact ⟨C, (hUk b hb.2 hl).trans hC⟩⟩) hg7.size (fun b hb hl => hUk b hb.2 hl)
  have hs8 : w8.heap.size = w7.heap.size := by rw [hw8]; simp
  have hels8 : Els w8 (fun b => B ≤ b ∧ U8B w8 b) (xs ++ [Value.slice A5 n5 c5]) (S ++ [s]) := hels7.kept (fun b hb hl => ⟨hb.1, by obtain ⟨C, hC⟩ := hb.2; exact ⟨C, (ho b (hU8 b hb.2)).trans hC⟩⟩) (by rw [hs8]; exact Nat.le_refl _) (fun b hb hl => ho b (hU8 b hb.2))
  rw [← hW1]
  refine ⟨A5, n5, c5, w5, A7, c7, w7, hap, ?_, ?_, ?_, hs67, ?_, ?_⟩
  · rw [← hw6]; exact hap7
  · rintro W (rfl | h1 | rfl)
    · exact hb5.block x hxl
    · rw [h1, ← hw6]; exact hx56
    · exact hx67.trans hx56
  · exact hb67.setCell (p := ⟨x, 0, none⟩) hxB _
  · rw [← hw8]; exact hs8
  · rw [← hw8]
    refine ⟨_, _, hx8, ?_, hels8, hxB, fun p hp => ?_⟩
    · rw [List.length_append, List.length_singleton, hk]
      exact row_same ho7 fun p hp => ho p (hnx p hp)
    · rcases hat7 with h1 | h1
      · rw [h1] at hp
        exact h.inv p hp
      · rw [h1] at hp
        injection hp with hp
        show B ≤ p
        have := hb56.size
        omega
end Go.Proofs.Ytlokehekkllbeaa
