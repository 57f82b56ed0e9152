/-
  A node that was told is written over, and its lists are grown: the law's spoil. No statement is proved here. No condition.
-/
import Derived.Test.YtedcknlafkokkaaNGivN
import Derived.Test.YtedcknlafkokkaaNJoin
namespace Go.Proofs.Ytedcknlafkokkaa
open Go.RowKit

/-- a row that is owned, whatever stands in it -/
def OwnX (w : World) (B : Nat) (T : TypeId) (size : Nat) (v : Value) (n : Nat) : Prop := ∃ xs, w.ownsRow B T size v n xs
theorem OwnX.same {w w' : World} {B : Nat} {T : TypeId} {size : Nat} {v : Value} {n : Nat} (h : OwnX w B T size v n) (hk : ∀ p, v.ownBlock = some p → w'.heap[p]? = w.heap[p]?) : OwnX w' B T size v n := by
  obtain ⟨xs, h⟩ := h
  exact ⟨xs, row_same h hk⟩
theorem OwnX.lt {w : World} {B : Nat} {T : TypeId} {size : Nat} {v : Value} {n : Nat} (h : OwnX w B T size v n) : ∀ p, v.ownBlock = some p → B ≤ p ∧ p < w.heap.size := by
  obtain ⟨xs, h⟩ := h
  exact fun p hp => h.lt p hp
theorem OwnX.poke {w : World} {B : Nat} {T : TypeId} {size : Nat} {A : Option Addr} {c n j : Nat} (h : OwnX w B T size (.slice A n c) n) (hj : j < n * size) :
    ∃ g u, A = some ⟨g, 0, none⟩ ∧ w.heap.size > g ∧ (∃ C, w.heap[g]? = some (.cells C T (0, 0))) ∧ w.cell? ⟨g, j, none⟩ = some u ∧ w.frozen? ⟨g, j, none⟩ = false ∧ ∀ v, OwnX (w.setCell ⟨g, j, none⟩ v) B T size (.slice A n c) n := by
  obtain ⟨xs, h⟩ := h
  rcases h.2 with ⟨hn, h0⟩ | ⟨g, cap, cur, hv, hb, hg, hnc, hcm, hcs, htake⟩
  · subst h0
    omega
  · injection hv with e1 e2 e3
    subst e1 e3
    have hjc : j < cur.size := by
      rw [hcs]
      exact Nat.lt_of_lt_of_le hj (Nat.mul_le_mul_right _ hnc)
    refine ⟨g, cur[j], rfl, (Array.getElem?_eq_some_iff.1 hg).1, ⟨cur, hg⟩, by rw [(row_cells hg).1 j]; exact Array.getElem?_eq_getElem hjc, (row_cells hg).2 j, fun v => ⟨_, by
      simp only [List.length_take, Array.length_toList]
      show min (n * size) (cur.setIfInBounds j v).size = n * size
      rw [Array.size_setIfInBounds, hcs]
      exact Nat.min_eq_left (Nat.mul_le_mul_right _ hnc), .inr ⟨g, c, cur.setIfInBounds j v, rfl, hb, set4 hg, hnc, hcm, by rw [Array.size_setIfInBounds]; exact hcs, rfl⟩⟩⟩
theorem OwnX.type {w : World} {B : Nat} {T : TypeId} {size : Nat} {v : Value} {n : Nat} (h : OwnX w B T size v n) {p : Nat} (hp : v.ownBlock = some p) : ∃ C, w.heap[p]? = some (.cells C T (0, 0)) := by
  obtain ⟨xs, h⟩ := h
  exact row_type h hp
def SpF (v v' : Value) : Nat → Prop := fun b => v.ownBlock = some b ∨ v'.ownBlock = some b
structure SpJ (w W : World) (B : Nat) (b0 : Bool) (nc nk : Nat) (A : Option Addr) (c : Nat) (A' : Option Addr) (c' : Nat) : Prop where
  box : W.heap[w.heap.size]? = some (.cells #[.bool b0, .slice A nc c, .slice A' nk c'] 31 (0, 0))
  cs : OwnX W B 59 4 (.slice A nc c) nc
  ks : OwnX W B 3 1 (.slice A' nk c') nk
  kept : Kept w W (SpF (.slice A nc c) (.slice A' nk c'))
  low : ∀ p, SpF (.slice A nc c) (.slice A' nk c') p → p < w.heap.size
section
variable {w W : World} {B : Nat} {b0 : Bool} {nc nk : Nat} {A A' : Option Addr} {c c' : Nat}
theorem SpJ.pokeC (h : SpJ w W B b0 nc nk A c A' c') {i : Nat} (hi : i < nc) : ∃ g u, A = some ⟨g, 0, none⟩ ∧ W.cell? ⟨g, i * 4, none⟩ = some u ∧ W.frozen? ⟨g, i * 4, none⟩ = false ∧ ∀ v, SpJ w (W.setCell ⟨g, i * 4, none⟩ v) B b0 nc nk A c A' c' := by
  obtain ⟨g, u, hA, hgl, ⟨C, hgC⟩, h1, h2, h3⟩ := h.cs.poke (j := i * 4) (by omega)
  subst hA
  have hF : SpF (.slice (some ⟨g, 0, none⟩) nc c) (.slice A' nk c') g := .inl rfl
  have hgw := h.low g hF
  refine ⟨g, u, rfl, h1, h2, fun v => ⟨?_, h3 v, h.ks.same fun p hp => set_far fun e => ?_, h.kept.trans (Kept.setCell W ⟨g, i * 4, none⟩ v _ hF) fun _ h => .inl h, h.low⟩⟩
  · rw [set_far (by omega)]
    exact h.box
  · subst e
    obtain ⟨C', hC'⟩ := h.ks.type hp
    rw [hgC] at hC'
    injection hC' with hC'
    injection hC' with _ hC'
    exact absurd hC' (by decide)
theorem SpJ.pokeK (h : SpJ w W B b0 nc nk A c A' c') {i : Nat} (hi : i < nk) : ∃ g u, A' = some ⟨g, 0, none⟩ ∧ W.cell? ⟨g, i, none⟩ = some u ∧ W.frozen? ⟨g, i, none⟩ = false ∧ ∀ v, SpJ w (W.setCell ⟨g, i, none⟩ v) B b0 nc nk A c A' c' := by
  obtain ⟨g, u, hA, hgl, ⟨C, hgC⟩, h1, h2, h3⟩ := h.ks.poke (j := i) (by omega)
  subst hA
  have hF : SpF (.slice A nc c) (.slice (some ⟨g, 0, none⟩) nk c') g := .inr rfl
  have hgw := h.low g hF
  refine ⟨g, u, rfl, h1, h2, fun v => ⟨?_, h.cs.same fun p hp => set_far fun e => ?_, h3 v, h.kept.trans (Kept.setCell W ⟨g, i, none⟩ v _ hF) fun _ h => .inl h, h.low⟩⟩
  · rw [set_far (by omega)]
    exact h.box
  · subst e
    obtain ⟨C', hC'⟩ := h.cs.type hp
    rw [hgC] at hC'
    injection hC' with hC'
    injection hC' with _ hC'
    exact absurd hC' (by decide)
theorem SpJ.step (h : SpJ w W B b0 nc nk A c A' c') {W2 : World} (hb : Below W.heap.size W W2) : SpJ w W2 B b0 nc nk A c A' c' :=
  ⟨(hb.block _ (Array.getElem?_eq_some_iff.1 h.box).1).trans h.box, h.cs.same fun p hp => hb.block p (h.cs.lt p hp).2, h.ks.same fun p hp => hb.block p (h.ks.lt p hp).2, h.kept.after hb, h.low⟩
theorem SpJ.appC (h : SpJ w W B b0 nc nk A c A' c') {W2 : World} (hb : Below W.heap.size W W2) {g : Nat} {x : PC} (hg : W2.heap[g]? = some (.cells #[.string x.key, .string x.val, .int .i64 x.long, .int .i64 x.size] 59 (0, 0))) (hBw : B ≤ W2.heap.size) (hn : nc ≤ 100000) :
    ∃ A7 c7 w7, (Builtin.append_ #[29, 29] 29 #[.slice A nc c, .slice (some ⟨g, 0, none⟩) 1 1]).run Try.prog W2 = .ok (.slice A7 (nc + 1) c7) w7 ∧ SpF (.slice A nc c) (.slice A' nk c') = SpF (.slice A nc c) (.slice A' nk c') ∧
      W2.grownBy w7 (Value.slice A nc c).ownBlock ∧ W.heap.size ≤ w7.heap.size ∧ w7.heap[w.heap.size]? = some (.cells #[.bool b0, .slice A nc c, .slice A' nk c'] 31 (0, 0)) ∧ OwnX w7 B 3 1 (.slice A' nk c') nk ∧ Kept w w7 (SpF (.slice A nc c) (.slice A' nk c')) := by
  obtain ⟨iu, hiu, z0, z1, z2⟩ := info_parts info_C
  have h2 := h.step hb
  obtain ⟨xs, hxs⟩ := h2.cs
  have hrow : RowAt W2 (.slice (some ⟨g, 0, none⟩) 1 1) 1 4 x.vals := ⟨_, 1, rfl, rfl, Nat.le_refl _, by unfold maxLen; omega, (fun h => by cases h), fun _ => ⟨g, 0, rfl, fun j u hu => by
    rw [Nat.zero_add, (row_cells hg).1 j, List.getElem?_toArray]
    exact hu⟩⟩
  obtain ⟨A7, c7, w7, hr, h3, h4, -⟩ := run_appAt (P := Try.prog) (w := W2) B 29 29 59 iu _ 4 48 Try.underlying29 hiu z0 z1 z2 rfl (by decide) _ _ nc xs hxs 1 _ hrow (by intro u hu; simp [PC.vals] at hu; rcases hu with rfl | rfl | rfl | rfl <;> rfl) (by unfold maxLen; omega) (by omega) hBw
  have hbl : w.heap.size < W2.heap.size := (Array.getElem?_eq_some_iff.1 h2.box).1
  have hne : some w.heap.size ≠ (Value.slice A nc c).ownBlock := fun e => by have := h2.low w.heap.size (.inl e.symm); omega
  refine ⟨A7, c7, w7, hr, rfl, h4, Nat.le_trans hb.size h4.size, (h4.block _ hbl hne).trans h2.box, h2.ks.same fun p hp => h4.block p (h2.ks.lt p hp).2 fun e => ?_, h2.kept.trans (Kept.grown h4 fun b hb => .inl hb) fun _ h => .inl h⟩
  obtain ⟨C1, h5⟩ := h2.ks.type hp
  obtain ⟨C2, h6⟩ := h2.cs.type e.symm
  rw [h5] at h6
  injection h6 with h6
  injection h6 with _ h6
  exact absurd h6 (by decide)
theorem own_appK {w7 : World} {A' : Option Addr} {c' nk : Nat} (h : OwnX w7 B 3 1 (.slice A' nk c') nk) {g : Nat} {x : Int} (hg : w7.heap[g]? = some (.cells #[.int .i64 x] 3 (0, 0))) (hBw : B ≤ w7.heap.size) (hn : nk ≤ 100000) :
    ∃ A8 c8 w8, (Builtin.append_ #[23, 23] 23 #[.slice A' nk c', .slice (some ⟨g, 0, none⟩) 1 1]).run Try.prog w7 = .ok (.slice A8 (nk + 1) c8) w8 ∧ w7.grownBy w8 (Value.slice A' nk c').ownBlock := by
  obtain ⟨iu, hiu, z0, z1, z2⟩ := info_parts info_I
  obtain ⟨xs, hxs⟩ := h
  have hrow : RowAt w7 (.slice (some ⟨g, 0, none⟩) 1 1) 1 1 [.int .i64 x] := ⟨_, 1, rfl, rfl, Nat.le_refl _, by unfold maxLen; omega, (fun h => by cases h), fun _ => ⟨g, 0, rfl, fun j u hu => by
    rw [Nat.zero_add, (row_cells hg).1 j, List.getElem?_toArray]
    exact hu⟩⟩
  obtain ⟨A7, c7, w8, hr, h3, h4, -⟩ := run_appAt (P := Try.prog) (w := w7) B 23 23 3 iu _ 1 8 Try.underlying23 hiu z0 z1 z2 rfl (by decide) _ _ nk xs hxs 1 _ hrow (by intro u hu; simp at hu; subst hu; rfl) (by unfold maxLen; omega) (by omega) hBw
  exact ⟨A7, c7, w8, hr, h4⟩
end
def moreC : PC := ⟨⟨#[109, 111, 114, 101]⟩, ⟨#[]⟩, 0, 0⟩
set_option maxHeartbeats 8000000 in
set_option maxRecDepth 1000000 in
theorem spoil_any (n : PN) (v : Value) (B : Nat) (w : World) (h : OwnN w B v n) (hBw : B ≤ w.heap.size) (hc : n.cells.length ≤ 1000) (hk : n.kids.length ≤ 1001) :
    Calls Try.prog 21 #[v] w fun e w' => ∃ z : Nat, e = .returned (.int .i64 (z : Int)) ∧ z ≤ 3000 ∧ ∃ b0 vc vk, v = .agg #[b0, vc, vk] ∧ Kept w w' (SpF vc vk) := by
  obtain ⟨A, c, A', c', rfl, ho, hoK⟩ := h
  obtain ⟨nc, hnc⟩ : ∃ nc, nc = n.cells.length := ⟨_, rfl⟩
  obtain ⟨nk, hnk⟩ : ∃ nk, nk = n.kids.length := ⟨_, rfl⟩
  obtain ⟨b0, hb0⟩ : ∃ b0, b0 = n.leaf := ⟨_, rfl⟩
  rw [← hnc] at ho hc ⊢
  rw [← hnk] at hoK hk ⊢
  rw [← hb0]
  obtain ⟨w1, hw1⟩ : ∃ w1, w1 = w.alloc (.cells #[.bool b0, .slice A nc c, .slice A' nk c'] 31) := ⟨_, rfl⟩
  have hb1 : Below w.heap.size w w1 := by rw [hw1]; exact (Below.refl _ _).alloc (Nat.le_refl _) _
  have hlow : ∀ p, SpF (.slice A nc c) (.slice A' nk c') p → p < w.heap.size := fun p hp => by
    rcases hp with hp | hp
    · exact (ho.lt p hp).2
    · exact (hoK.lt p hp).2
  have hj : SpJ w w1 B b0 nc nk A c A' c' := ⟨by rw [hw1]; exact heap_alloc_new w _, ⟨_, row_same ho fun p hp => hb1.block p (ho.lt p hp).2⟩, ⟨_, row_same hoK fun p hp => hb1.block p (hoK.lt p hp).2⟩, by rw [hw1]; exact Kept.alloc w _ _, hlow⟩
  have HJ := Lib.hid hj
  have HW1 := Lib.hid hw1
  clear hj hw1 hb1 hlow ho hoK hnc hnk hb0
  go_enter Try.func21, Try.ntmps21
  go_upto_region 1 with fail
  rw [← HW1.out]
  go_wp2_with fail
  go_loopw [3] (fun s3 wr => ∃ i : Nat, s3 = .int .i64 (i : Int) ∧ i ≤ nc ∧ Hid (SpJ w wr B b0 nc nk A c A' c')) (fun s3 _ => nc - (intOf s3).toNat)
  case atStart => exact ⟨0, rfl, Nat.zero_le _, HJ⟩
  case round =>
    clear HJ
    obtain ⟨i, rfl, hi, hj⟩ := hrel
    obtain ⟨wz, hwz⟩ : ∃ wz : World, wz = wr := ⟨_, rfl⟩
    subst hwz
    have x1 : wz.cell? ⟨w.heap.size, 1, none⟩ = some (.slice A nc c) := (row_cells hj.out.box).1 1
    by_cases hil : i < nc
    · have a1 : (i : Int) < (nc : Int) := by omega
      have a0 : (0 : Int) ≤ (i : Int) := by omega
      obtain ⟨g, u, hA, q0, q1, hnext⟩ := hj.out.pokeC hil
      subst hA
      have HN := Lib.hid (hnext (.string ⟨#[115, 112, 111, 105, 108, 116]⟩))
      have q0' : wz.cell? ⟨g, 0 + i * 4, none⟩ = some u := by rw [Nat.zero_add]; exact q0
      have q1' : wz.frozen? ⟨g, 0 + i * 4, none⟩ = false := by rw [Nat.zero_add]; exact q1
      clear hnext hj
      go_wp2_with fail
      exact ⟨⟨i + 1, by go_num, hil, HN⟩, by simp [intOf]; omega⟩
    · have a1 : ¬ (i : Int) < (nc : Int) := by omega
      have HJ := Lib.hid hj.out
      clear hj
      go_wp2_with fail
      go_loopw [4] (fun s4 wr => ∃ i : Nat, s4 = .int .i64 (i : Int) ∧ i ≤ nk ∧ Hid (SpJ w wr B b0 nc nk A c A' c')) (fun s4 _ => nk - (intOf s4).toNat)
      case atStart => exact ⟨0, rfl, Nat.zero_le _, HJ⟩
      case round =>
        clear HJ x1
        obtain ⟨j, rfl, hj', hj⟩ := hrel
        obtain ⟨wv, hwv⟩ : ∃ wv : World, wv = wr := ⟨_, rfl⟩
        subst hwv
        have x2 : wv.cell? ⟨w.heap.size, 2, none⟩ = some (.slice A' nk c') := (row_cells hj.out.box).1 2
        by_cases hjl : j < nk
        · have b1 : (j : Int) < (nk : Int) := by omega
          have b0' : (0 : Int) ≤ (j : Int) := by omega
          obtain ⟨g, u, hA, q0, q1, hnext⟩ := hj.out.pokeK hjl
          subst hA
          have HN := Lib.hid (hnext (.int .i64 (-1)))
          have q0' : wv.cell? ⟨g, 0 + j, none⟩ = some u := by rw [Nat.zero_add]; exact q0
          have q1' : wv.frozen? ⟨g, 0 + j, none⟩ = false := by rw [Nat.zero_add]; exact q1
          clear hnext hj
          go_wp2_with fail
          exact ⟨⟨j + 1, by go_num, hjl, HN⟩, by simp [intOf]; omega⟩
        · have b1 : ¬ (j : Int) < (nk : Int) := by omega
          have hJ := hj.out
          have x1 : wv.cell? ⟨w.heap.size, 1, none⟩ = some (.slice A nc c) := (row_cells hJ.box).1 1
          have hBv : B ≤ wv.heap.size := Nat.le_trans hBw hJ.kept.size
          have hlv : w.heap.size < wv.heap.size := (Array.getElem?_eq_some_iff.1 hJ.box).1
          have hS : ∀ W, Below wv.heap.size wv W → W.cell? ⟨w.heap.size, 1, none⟩ = some (.slice A nc c) ∧ W.cell? ⟨w.heap.size, 2, none⟩ = some (.slice A' nk c') := fun W hW => by
            have e := (hW.block _ hlv).trans hJ.box
            exact ⟨(row_cells e).1 1, (row_cells e).1 2⟩
          have hbx : ∀ W : World, W.heap[w.heap.size]? = some (.cells #[.bool b0, .slice A nc c, .slice A' nk c'] 31 (0, 0)) → W.cell? ⟨w.heap.size, 1, none⟩ = some (.slice A nc c) ∧ W.cell? ⟨w.heap.size, 2, none⟩ = some (.slice A' nk c') := fun W e => ⟨(row_cells e).1 1, (row_cells e).1 2⟩
          have k0 := hS (wv.drew) ((Below.refl _ _).drew)
          have k1 := hS ((wv.alloc (.cells #[.string ⟨#[109, 111, 114, 101]⟩, .string ⟨#[]⟩, .int .i64 0, .int .i64 0] 59)).drew) (((Below.refl _ _).alloc (Nat.le_refl _) _).drew)
          have k2 := hS ((wv.alloc (.cells #[.int .i64 (-2)] 3)).drew) (((Below.refl _ _).alloc (Nat.le_refl _) _).drew)
          obtain ⟨P1, hP1⟩ : ∃ W, W = (wv.alloc (.cells #[.string ⟨#[109, 111, 114, 101]⟩, .string ⟨#[]⟩, .int .i64 0, .int .i64 0] 59)).drew := ⟨_, rfl⟩
          have b1 : Below wv.heap.size wv P1 := by rw [hP1]; exact ((Below.refl _ _).alloc (Nat.le_refl _) _).drew
          have t1 : P1.heap[wv.heap.size]? = some (.cells #[.string moreC.key, .string moreC.val, .int .i64 moreC.long, .int .i64 moreC.size] 59 (0, 0)) := by rw [hP1]; exact heap_alloc_new wv _
          obtain ⟨A17, c17, w17, r1, -, g1, z1, y1, o1, f1⟩ := hJ.appC b1 (x := moreC) t1 (Nat.le_trans hBv b1.size) (by omega)
          have m1 := hbx _ y1
          have s1 := hS _ b1
          have t1k : (w17.alloc (.cells #[.int .i64 (-2)] 3)).heap[w17.heap.size]? = some (.cells #[.int .i64 (-2)] 3 (0, 0)) := heap_alloc_new w17 _
          have hb17 : Below w17.heap.size w17 (w17.alloc (.cells #[.int .i64 (-2)] 3)) := (Below.refl _ _).alloc (Nat.le_refl _) _
          obtain ⟨A18, c18, w18, q1, gk1⟩ := own_appK (o1.same (w' := w17.alloc (.cells #[.int .i64 (-2)] 3)) fun p hp => hb17.block p (o1.lt p hp).2) (x := -2) t1k (by have := hb17.size; omega) (by omega)
          have F1 : Hid (Kept w w18 (SpF (.slice A nc c) (.slice A' nk c'))) := Lib.hid ((f1.after hb17).trans (Kept.grown gk1 fun b hb => .inr hb) fun _ h => .inl h)
          have n1 := hbx _ ((hb17.block _ (by omega)).trans y1)
          have n1' : w18.cell? ⟨w.heap.size, 1, none⟩ = some (.slice A nc c) ∧ w18.cell? ⟨w.heap.size, 2, none⟩ = some (.slice A' nk c') := hbx _ ((gk1.block _ (by have := hb17.size; omega) (fun e => by have := hJ.low w.heap.size (.inr e.symm); omega)).trans ((hb17.block _ (by omega)).trans y1))
          obtain ⟨P2, hP2⟩ : ∃ W, W = ((wv.alloc (.cells #[.string ⟨#[109, 111, 114, 101]⟩, .string ⟨#[]⟩, .int .i64 0, .int .i64 0] 59)).alloc (.cells #[.int .i64 (-2)] 3)).drew := ⟨_, rfl⟩
          have b2 : Below wv.heap.size wv P2 := by rw [hP2]; exact (((Below.refl _ _).alloc (Nat.le_refl _) _).alloc (by simp) _).drew
          have t2 : P2.heap[wv.heap.size]? = some (.cells #[.string moreC.key, .string moreC.val, .int .i64 moreC.long, .int .i64 moreC.size] 59 (0, 0)) := by rw [hP2]; exact at_push0 wv _ _
          obtain ⟨A27, c27, w27, r2, -, g2, z2, y2, o2, f2⟩ := hJ.appC b2 (x := moreC) t2 (Nat.le_trans hBv b2.size) (by omega)
          have m2 := hbx _ y2
          have s2 := hS _ b2
          have t2k : P2.heap[wv.heap.size + 1]? = some (.cells #[.int .i64 (-2)] 3 (0, 0)) := by rw [hP2]; exact at_push1 wv _ _
          have t2k' := (g2.block _ (Array.getElem?_eq_some_iff.1 t2k).1 (fun e => by have := hJ.low _ (.inl e.symm); omega)).trans t2k
          obtain ⟨A28, c28, w28, q2, gk2⟩ := own_appK o2 (x := -2) t2k' (by omega) (by omega)
          have F2 : Hid (Kept w w28 (SpF (.slice A nc c) (.slice A' nk c'))) := Lib.hid (f2.trans (Kept.grown gk2 fun b hb => .inr hb) fun _ h => .inl h)
          have n2 : w28.cell? ⟨w.heap.size, 1, none⟩ = some (.slice A nc c) ∧ w28.cell? ⟨w.heap.size, 2, none⟩ = some (.slice A' nk c') := hbx _ ((gk2.block _ (by omega) (fun e => by have := hJ.low w.heap.size (.inr e.symm); omega)).trans y2)
          obtain ⟨P3, hP3⟩ : ∃ W, W = ((wv.alloc (.cells #[.int .i64 (-2)] 3)).alloc (.cells #[.string ⟨#[109, 111, 114, 101]⟩, .string ⟨#[]⟩, .int .i64 0, .int .i64 0] 59)).drew := ⟨_, rfl⟩
          have b3 : Below wv.heap.size wv P3 := by rw [hP3]; exact (((Below.refl _ _).alloc (Nat.le_refl _) _).alloc (by simp) _).drew
          have t3 : P3.heap[wv.heap.size + 1]? = some (.cells #[.string moreC.key, .string moreC.val, .int .i64 moreC.long, .int .i64 moreC.size] 59 (0, 0)) := by rw [hP3]; exact at_push1 wv _ _
          obtain ⟨A37, c37, w37, r3, -, g3, z3, y3, o3, f3⟩ := hJ.appC b3 (x := moreC) t3 (Nat.le_trans hBv b3.size) (by omega)
          have m3 := hbx _ y3
          have s3 := hS _ b3
          have t3k : P3.heap[wv.heap.size]? = some (.cells #[.int .i64 (-2)] 3 (0, 0)) := by rw [hP3]; exact at_push0 wv _ _
          have t3k' := (g3.block _ (Array.getElem?_eq_some_iff.1 t3k).1 (fun e => by have := hJ.low _ (.inl e.symm); omega)).trans t3k
          obtain ⟨A38, c38, w38, q3, gk3⟩ := own_appK o3 (x := -2) t3k' (by omega) (by omega)
          have F3 : Hid (Kept w w38 (SpF (.slice A nc c) (.slice A' nk c'))) := Lib.hid (f3.trans (Kept.grown gk3 fun b hb => .inr hb) fun _ h => .inl h)
          have n3 : w38.cell? ⟨w.heap.size, 1, none⟩ = some (.slice A nc c) ∧ w38.cell? ⟨w.heap.size, 2, none⟩ = some (.slice A' nk c') := hbx _ ((gk3.block _ (by omega) (fun e => by have := hJ.low w.heap.size (.inr e.symm); omega)).trans y3)
          rw [hP1] at r1 s1
          rw [hP2] at r2 s2
          rw [hP3] at r3 s3
          have R1 := Lib.hid r1
          have Q1 := Lib.hid q1
          have R2 := Lib.hid r2
          have Q2 := Lib.hid q2
          have R3 := Lib.hid r3
          have Q3 := Lib.hid q3
          clear hS hbx b1 t1 r1 g1 z1 y1 o1 f1 hP1 q1 gk1 b2 t2 r2 g2 z2 y2 o2 f2 hP2 q2 gk2 b3 t3 r3 g3 z3 y3 o3 f3 hP3 q3 gk3 t1k hb17 t2k t2k' t3k t3k' hj hJ
          go_upto_region 9 with fail
          clear x1 x2
          go_region_held3 (fun W => W.cell? ⟨w.heap.size, 1, none⟩ = some (.slice A nc c) ∧ W.cell? ⟨w.heap.size, 2, none⟩ = some (.slice A' nk c')) (first | with_reducible exact k0 | with_reducible exact k1 | with_reducible exact k2 | with_reducible exact s1 | with_reducible exact s2 | with_reducible exact s3 | with_reducible exact m1 | with_reducible exact m2 | with_reducible exact m3 | with_reducible exact n1 | with_reducible exact n1' | with_reducible exact n2 | with_reducible exact n3)
            (first
              | (refine stepApp rfl (.tmp 29) (.tmp 31) 29 rfl (.slice A nc c) (.slice (some ⟨wv.heap.size, 0, none⟩) 1 1) rfl rfl (by with_reducible exact R1.out) ?_)
              | (refine stepApp rfl (.tmp 29) (.tmp 31) 29 rfl (.slice A nc c) (.slice (some ⟨wv.heap.size, 0, none⟩) 1 1) rfl rfl (by with_reducible exact R2.out) ?_)
              | (refine stepApp rfl (.tmp 29) (.tmp 31) 29 rfl (.slice A nc c) (.slice (some ⟨wv.heap.size + 1, 0, none⟩) 1 1) rfl rfl (by with_reducible exact R3.out) ?_)
              | (refine stepApp rfl (.tmp 35) (.tmp 36) 23 rfl (.slice A' nk c') (.slice (some ⟨w17.heap.size, 0, none⟩) 1 1) rfl rfl (by with_reducible exact Q1.out) ?_)
              | (refine stepApp rfl (.tmp 35) (.tmp 36) 23 rfl (.slice A' nk c') (.slice (some ⟨wv.heap.size + 1, 0, none⟩) 1 1) rfl rfl (by with_reducible exact Q2.out) ?_)
              | (refine stepApp rfl (.tmp 35) (.tmp 36) 23 rfl (.slice A' nk c') (.slice (some ⟨wv.heap.size, 0, none⟩) 1 1) rfl rfl (by with_reducible exact Q3.out) ?_))
          all_goals
            go_wp2_with fail
            go_ret
            refine ⟨nc + 1 + (nk + 1), ret_int (by rw [IntKind.wrap_i64]; omega), by omega, _, _, _, ⟨rfl, rfl, rfl⟩, ?_⟩
            first | exact F1.out | exact F2.out | exact F3.out
end Go.Proofs.Ytedcknlafkokkaa
