/-
  A node cut: the program's Cut. No statement is proved here. No condition.
-/
import Derived.Test.YtedcknlafkokkaaNCut
namespace Go.Proofs.Ytedcknlafkokkaa
open Go.RowKit

def keyAt (l : List PC) (i : Nat) : ByteArray := ((l[i]?).map PC.key).getD ⟨#[]⟩
def PN.zero : PN := ⟨false, [], []⟩
def PN.cut (n : PN) : PN × ByteArray × PN := if n.cells.length ≤ n.from' then (n, ⟨#[]⟩, PN.zero) else (n.first n.place, keyAt n.cells n.place, n.second n.place)
theorem firstplace_any (n : PN) (v : Value) (w : World) (h : NodeN w Any v n) :
    Calls Try.prog 52 #[v] w fun e w' => e = .returned (.int .i64 (n.from' : Int)) ∧ Below w.heap.size w w' := by
  obtain ⟨vc, vk, rfl, hc, hk⟩ := h
  obtain ⟨Ac, cc, rfl, -, -⟩ := hc.slice
  obtain ⟨Ak, ck, rfl, -, -⟩ := hk.slice
  clear hc hk
  have hb : ∀ o, Below w.heap.size w (w.alloc o) := fun o => (Below.refl _ _).alloc (Nat.le_refl _) _
  go_enter Try.func52, Try.ntmps52
  cases hlf : n.leaf with
  | true =>
    have hf : n.from' = 1 := by unfold PN.from'; rw [hlf]; rfl
    have HF := Lib.hid hf
    clear hf
    go_wp2_with fail
    go_ret
    exact ⟨ret_int (by rw [HF.out]; rfl), hb _⟩
  | false =>
    have hf : n.from' = 0 := by unfold PN.from'; rw [hlf]; rfl
    have HF := Lib.hid hf
    clear hf
    go_wp2_with fail
    go_ret
    exact ⟨ret_int (by rw [HF.out]; rfl), hb _⟩
theorem OwnN.zero (w : World) (B : Nat) : OwnN w B (.agg #[.bool false, .slice none 0 0, .slice none 0 0]) PN.zero := ⟨none, 0, none, 0, rfl, ⟨rfl, .inl ⟨rfl, rfl⟩⟩, ⟨rfl, .inl ⟨rfl, rfl⟩⟩⟩
theorem place_lt {n : PN} (h : ¬ n.cells.length ≤ n.from') : n.place < n.cells.length ∧ n.from' ≤ n.place := by
  unfold PN.place
  refine ⟨best_le _ _ _ _ (by omega) (fun i hi => ?_), best_ge _ _ _ _ (Nat.le_refl _) (fun i hi => ?_)⟩
  · exact List.mem_range.1 (List.mem_of_mem_drop hi)
  · obtain ⟨k, hk, rfl⟩ := List.getElem_of_mem hi
    rw [List.getElem_drop, List.getElem_range]
    omega
/-- a node that is owned, below a bound -/
theorem OwnN.blocks {w : World} {B : Nat} {v : Value} {n : PN} (h : OwnN w B v n) {b0 vc vk : Value} (he : v = .agg #[b0, vc, vk]) {p : Nat} (hp : vc.ownBlock = some p ∨ vk.ownBlock = some p) : B ≤ p ∧ p < w.heap.size := by
  obtain ⟨A, c, A', c', hv, h1, h2⟩ := h
  rw [hv] at he
  injection he with he
  have f1 : (Value.slice A n.cells.length c) = vc := by have := congrArg (fun a : Array Value => a[1]?) he; simpa using this
  have f2 : (Value.slice A' n.kids.length c') = vk := by have := congrArg (fun a : Array Value => a[2]?) he; simpa using this
  rcases hp with hp | hp
  · rw [← f1] at hp
    exact h1.lt p hp
  · rw [← f2] at hp
    exact h2.lt p hp
def OwnB (w : World) (B M : Nat) (v : Value) (n : PN) : Prop := OwnN w B v n ∧ ∀ b0 vc vk, v = .agg #[b0, vc, vk] → ∀ p, (vc.ownBlock = some p ∨ vk.ownBlock = some p) → p < M
theorem Kept.set3 {w W : World} {F : Nat → Prop} {p : Nat} {x y z : Value} (h : Kept w W F) (hp : F p) : Kept w (((W.setCell ⟨p, 0, none⟩ x).setCell ⟨p, 1, none⟩ y).setCell ⟨p, 2, none⟩ z) F :=
  ((h.trans (Kept.setCell W ⟨p, 0, none⟩ x F hp) (fun _ h => .inl h)).trans (Kept.setCell _ ⟨p, 1, none⟩ y F hp) (fun _ h => .inl h)).trans (Kept.setCell _ ⟨p, 2, none⟩ z F hp) (fun _ h => .inl h)
theorem Kept.after {w W W' : World} {F : Nat → Prop} (hb : Below W.heap.size W W') (h : Kept w W F) : Kept w W' F := h.trans (Kept.of_below hb) (fun _ hn => .inr (Nat.le_trans h.size hn))
theorem OwnN.same {w w' : World} {B : Nat} {v : Value} {n : PN} (h : OwnN w B v n) (hk : ∀ b, B ≤ b → b < w.heap.size → w'.heap[b]? = w.heap[b]?) : OwnN w' B v n := by
  obtain ⟨Ac, cc, Ak, ck, rfl, h1, h2⟩ := h
  exact ⟨Ac, cc, Ak, ck, rfl, row_same h1 fun p hp => hk p (h1.lt p hp).1 (h1.lt p hp).2, row_same h2 fun p hp => hk p (h2.lt p hp).1 (h2.lt p hp).2⟩
theorem set3_far {W : World} {p b : Nat} {x y z : Value} (h : b ≠ p) : (((W.setCell ⟨p, 0, none⟩ x).setCell ⟨p, 1, none⟩ y).setCell ⟨p, 2, none⟩ z).heap[b]? = W.heap[b]? := by rw [set_far h, set_far h, set_far h]
theorem set3_at {W : World} {p : Nat} {T : TypeId} {a b c x y z : Value} (h : W.heap[p]? = some (.cells #[a, b, c] T (0, 0))) : (((W.setCell ⟨p, 0, none⟩ x).setCell ⟨p, 1, none⟩ y).setCell ⟨p, 2, none⟩ z).heap[p]? = some (.cells #[x, y, z] T (0, 0)) := by
  rw [Joins.block_setCell (Joins.block_setCell (Joins.block_setCell h _) _) _]
  simp
theorem set3_size {W : World} {p : Nat} {x y z : Value} : (((W.setCell ⟨p, 0, none⟩ x).setCell ⟨p, 1, none⟩ y).setCell ⟨p, 2, none⟩ z).heap.size = W.heap.size := by simp
set_option maxHeartbeats 4000000 in
set_option maxRecDepth 100000 in
theorem cut_any (n : PN) (v : Value) (w : World) (h : NodeN w Any v n) (hs : n.small) :
    Calls Try.prog 24 #[v] w fun e w' => ∃ va vb M, e = .returned (.tuple #[va, .string n.cut.2.1, vb]) ∧ OwnB w' w.heap.size M va n.cut.1 ∧ OwnN w' M vb n.cut.2.2 ∧ w.heap.size ≤ M ∧ Below w.heap.size w w' := by
  obtain ⟨vc, vk, rfl, hc, hk⟩ := id h
  obtain ⟨Ac, cc, rfl, -, -⟩ := hc.slice
  obtain ⟨Ak, ck, rfl, -, -⟩ := hk.slice
  have hlc := hs.cells
  have hlk := hs.kids
  obtain ⟨w1, hw1⟩ : ∃ w1, w1 = w.alloc (.cells #[.bool n.leaf, .slice Ac n.cells.length cc, .slice Ak n.kids.length ck] 31) := ⟨_, rfl⟩
  have hb1 : Below w.heap.size w w1 := by rw [hw1]; exact (Below.refl _ _).alloc (Nat.le_refl _) _
  have hs1 : w1.heap.size = w.heap.size + 1 := by rw [hw1]; simp
  have hx1 : w1.heap[w.heap.size]? = some (.cells #[.bool n.leaf, .slice Ac n.cells.length cc, .slice Ak n.kids.length ck] 31 (0, 0)) := by rw [hw1]; exact heap_alloc_new w _
  obtain ⟨w2, hw2⟩ : ∃ w2, w2 = w1.alloc (.cells #[.bool false, .slice none 0 0, .slice none 0 0] 31) := ⟨_, rfl⟩
  have hb2 : Below w1.heap.size w1 w2 := by rw [hw2]; exact (Below.refl _ _).alloc (Nat.le_refl _) _
  have hs2 : w2.heap.size = w.heap.size + 2 := by rw [hw2]; simp [hs1]
  have hy2 : w2.heap[w.heap.size + 1]? = some (.cells #[.bool false, .slice none 0 0, .slice none 0 0] 31 (0, 0)) := by rw [hw2, ← hs1]; exact heap_alloc_new w1 _
  have hx2 := (hb2.block w.heap.size (by omega)).trans hx1
  obtain ⟨w3, hw3⟩ : ∃ w3, w3 = w2.alloc (.cells #[.bool false, .slice none 0 0, .slice none 0 0] 31) := ⟨_, rfl⟩
  have hb3 : Below w2.heap.size w2 w3 := by rw [hw3]; exact (Below.refl _ _).alloc (Nat.le_refl _) _
  have hs3 : w3.heap.size = w.heap.size + 3 := by rw [hw3]; simp [hs2]
  have hz3 : w3.heap[w.heap.size + 2]? = some (.cells #[.bool false, .slice none 0 0, .slice none 0 0] 31 (0, 0)) := by rw [hw3, ← hs2]; exact heap_alloc_new w2 _
  have hx3 := (hb3.block w.heap.size (by omega)).trans hx2
  have hy3 := (hb3.block (w.heap.size + 1) (by omega)).trans hy2
  have hbw : Below w.heap.size w w3 := (hb1.trans (Joins.below_le hb2 hb1.size)).trans (Joins.below_le hb3 (by omega))
  have hw123 : w3 = ((w.alloc (.cells #[.bool n.leaf, .slice Ac n.cells.length cc, .slice Ak n.kids.length ck] 31)).alloc (.cells #[.bool false, .slice none 0 0, .slice none 0 0] 31)).alloc (.cells #[.bool false, .slice none 0 0, .slice none 0 0] 31) := by rw [hw3, hw2, hw1]
  have hnN : ∀ W, Below w3.heap.size w3 W → NodeN W Any (.agg #[.bool n.leaf, .slice Ac n.cells.length cc, .slice Ak n.kids.length ck]) n := fun W hW => h.grow (hbw.trans (Joins.below_le hW hbw.size))
  have hnB : ∀ W, Below w3.heap.size w3 W → NodeN W (fun b => b < w.heap.size) (.agg #[.bool n.leaf, .slice Ac n.cells.length cc, .slice Ak n.kids.length ck]) n := fun W hW => (h.mono (N' := fun b => b < w.heap.size) fun b _ hb => hb).grow (hbw.trans (Joins.below_le hW hbw.size))
  have hkeep : ∀ W, Below w3.heap.size w3 W → W.cell? ⟨w.heap.size, 0, none⟩ = some (.bool n.leaf) ∧ W.cell? ⟨w.heap.size, 1, none⟩ = some (.slice Ac n.cells.length cc) ∧ W.cell? ⟨w.heap.size, 2, none⟩ = some (.slice Ak n.kids.length ck) := fun W hW => by
    have e1 := (hW.block w.heap.size (by omega)).trans hx3
    exact ⟨(row_cells e1).1 0, (row_cells e1).1 1, (row_cells e1).1 2⟩
  have hres : ∀ W, Below w3.heap.size w3 W → (W.cell? ⟨w.heap.size + 1, 0, none⟩ = some (.bool false) ∧ W.cell? ⟨w.heap.size + 1, 1, none⟩ = some (.slice none 0 0) ∧ W.cell? ⟨w.heap.size + 1, 2, none⟩ = some (.slice none 0 0)) ∧ (W.frozen? ⟨w.heap.size + 1, 0, none⟩ = false ∧ W.frozen? ⟨w.heap.size + 1, 1, none⟩ = false ∧ W.frozen? ⟨w.heap.size + 1, 2, none⟩ = false) ∧ (W.cell? ⟨w.heap.size + 2, 0, none⟩ = some (.bool false) ∧ W.cell? ⟨w.heap.size + 2, 1, none⟩ = some (.slice none 0 0) ∧ W.cell? ⟨w.heap.size + 2, 2, none⟩ = some (.slice none 0 0)) ∧ (W.frozen? ⟨w.heap.size + 2, 0, none⟩ = false ∧ W.frozen? ⟨w.heap.size + 2, 1, none⟩ = false ∧ W.frozen? ⟨w.heap.size + 2, 2, none⟩ = false) := fun W hW => by
    have e1 := (hW.block (w.heap.size + 1) (by omega)).trans hy3
    have e2 := (hW.block (w.heap.size + 2) (by omega)).trans hz3
    exact ⟨⟨(row_cells e1).1 0, (row_cells e1).1 1, (row_cells e1).1 2⟩, ⟨(row_cells e1).2 0, (row_cells e1).2 1, (row_cells e1).2 2⟩, ⟨(row_cells e2).1 0, (row_cells e2).1 1, (row_cells e2).1 2⟩, (row_cells e2).2 0, (row_cells e2).2 1, (row_cells e2).2 2⟩
  -- the end: both results are written, and read
  have hend : ∀ W, Below w3.heap.size w3 W → ∀ x y z x' y' z' : Value, ((((((W.setCell ⟨w.heap.size + 1, 0, none⟩ x).setCell ⟨w.heap.size + 1, 1, none⟩ y).setCell ⟨w.heap.size + 1, 2, none⟩ z).setCell ⟨w.heap.size + 2, 0, none⟩ x').setCell ⟨w.heap.size + 2, 1, none⟩ y').setCell ⟨w.heap.size + 2, 2, none⟩ z').heap[w.heap.size + 1]? = some (.cells #[x, y, z] 31 (0, 0)) ∧ ((((((W.setCell ⟨w.heap.size + 1, 0, none⟩ x).setCell ⟨w.heap.size + 1, 1, none⟩ y).setCell ⟨w.heap.size + 1, 2, none⟩ z).setCell ⟨w.heap.size + 2, 0, none⟩ x').setCell ⟨w.heap.size + 2, 1, none⟩ y').setCell ⟨w.heap.size + 2, 2, none⟩ z').heap[w.heap.size + 2]? = some (.cells #[x', y', z'] 31 (0, 0)) ∧ Below w.heap.size w ((((((W.setCell ⟨w.heap.size + 1, 0, none⟩ x).setCell ⟨w.heap.size + 1, 1, none⟩ y).setCell ⟨w.heap.size + 1, 2, none⟩ z).setCell ⟨w.heap.size + 2, 0, none⟩ x').setCell ⟨w.heap.size + 2, 1, none⟩ y').setCell ⟨w.heap.size + 2, 2, none⟩ z') ∧ (∀ b, w3.heap.size ≤ b → ((((((W.setCell ⟨w.heap.size + 1, 0, none⟩ x).setCell ⟨w.heap.size + 1, 1, none⟩ y).setCell ⟨w.heap.size + 1, 2, none⟩ z).setCell ⟨w.heap.size + 2, 0, none⟩ x').setCell ⟨w.heap.size + 2, 1, none⟩ y').setCell ⟨w.heap.size + 2, 2, none⟩ z').heap[b]? = W.heap[b]?) := fun W hW x y z x' y' z' => by
    have e1 := (hW.block (w.heap.size + 1) (by omega)).trans hy3
    have e2 := (hW.block (w.heap.size + 2) (by omega)).trans hz3
    have h6 := six (x := x) (y := y) (z := z) (x' := x') (y' := y') (z' := z') (by omega : w.heap.size + 1 ≠ w.heap.size + 2) e1 e2
    exact ⟨h6.1, h6.2, six_below (hbw.trans (Joins.below_le hW hbw.size)) (by omega) (by omega), fun b hb => by rw [set_far (by omega), set_far (by omega), set_far (by omega), set_far (by omega), set_far (by omega), set_far (by omega)]⟩
  have hfp := fun W hW => firstplace_any n _ W (hnN W hW)
  have hcp := fun W hW => copiedN_any n _ W (hnN W hW) (by omega) (by omega)
  have hul := fun W hW => unlike_any n _ W (hnN W hW) hs
  unfold UnV at hul
  have hha := fun W hW (hi : n.place < n.cells.length) => halves_any n (fun b => b < w.heap.size) _ n.place W (hnB W hW) (by omega) hi (by omega)
  have HNN := Lib.hid hnN
  have HKEEP := Lib.hid hkeep
  have HRES := Lib.hid hres
  have HY6 : Hid (∀ W, Below w3.heap.size w3 W → W.heap[w.heap.size + 1]? = some (.cells #[.bool false, .slice none 0 0, .slice none 0 0] 31 (0, 0))) := Lib.hid (fun W hW => (hW.block (w.heap.size + 1) (by omega)).trans hy3)
  have HZ6 : Hid (∀ W, Below w3.heap.size w3 W → W.heap[w.heap.size + 2]? = some (.cells #[.bool false, .slice none 0 0, .slice none 0 0] 31 (0, 0))) := Lib.hid (fun W hW => (hW.block (w.heap.size + 2) (by omega)).trans hz3)
  have HEND := Lib.hid hend
  have HFP := Lib.hid hfp
  have HCP := Lib.hid hcp
  have HUL := Lib.hid hul
  have HHA := Lib.hid hha
  have HW := Lib.hid hw123
  have HS3 := Lib.hid hs3
  have HBW := Lib.hid hbw
  have HS := Lib.hid hs
  have HC := Lib.hid hc
  obtain ⟨f, hf⟩ : ∃ f, f = n.from' := ⟨_, rfl⟩
  have HF := Lib.hid hf
  rw [← hf] at hfp
  have CFP := Lib.hid hfp
  have hfb : f ≤ 1 := by rw [hf]; unfold PN.from'; split <;> omega
  obtain ⟨x0, x1, x2⟩ := hkeep w3 (Below.refl _ _)
  have hzn := zero_node
  clear hnN hnB hkeep hres hend hfp hcp hul hha hw1 hw2 hw3 hb1 hb2 hb3 hs1 hs2 hx1 hx2 hy2 hx3 hy3 hz3 hbw hw123 hc hk h hs3 hf hs
  go_enter Try.func24, Try.ntmps24
  go_upto_region 1 with fail
  rw [← HW.out]
  rw [show w.heap.size + 1 + 1 = w.heap.size + 2 from rfl]
  go_wp2_with fail
  refine (CFP.out w3 (Below.refl _ _)).mono ?_
  rintro e w4 ⟨rfl, hb4⟩
  obtain ⟨y0, y1, y2⟩ := HKEEP.out w4 hb4
  by_cases hff : n.cells.length ≤ f
  · have j1 : (n.cells.length : Int) ≤ (f : Int) := by omega
    have hcut : n.cut = (n, ⟨#[]⟩, PN.zero) := by unfold PN.cut; rw [if_pos (by rw [← HF.out]; exact hff)]
    have HCUT := Lib.hid hcut
    clear hcut
    go_wp2_with fail
    refine (HCP.out w4 hb4).mono ?_
    rintro e w5 ⟨v5, rfl, ho5, hb5⟩
    obtain ⟨A1, c1, A2, c2, rfl, o1, o2⟩ := ho5
    have hb35 := hb4.trans (Joins.below_le hb5 hb4.size)
    obtain ⟨⟨r0, r1, r2⟩, ⟨r3, r4, r5⟩, ⟨r6, r7, r8⟩, r9, r10, r11⟩ := HRES.out w5 hb35
    obtain ⟨k1, k2, k3, k4⟩ := HEND.out w5 hb35 (.bool n.leaf) (.slice A1 n.cells.length c1) (.slice A2 n.kids.length c2) (.bool false) (.slice none 0 0) (.slice none 0 0)
    obtain ⟨w6, hw6⟩ : ∃ w6, w6 = (((((w5.setCell ⟨w.heap.size + 1, 0, none⟩ (.bool n.leaf)).setCell ⟨w.heap.size + 1, 1, none⟩ (.slice A1 n.cells.length c1)).setCell ⟨w.heap.size + 1, 2, none⟩ (.slice A2 n.kids.length c2)).setCell ⟨w.heap.size + 2, 0, none⟩ (.bool false)).setCell ⟨w.heap.size + 2, 1, none⟩ (.slice none 0 0)).setCell ⟨w.heap.size + 2, 2, none⟩ (.slice none 0 0) := ⟨_, rfl⟩
    rw [← hw6] at k1 k2 k3 k4
    have hs4 := hb4.size
    have p1 := row_same o1 (w' := w6) fun p' hp' => k4 p' (by have := (o1.lt p' hp').1; omega)
    have p2 := row_same o2 (w' := w6) fun p' hp' => k4 p' (by have := (o2.lt p' hp').1; omega)
    have hsz : w3.heap.size ≤ w4.heap.size := hb4.size
    have hs36 := HBW.out.size
    have hown : OwnN w6 w4.heap.size (.agg #[.bool n.leaf, .slice A1 n.cells.length c1, .slice A2 n.kids.length c2]) n := ⟨A1, c1, A2, c2, rfl, p1, p2⟩
    have hnb : ∀ b0 vc vk, (.agg #[.bool n.leaf, .slice A1 n.cells.length c1, .slice A2 n.kids.length c2] : Value) = .agg #[b0, vc, vk] → ∀ p, (vc.ownBlock = some p ∨ vk.ownBlock = some p) → p < w6.heap.size := fun b0 vc vk he p hp => (hown.blocks he hp).2
    have q0 : w6.cell? ⟨w.heap.size + 1, 0, none⟩ = some (.bool n.leaf) := (row_cells k1).1 0
    have q1 : w6.cell? ⟨w.heap.size + 1, 1, none⟩ = some (.slice A1 n.cells.length c1) := (row_cells k1).1 1
    have q2 : w6.cell? ⟨w.heap.size + 1, 2, none⟩ = some (.slice A2 n.kids.length c2) := (row_cells k1).1 2
    have q3 : w6.cell? ⟨w.heap.size + 2, 0, none⟩ = some (.bool false) := (row_cells k2).1 0
    have q4 : w6.cell? ⟨w.heap.size + 2, 1, none⟩ = some (.slice none 0 0) := (row_cells k2).1 1
    have q5 : w6.cell? ⟨w.heap.size + 2, 2, none⟩ = some (.slice none 0 0) := (row_cells k2).1 2
    have HOWN := Lib.hid hown
    have HNB := Lib.hid hnb
    have HB6 := Lib.hid k3
    have HW6 := Lib.hid hw6
    clear hown hnb k1 k2 k3 k4 p1 p2 o1 o2 hb4 hb5 hb35 hw6 x0 x1 x2 y0 y1 y2
    go_wp2_with fail
    rw [← HW6.out]
    refine bodyPost_ret (v := .tuple #[.agg #[.bool n.leaf, .slice A1 n.cells.length c1, .slice A2 n.kids.length c2], .string ⟨#[]⟩, .agg #[.bool false, .slice none 0 0, .slice none 0 0]]) (by clear r0 r1 r2 r3 r4 r5 r6 r7 r8 r9 r10 r11; rw [results_ctc rfl]; go_simp; try rfl) rfl ?_
    rw [HCUT.out]
    exact ⟨_, _, w6.heap.size, rfl, ⟨HOWN.out.base (by omega), HNB.out⟩, OwnN.zero _ _, HB6.out.size, HB6.out⟩
  · have j1 : ¬ (n.cells.length : Int) ≤ (f : Int) := by omega
    have hnf : ¬ n.cells.length ≤ n.from' := by rw [← HF.out]; exact hff
    obtain ⟨hpl, hpf⟩ := place_lt hnf
    obtain ⟨P, hP⟩ : ∃ P, P = n.place := ⟨_, rfl⟩
    have hcut : n.cut = (n.first P, keyAt n.cells P, n.second P) := by unfold PN.cut; rw [if_neg hnf, hP]
    have hpe : best n.odd f ((List.range n.cells.length).drop (f + 1)) = P := by rw [hP, HF.out]; rfl
    rw [← hP] at hpl
    have HCUT := Lib.hid hcut
    have HPE := Lib.hid hpe
    have HP := Lib.hid hP
    clear hcut hpe hpf hnf hP
    have hfl : f < n.cells.length := by omega
    go_upto_region 4 with fail
    have hbe : Below w3.heap.size w3 w4.drew := below_drewN hb4 1
    have hst := HKEEP.out _ hbe
    clear y0 y1 y2 x0 x1 x2
    go_region_held3 (fun W => W.cell? ⟨w.heap.size, 0, none⟩ = some (.bool n.leaf) ∧ W.cell? ⟨w.heap.size, 1, none⟩ = some (.slice Ac n.cells.length cc) ∧ W.cell? ⟨w.heap.size, 2, none⟩ = some (.slice Ak n.kids.length ck)) (first | exact hst | exact HKEEP.out _ hbe)
      (first
        | (go_at_call 55; refine (HUL.out _ hbe).mono ?_; rintro e wy ⟨p, q, r, rfl, hun, hby⟩; replace hbe := hbe.trans (Joins.below_le hby hbe.size); have cL := lightest_any n p q r f n.cells.length wy hun HS.out hfl rfl; rw [HPE.out] at cL; unfold UnV at cL)
        | (go_at_call 54; refine cL.mono ?_; rintro e wz ⟨rfl, hbz⟩; replace hbe := hbe.trans (Joins.below_le hbz hbe.size)))
    obtain ⟨y0, y1, y2⟩ := HKEEP.out wz hbe
    have cHH := HHA.out wz hbe (by rw [← HP.out]; exact hpl)
    rw [← HP.out] at cHH
    have HBE := Lib.hid hbe
    clear cL hst hun hby hbz
    go_wp2_with fail
    refine cHH.mono ?_
    rintro e w5 ⟨va, vb, rfl, hna, hnb, hb5⟩
    obtain ⟨vac, vak, rfl, ca, ka⟩ := id hna
    obtain ⟨vbc, vbk, rfl, cb, kb⟩ := id hnb
    obtain ⟨Aac, cac, rfl, -, -⟩ := ca.slice
    obtain ⟨Aak, cak, rfl, -, -⟩ := ka.slice
    obtain ⟨Abc, cbc, rfl, -, -⟩ := cb.slice
    obtain ⟨Abk, cbk, rfl, -, -⟩ := kb.slice
    have hV := halved n hpl
    obtain ⟨a, ha⟩ : ∃ a, a = n.first P := ⟨_, rfl⟩
    obtain ⟨b, hb⟩ : ∃ b, b = n.second P := ⟨_, rfl⟩
    rw [← ha] at hna ca ka
    rw [← hb] at hnb cb kb
    rw [← ha, ← hb] at hV ⊢
    have HCUT2 : Hid (n.cut = (a, keyAt n.cells P, b)) := Lib.hid (by rw [HCUT.out, ha, hb])
    clear ha hb HCUT
    obtain ⟨w6, hw6⟩ : ∃ w6, w6 = (w5.alloc (.cells #[.bool a.leaf, .slice Aac a.cells.length cac, .slice Aak a.kids.length cak] 31)).alloc (.cells #[.bool b.leaf, .slice Abc b.cells.length cbc, .slice Abk b.kids.length cbk] 31) := ⟨_, rfl⟩
    have hb6 : Below w5.heap.size w5 w6 := by rw [hw6]; exact ((Below.refl _ _).alloc (Nat.le_refl _) _).alloc (by simp) _
    have hs6 : w6.heap.size = w5.heap.size + 2 := by rw [hw6]; simp
    have e1 : w6.heap[w5.heap.size]? = some (.cells #[.bool a.leaf, .slice Aac a.cells.length cac, .slice Aak a.kids.length cak] 31 (0, 0)) := by rw [hw6]; exact (heap_alloc_old _ _ (by simp)).trans (heap_alloc_new w5 _)
    have e2 : w6.heap[w5.heap.size + 1]? = some (.cells #[.bool b.leaf, .slice Abc b.cells.length cbc, .slice Abk b.kids.length cbk] 31 (0, 0)) := by
      rw [hw6]
      have := heap_alloc_new (w5.alloc (.cells #[.bool a.leaf, .slice Aac a.cells.length cac, .slice Aak a.kids.length cak] 31)) (.cells #[.bool b.leaf, .slice Abc b.cells.length cbc, .slice Abk b.kids.length cbk] 31)
      simpa using this
    have hb36 : Below w3.heap.size w3 w6 := HBE.out.trans (Joins.below_le (hb5.trans (Joins.below_le hb6 hb5.size)) HBE.out.size)
    obtain ⟨cP, hcP⟩ : ∃ c, n.cells[P]? = some c := ⟨_, List.getElem?_eq_getElem hpl⟩
    have hkey : keyAt n.cells P = cP.key := by unfold keyAt; rw [hcP]; rfl
    rw [hkey] at HCUT2
    have hb06 : Below w.heap.size w w6 := HBW.out.trans (Joins.below_le hb36 HBW.out.size)
    have hcW : CsN w6 (fun b => b < w.heap.size) (.slice Ac n.cells.length cc) n.cells := RowN.grow (RowN.mono (N' := fun b => b < w.heap.size) HC.out fun b _ hb => hb) hb06
    obtain ⟨bb, ob, n', k', hv', hbb, hbs, c0, -, -, -⟩ := hcW.cell hcP
    clear hcW
    injection hv' with i1 i2 i3
    subst i1 i2 i3
    obtain ⟨F, hF⟩ : ∃ F : Nat → Prop, F = fun b => b = w.heap.size + 1 ∨ b = w.heap.size + 2 := ⟨_, rfl⟩
    have hF1 : F (w.heap.size + 1) := by rw [hF]; exact .inl rfl
    have hF2 : F (w.heap.size + 2) := by rw [hF]; exact .inr rfl
    have hFo : ∀ b, F b → b = w.heap.size + 1 ∨ b = w.heap.size + 2 := fun b hb => by rw [hF] at hb; exact hb
    have hl35 : w.heap.size + 3 ≤ w5.heap.size := by have := HBE.out.size; have := hb5.size; have := HS3.out; omega
    have x16 := (HKEEP.out w6 hb36).2.1
    have hkeep6 : ∀ W, Kept w6 W F → W.cell? ⟨w5.heap.size, 0, none⟩ = some (.bool a.leaf) ∧ W.cell? ⟨w5.heap.size, 1, none⟩ = some (.slice Aac a.cells.length cac) ∧ W.cell? ⟨w5.heap.size, 2, none⟩ = some (.slice Aak a.kids.length cak) ∧ W.cell? ⟨w5.heap.size + 1, 0, none⟩ = some (.bool b.leaf) ∧ W.cell? ⟨w5.heap.size + 1, 1, none⟩ = some (.slice Abc b.cells.length cbc) ∧ W.cell? ⟨w5.heap.size + 1, 2, none⟩ = some (.slice Abk b.kids.length cbk) ∧ W.cell? ⟨w.heap.size, 1, none⟩ = some (.slice (some ⟨bb, ob, none⟩) n.cells.length cc) ∧ W.cell? ⟨bb, ob + P * 4, none⟩ = some (.string cP.key) := fun W hW => by
      have f1 := (hW.block w5.heap.size (by omega) (fun h => by rcases hFo _ h with h | h <;> omega)).trans e1
      have f2 := (hW.block (w5.heap.size + 1) (by omega) (fun h => by rcases hFo _ h with h | h <;> omega)).trans e2
      exact ⟨(row_cells f1).1 0, (row_cells f1).1 1, (row_cells f1).1 2, (row_cells f2).1 0, (row_cells f2).1 1, (row_cells f2).1 2, (hW.cell (p := ⟨w.heap.size, 1, none⟩) (by show w.heap.size < _; omega) (fun h => by rcases hFo _ h with h | h <;> simp at h)).trans x16, (hW.cell (p := ⟨bb, ob + P * 4, none⟩) hbs (fun h => by have h' : F bb := h; rcases hFo _ h' with h | h <;> omega)).trans c0⟩
    have hnk : ∀ (v : Value) (m : PN), NodeN w5 (fun b => b < w.heap.size) v m → ∀ W, Kept w6 W F → NodeN W Any v m := fun v m hm W hW => ((NodeN.grow hm hb6).kept (N' := fun b => b < w.heap.size) (fun b h _ => h) hW.size (fun b h hl => hW.block b hl (fun h' => by rcases hFo _ h' with h' | h' <;> omega))).any
    have hNA := hnk _ _ hna
    have hNB := hnk _ _ hnb
    have cpA := fun W hW => copiedN_any a _ W (hNA W hW) (by have := hV.da; omega) (by have := hV.ia; omega)
    have cpB := fun W hW => copiedN_any b _ W (hNB W hW) (by have := hV.db; omega) (by have := hV.ib; omega)
    have hy6 : w6.heap[w.heap.size + 1]? = some (.cells #[.bool false, .slice none 0 0, .slice none 0 0] 31 (0, 0)) := HY6.out w6 hb36
    have hz6 : w6.heap[w.heap.size + 2]? = some (.cells #[.bool false, .slice none 0 0, .slice none 0 0] 31 (0, 0)) := HZ6.out w6 hb36
    have hb06' : Below w.heap.size w w6 := HBW.out.trans (Joins.below_le hb36 HBW.out.size)
    have HK6 := Lib.hid hkeep6
    have CPA := Lib.hid cpA
    have CPB := Lib.hid cpB
    have HB06 := Lib.hid hb06'
    have HFO := Lib.hid hFo
    have HW6 := Lib.hid hw6
    have HY := Lib.hid hy6
    have HZ := Lib.hid hz6
    have HL := Lib.hid hl35
    have HS6 := Lib.hid hs6
    have j2 : (P : Int) < (n.cells.length : Int) := by omega
    have j3 : (0 : Int) ≤ (P : Int) := by omega
    have hst := hkeep6 w6.drew (Kept.drew _ _)
    have hbe : Kept w6 w6.drew F := Kept.drew _ _
    have hy : w6.drew.heap[w.heap.size + 1]? = some (.cells #[.bool false, .slice none 0 0, .slice none 0 0] 31 (0, 0)) := hy6
    have hz : w6.drew.heap[w.heap.size + 2]? = some (.cells #[.bool false, .slice none 0 0, .slice none 0 0] 31 (0, 0)) := hz6
    clear hkeep6 cpA cpB hb36 hw6 hNA hNB hnk hb06 hb06' c0 e1 e2 hb6 hna hnb ca ka cb kb hV hb5 hcP hkey y0 y1 y2 x16 hy6 hz6 hF hFo hl35 hs6 hbb hbs
    go_upto_region 6 with fail
    rw [← HW6.out]
    go_region_held3 (fun W => W.cell? ⟨w5.heap.size, 0, none⟩ = some (.bool a.leaf) ∧ W.cell? ⟨w5.heap.size, 1, none⟩ = some (.slice Aac a.cells.length cac) ∧ W.cell? ⟨w5.heap.size, 2, none⟩ = some (.slice Aak a.kids.length cak) ∧ W.cell? ⟨w5.heap.size + 1, 0, none⟩ = some (.bool b.leaf) ∧ W.cell? ⟨w5.heap.size + 1, 1, none⟩ = some (.slice Abc b.cells.length cbc) ∧ W.cell? ⟨w5.heap.size + 1, 2, none⟩ = some (.slice Abk b.kids.length cbk) ∧ W.cell? ⟨w.heap.size, 1, none⟩ = some (.slice (some ⟨bb, ob, none⟩) n.cells.length cc) ∧ W.cell? ⟨bb, ob + P * 4, none⟩ = some (.string cP.key)) (first | with_reducible exact hst | with_reducible exact HK6.out _ hbe | exact HK6.out _ (Kept.set3 hbe hF1) | exact HK6.out _ (Kept.set3 hbe hF2) | exact HK6.out _ (Kept.set3 (Kept.set3 hbe hF1) hF2))
      (first
        | (go_at_call 53; refine (CPA.out _ hbe).mono ?_; rintro e wa ⟨va, rfl, hoA, hba⟩; clear CPA; have hsa := hba.size; replace hy := (hba.block _ (by have := HL.out; have := HS6.out; have := hbe.size; omega)).trans hy; replace hz := (hba.block _ (by have := HL.out; have := HS6.out; have := hbe.size; omega)).trans hz; replace hoA := hoA.base hbe.size; replace hbe := Kept.after hba hbe; have hMA : NodeN wa (fun b => w6.heap.size ≤ b ∧ b < wa.heap.size) _ a := hoA.node.mono (fun b h hb => ⟨h, hb⟩); obtain ⟨A1, c1, A2, c2, rfl, oa1, oa2⟩ := id hoA; have y0 := (row_cells hy).1 0; have y1 := (row_cells hy).1 1; have y2 := (row_cells hy).1 2; have y3 := (row_cells hy).2 0; have y4 := (row_cells hy).2 1; have y5 := (row_cells hy).2 2; clear oa1 oa2)
        | (go_at_call 53; refine (CPB.out _ (by first | with_reducible exact hbe | exact Kept.set3 hbe hF1)).mono ?_; rintro e wb ⟨vb, rfl, hoB, hbb⟩; clear CPB; have hsb := hbb.size; have hwa6 := hbe.size; have hL6 := HL.out; have hS6 := HS6.out; have n12 : w.heap.size + 2 ≠ w.heap.size + 1 := (by omega); replace hoB := hoB.base (B' := wa.heap.size) (by first | with_reducible exact Nat.le_refl _ | (rw [set3_size]; exact Nat.le_refl _)); have hcs : wa.heap.size ≤ wb.heap.size := (by first | with_reducible exact hsb | (rw [set3_size] at hsb; exact hsb)); have hab : ∀ b, w6.heap.size ≤ b → b < wa.heap.size → wb.heap[b]? = wa.heap[b]? := (fun b h1 h2 => (hbb.block b (by first | with_reducible exact h2 | (rw [set3_size]; exact h2))).trans (by first | with_reducible rfl | exact set3_far (by omega))); have hq1 : w.heap.size + 2 < wa.heap.size := (by omega); have hq2 : w.heap.size + 1 < wa.heap.size := (by omega); have hzb := (hbb.block (w.heap.size + 2) (by first | with_reducible (exact hq1) | with_reducible (exact hq2) | (rw [set3_size]; omega))).trans (by first | with_reducible exact hz | exact (set3_far n12).trans hz); have hyb := (hbb.block (w.heap.size + 1) (by first | with_reducible (exact hq1) | with_reducible (exact hq2) | (rw [set3_size]; omega))).trans (by first | with_reducible exact hy | exact set3_at hy); replace hbe := Kept.after hbb (by first | with_reducible exact hbe | exact Kept.set3 hbe hF1); obtain ⟨A3, c3, A4, c4, rfl, -, -⟩ := id hoB; have z0 := (row_cells hzb).1 0; have z1 := (row_cells hzb).1 1; have z2 := (row_cells hzb).1 2; have z3 := (row_cells hzb).2 0; have z4 := (row_cells hzb).2 1; have z5 := (row_cells hzb).2 2; have u0 := (row_cells hyb).1 0; have u1 := (row_cells hyb).1 1; have u2 := (row_cells hyb).1 2; have u3 := (row_cells hyb).2 0; have u4 := (row_cells hyb).2 1; have u5 := (row_cells hyb).2 2))
    all_goals
      generalize hWf : World.setCell _ _ _ = Wf
      have hfar : ∀ b, w6.heap.size ≤ b → Wf.heap[b]? = wb.heap[b]? := fun b hb => by
        rw [← hWf]
        have n1 : b ≠ w.heap.size + 1 := by omega
        have n2 : b ≠ w.heap.size + 2 := by omega
        first
          | with_reducible exact (set3_far n2).trans (set3_far n1)
          | exact set3_far n2
      have e1 : Wf.heap[w.heap.size + 1]? = some (.cells #[.bool a.leaf, .slice A1 a.cells.length c1, .slice A2 a.kids.length c2] 31 (0, 0)) := by
        rw [← hWf]
        have n21 : w.heap.size + 1 ≠ w.heap.size + 2 := by omega
        first
          | with_reducible exact (set3_far n21).trans (set3_at hyb)
          | exact (set3_far n21).trans hyb
      have e2 : Wf.heap[w.heap.size + 2]? = some (.cells #[.bool b.leaf, .slice A3 b.cells.length c3, .slice A4 b.kids.length c4] 31 (0, 0)) := by
        rw [← hWf]
        have n12 : w.heap.size + 2 ≠ w.heap.size + 1 := by omega
        first
          | with_reducible exact set3_at ((set3_far n12).trans hzb)
          | exact set3_at hzb
      have hkf : Kept w6 Wf F := by
        rw [← hWf]
        first
          | with_reducible exact Kept.set3 (Kept.set3 hbe hF1) hF2
          | exact Kept.set3 hbe hF2
      have hsz : wb.heap.size = Wf.heap.size := by
        rw [← hWf]
        first
          | (rw [set3_size, set3_size])
          | (rw [set3_size])
      have hbf : Below w.heap.size w Wf := HB06.out.trans (hkf.below (by omega) (fun b hb => by rcases HFO.out b hb with h | h <;> omega))
      have hOA : OwnN Wf w.heap.size (.agg #[.bool a.leaf, .slice A1 a.cells.length c1, .slice A2 a.kids.length c2]) a := (hoA.same (fun b h1 h2 => (hfar b h1).trans (hab b h1 h2))).base (by omega)
      have hNA : ∀ b0 vc vk, (.agg #[.bool a.leaf, .slice A1 a.cells.length c1, .slice A2 a.kids.length c2] : Value) = .agg #[b0, vc, vk] → ∀ p, (vc.ownBlock = some p ∨ vk.ownBlock = some p) → p < wa.heap.size := fun b0 vc vk he p hp => (hoA.blocks he hp).2
      have hOB : OwnN Wf wa.heap.size (.agg #[.bool b.leaf, .slice A3 b.cells.length c3, .slice A4 b.kids.length c4]) b := hoB.same (fun b h1 _ => hfar b (by omega))
      have q0 : Wf.cell? ⟨w.heap.size + 1, 0, none⟩ = some (.bool a.leaf) := (row_cells e1).1 0
      have q1 : Wf.cell? ⟨w.heap.size + 1, 1, none⟩ = some (.slice A1 a.cells.length c1) := (row_cells e1).1 1
      have q2 : Wf.cell? ⟨w.heap.size + 1, 2, none⟩ = some (.slice A2 a.kids.length c2) := (row_cells e1).1 2
      have q3 : Wf.cell? ⟨w.heap.size + 2, 0, none⟩ = some (.bool b.leaf) := (row_cells e2).1 0
      have q4 : Wf.cell? ⟨w.heap.size + 2, 1, none⟩ = some (.slice A3 b.cells.length c3) := (row_cells e2).1 1
      have q5 : Wf.cell? ⟨w.heap.size + 2, 2, none⟩ = some (.slice A4 b.kids.length c4) := (row_cells e2).1 2
      have HOA := Lib.hid hOA
      have HNA := Lib.hid hNA
      have HOB := Lib.hid hOB
      have HBF := Lib.hid hbf
      have hM : w.heap.size ≤ wa.heap.size := by omega
      clear hWf hfar e1 e2 hkf hsz hbf hOA hNA hOB hoA hoB hMA hab hzb hyb hbe hst hy hz hbb hba z0 z1 z2 z3 z4 z5 u0 u1 u2 u3 u4 u5 y0 y1 y2 y3 y4 y5
      go_wp2_with fail
      refine bodyPost_ret (v := .tuple #[.agg #[.bool a.leaf, .slice A1 a.cells.length c1, .slice A2 a.kids.length c2], .string cP.key, .agg #[.bool b.leaf, .slice A3 b.cells.length c3, .slice A4 b.kids.length c4]]) (by rw [results_ctc rfl]; go_simp; try rfl) rfl ?_
      rw [HCUT2.out]
      exact ⟨_, _, wa.heap.size, rfl, ⟨HOA.out, HNA.out⟩, HOB.out, hM, HBF.out⟩
end Go.Proofs.Ytedcknlafkokkaa
