/-
  Where a key belongs, and a node in new memory, by the document's words: its Find, its Twin. No statement is proved here. No condition.
-/
import Derived.Test.YtedcknlafkokkaaNGiv
import Derived.Test.YtedcknlafkokkaaNJoin
namespace Go.Proofs.Ytedcknlafkokkaa
open Go.RowKit

set_option maxRecDepth 100000 in
theorem reffind_any (n : PN) (key : ByteArray) (v : Value) (w : World) (h : NodeN w Any v n) (hl : n.cells.length ≤ 1000000) :
    Calls Try.prog 23 #[v, .string key] w fun e w' => e = .returned (.tuple #[.int .i64 ((n.find key).1 : Int), .bool (n.find key).2]) ∧ Below w.heap.size w w' := by
  obtain ⟨vc, vk, rfl, hc, hk⟩ := h
  obtain ⟨Ac, cc, rfl, -, -⟩ := hc.slice
  obtain ⟨Ak, ck, rfl, hkl, hkm⟩ := hk.slice
  obtain ⟨w1, hw1⟩ : ∃ w1, w1 = w.alloc (.cells #[.bool n.leaf, .slice Ac n.cells.length cc, .slice Ak n.kids.length ck] 25) := ⟨_, rfl⟩
  have hb1 : Below w.heap.size w w1 := by rw [hw1]; exact (Below.refl _ _).alloc (Nat.le_refl _) _
  have hx1 : w1.heap[w.heap.size]? = some (.cells #[.bool n.leaf, .slice Ac n.cells.length cc, .slice Ak n.kids.length ck] 25 (0, 0)) := by rw [hw1]; exact heap_alloc_new w _
  have HC := Lib.hid (CsN.grow hc hb1)
  have x1 : w1.cell? ⟨w.heap.size, 1, none⟩ = some (.slice Ac n.cells.length cc) := (row_cells hx1).1 1
  have HB1 := Lib.hid hb1
  have HW1 := Lib.hid hw1
  obtain ⟨r, hr⟩ : ∃ r, r = n.find key := ⟨_, rfl⟩
  rw [← hr]
  have HR : Hid (r = findAt key (n.cells.drop 0) 0) := Lib.hid (by rw [hr, List.drop_zero]; rfl)
  clear hr hc hk hw1 hb1 hx1
  go_enter Try.func23, Try.ntmps23
  go_upto_region 1 with fail
  rw [← HW1.out]
  go_wp2_with fail
  go_loopw [6] (fun s6 wr => ∃ i : Nat, s6 = .int .i64 (i : Int) ∧ i ≤ n.cells.length ∧ Hid (r = findAt key (n.cells.drop i) i) ∧ wr = w1) (fun s6 _ => n.cells.length - (intOf s6).toNat)
  case atStart => exact ⟨0, rfl, Nat.zero_le _, HR, rfl⟩
  case round =>
    clear HR
    obtain ⟨i, rfl, hi, hr, rfl⟩ := hrel
    by_cases hil : i < n.cells.length
    · have a1 : (i : Int) < (n.cells.length : Int) := by omega
      have a0 : (0 : Int) ≤ (i : Int) := by omega
      obtain ⟨c, hci⟩ : ∃ c, n.cells[i]? = some c := ⟨_, List.getElem?_eq_getElem hil⟩
      obtain ⟨b, o, n', k', hv, -, hbs, c0, c1, c2, c3⟩ := HC.out.cell hci
      injection hv with e1 e2 e3
      subst e1 e2 e3
      have hr' := hr.out
      rw [findAt_step hci] at hr'
      cases hk : kLt c.key key with
      | false =>
        have hk2 : Op.bytesLess c.key.toList key.toList = false := hk
        rw [if_pos hk] at hr'
        have HR' := Lib.hid hr'
        clear hr' hr hk c1 c2 c3
        go_upto_region 5 with fail
        go_quiet (fail)
        go_wp2_with fail
        go_ret2
        exact ⟨by rw [HR'.out]; rfl, below_drewN HB1.out _⟩
      | true =>
        have hk2 : Op.bytesLess c.key.toList key.toList = true := hk
        rw [if_neg (by rw [hk]; simp)] at hr'
        have HR' := Lib.hid hr'
        clear hr' hr hk c1 c2 c3
        go_wp2_with fail
        exact ⟨⟨i + 1, by go_num, hil, HR', trivial⟩, by simp [intOf]; omega⟩
    · have a1 : ¬ (i : Int) < (n.cells.length : Int) := by omega
      have hie : i = n.cells.length := by omega
      have hr' := hr.out
      rw [List.drop_of_length_le (by omega)] at hr'
      have hr2 : r = (i, false) := hr'
      have HR' := Lib.hid hr2
      have HIE := Lib.hid hie
      clear hr' hr hr2 hie
      go_wp2_with fail
      go_ret2
      exact ⟨by rw [HR'.out, HIE.out]; rfl, HB1.out⟩
/-- append([]Cell{}, l...), wherever the empty row was laid -/
theorem app_rcells (W : World) (base g : Nat) (hown : W.ownsRow base 62 4 (.slice (some ⟨g, 0, none⟩) 0 0) 0 []) {v : Value} {l : List PC} (h : CsN W Any v l) (hl : l.length ≤ 1000000) (hbase : base ≤ W.heap.size) :
    ∃ A7 c7 w7, (Builtin.append_ #[22, 22] 22 #[.slice (some ⟨g, 0, none⟩) 0 0, v]).run Try.prog W = .ok (.slice A7 l.length c7) w7 ∧ w7.ownsRow base 62 4 (.slice A7 l.length c7) l.length (CsV l) ∧ W.grownBy w7 (some g) := by
  obtain ⟨iu, hiu, z0, z1, z2⟩ := info_parts info_RC
  obtain ⟨A7, c7, w7, hr, h2, h3, -⟩ := run_appAt (P := Try.prog) (w := W) base 22 22 62 iu _ 4 48 Try.underlying22 hiu z0 z1 z2 rfl (by decide) _ _ 0 _ hown l.length _ (RowN.at h) (CsV_one _) (by unfold maxLen; omega) (by omega) hbase
  rw [Nat.zero_add] at hr h2
  exact ⟨A7, c7, w7, hr, h2, h3⟩
set_option maxHeartbeats 8000000 in
set_option maxRecDepth 1000000 in
theorem twin_any (n : PN) (v : Value) (w : World) (h : NodeN w Any v n) (hl : n.cells.length ≤ 1000000) (hkl : n.kids.length ≤ 1000000) :
    Calls Try.prog 57 #[v] w fun e w' => ∃ v', e = .returned v' ∧ OwnT 62 w' w.heap.size v' n ∧ Below w.heap.size w w' := by
  obtain ⟨vc, vk, rfl, hc, hk⟩ := h
  obtain ⟨Ac, cc, rfl, -, -⟩ := hc.slice
  obtain ⟨Ak, ck, rfl, -, -⟩ := hk.slice
  obtain ⟨w1, hw1⟩ : ∃ w1, w1 = w.alloc (.cells #[.bool n.leaf, .slice Ac n.cells.length cc, .slice Ak n.kids.length ck] 25) := ⟨_, rfl⟩
  have hb1 : Below w.heap.size w w1 := by rw [hw1]; exact (Below.refl _ _).alloc (Nat.le_refl _) _
  have hs1 : w1.heap.size = w.heap.size + 1 := by rw [hw1]; simp
  have hx1 : w1.heap[w.heap.size]? = some (.cells #[.bool n.leaf, .slice Ac n.cells.length cc, .slice Ak n.kids.length ck] 25 (0, 0)) := by rw [hw1]; exact heap_alloc_new w _
  obtain ⟨w2, hw2⟩ : ∃ w2, w2 = w1.alloc (.cells #[.bool false, .slice none 0 0, .slice none 0 0] 25) := ⟨_, rfl⟩
  have hb2 : Below w1.heap.size w1 w2 := by rw [hw2]; exact (Below.refl _ _).alloc (Nat.le_refl _) _
  have hs2 : w2.heap.size = w.heap.size + 2 := by rw [hw2]; simp [hs1]
  have hy2 : w2.heap[w.heap.size + 1]? = some (.cells #[.bool false, .slice none 0 0, .slice none 0 0] 25 (0, 0)) := by rw [hw2, ← hs1]; exact heap_alloc_new w1 _
  have hx2 := (hb2.block w.heap.size (by omega)).trans hx1
  have hbw : Below w.heap.size w w2 := hb1.trans (Joins.below_le hb2 hb1.size)
  have hzn := zero_nodeR
  have hbS : ∀ W : World, W.heap[w.heap.size]? = w2.heap[w.heap.size]? → W.cell? ⟨w.heap.size, 0, none⟩ = some (.bool n.leaf) ∧ W.cell? ⟨w.heap.size, 1, none⟩ = some (.slice Ac n.cells.length cc) ∧ W.cell? ⟨w.heap.size, 2, none⟩ = some (.slice Ak n.kids.length ck) := fun W hW => by
    have e := hW.trans hx2
    exact ⟨(row_cells e).1 0, (row_cells e).1 1, (row_cells e).1 2⟩
  have hS : ∀ W, Below w2.heap.size w2 W → _ := fun W hW => hbS W (hW.block _ (by omega))
  have hR : ∀ W, Below w2.heap.size w2 W → (W.cell? ⟨w.heap.size + 1, 0, none⟩ = some (.bool false) ∧ W.cell? ⟨w.heap.size + 1, 1, none⟩ = some (.slice none 0 0) ∧ W.cell? ⟨w.heap.size + 1, 2, none⟩ = some (.slice none 0 0)) ∧ (W.frozen? ⟨w.heap.size + 1, 0, none⟩ = false ∧ W.frozen? ⟨w.heap.size + 1, 1, none⟩ = false ∧ W.frozen? ⟨w.heap.size + 1, 2, none⟩ = false) ∧ W.heap[w.heap.size + 1]? = some (.cells #[.bool false, .slice none 0 0, .slice none 0 0] 25 (0, 0)) := fun W hW => by
    have e := (hW.block (w.heap.size + 1) (by omega)).trans hy2
    exact ⟨⟨(row_cells e).1 0, (row_cells e).1 1, (row_cells e).1 2⟩, ⟨(row_cells e).2 0, (row_cells e).2 1, (row_cells e).2 2⟩, e⟩
  -- what is told
  have hT : ∀ (W : World) (A : Option Addr) (c : Nat) (A' : Option Addr) (c' : Nat), Below w2.heap.size w2 W → W.ownsRow w2.heap.size 62 4 (.slice A n.cells.length c) n.cells.length (CsV n.cells) → W.ownsRow w2.heap.size 3 1 (.slice A' n.kids.length c') n.kids.length (KsV n.kids) →
      (((W.setCell ⟨w.heap.size + 1, 0, none⟩ (.bool n.leaf)).setCell ⟨w.heap.size + 1, 1, none⟩ (.slice A n.cells.length c)).setCell ⟨w.heap.size + 1, 2, none⟩ (.slice A' n.kids.length c')).heap[w.heap.size + 1]? = some (.cells #[.bool n.leaf, .slice A n.cells.length c, .slice A' n.kids.length c'] 25 (0, 0)) ∧
      OwnT 62 (((W.setCell ⟨w.heap.size + 1, 0, none⟩ (.bool n.leaf)).setCell ⟨w.heap.size + 1, 1, none⟩ (.slice A n.cells.length c)).setCell ⟨w.heap.size + 1, 2, none⟩ (.slice A' n.kids.length c')) w.heap.size (.agg #[.bool n.leaf, .slice A n.cells.length c, .slice A' n.kids.length c']) n ∧
      Below w.heap.size w (((W.setCell ⟨w.heap.size + 1, 0, none⟩ (.bool n.leaf)).setCell ⟨w.heap.size + 1, 1, none⟩ (.slice A n.cells.length c)).setCell ⟨w.heap.size + 1, 2, none⟩ (.slice A' n.kids.length c')) ∧
      ((((W.setCell ⟨w.heap.size + 1, 0, none⟩ (.bool n.leaf)).setCell ⟨w.heap.size + 1, 1, none⟩ (.slice A n.cells.length c)).setCell ⟨w.heap.size + 1, 2, none⟩ (.slice A' n.kids.length c')).cell? ⟨w.heap.size, 0, none⟩ = some (.bool n.leaf) ∧ (((W.setCell ⟨w.heap.size + 1, 0, none⟩ (.bool n.leaf)).setCell ⟨w.heap.size + 1, 1, none⟩ (.slice A n.cells.length c)).setCell ⟨w.heap.size + 1, 2, none⟩ (.slice A' n.kids.length c')).cell? ⟨w.heap.size, 1, none⟩ = some (.slice Ac n.cells.length cc) ∧ (((W.setCell ⟨w.heap.size + 1, 0, none⟩ (.bool n.leaf)).setCell ⟨w.heap.size + 1, 1, none⟩ (.slice A n.cells.length c)).setCell ⟨w.heap.size + 1, 2, none⟩ (.slice A' n.kids.length c')).cell? ⟨w.heap.size, 2, none⟩ = some (.slice Ak n.kids.length ck)) := fun W A c A' c' hW ho1 ho2 => by
    have hbW := hbw.trans (Joins.below_le hW hbw.size)
    exact ⟨set3_at (hR W hW).2.2, ⟨A, c, A', c', rfl, own_base (row_same ho1 fun p hp => set3_far (by have := (ho1.lt p hp).1; omega)) (by omega), own_base (row_same ho2 fun p hp => set3_far (by have := (ho2.lt p hp).1; omega)) (by omega)⟩, ((hbW.setCell (p := ⟨w.heap.size + 1, 0, none⟩) (show w.heap.size ≤ w.heap.size + 1 by omega) _).setCell (p := ⟨w.heap.size + 1, 1, none⟩) (show w.heap.size ≤ w.heap.size + 1 by omega) _).setCell (p := ⟨w.heap.size + 1, 2, none⟩) (show w.heap.size ≤ w.heap.size + 1 by omega) _, hbS _ ((set3_far (by omega)).trans (hW.block _ (by omega)))⟩
  have k0 := hS (w2.drew) ((Below.refl _ _).drew)
  have k1 := hS ((w2.alloc (.cells #[] 62)).drew) (((Below.refl _ _).alloc (Nat.le_refl _) _).drew)
  have k2 := hS ((w2.alloc (.cells #[] 3)).drew) (((Below.refl _ _).alloc (Nat.le_refl _) _).drew)
  have hz1 : (w2.alloc (.cells #[] 62)).heap.size = w2.heap.size + 1 := by simp
  have hz2 : (w2.alloc (.cells #[] 3)).heap.size = w2.heap.size + 1 := by simp
  obtain ⟨P1, hP1⟩ : ∃ W, W = (w2.alloc (.cells #[] 62)).drew := ⟨_, rfl⟩
  have b1 : Below w2.heap.size w2 P1 := by rw [hP1]; exact ((Below.refl _ _).alloc (Nat.le_refl _) _).drew
  have u1 : P1.ownsRow w2.heap.size 62 4 (.slice (some ⟨w2.heap.size, 0, none⟩) 0 0) 0 [] := by rw [hP1]; exact (World.ownsRow_lit (base := w2.heap.size) w2 #[] 0 (Nat.le_refl _) (by unfold maxLen; omega) rfl)
  obtain ⟨A17, c17, w17, r1, o1, g1⟩ := app_rcells P1 w2.heap.size (w2.heap.size) u1 (hc.grow (hbw.trans (Joins.below_le b1 hbw.size))) hl b1.size
  have y1 : Below w2.heap.size w2 w17 := b1.grown g1 b1.size (fun p hp => by have h1 : w2.heap.size = p := Option.some.inj hp; omega)
  have m1 := hS _ y1
  have s1 := hS _ b1
  have hb17 : Below w17.heap.size w17 (w17.alloc (.cells #[] 3)) := (Below.refl _ _).alloc (Nat.le_refl _) _
  have y1a := y1.trans (Joins.below_le hb17 y1.size)
  have n1 := hS _ y1a
  obtain ⟨A18, c18, w18, q1, p1, gk1⟩ := app_kids (w17.alloc (.cells #[] 3)) w2.heap.size w17.heap.size (World.ownsRow_lit (base := w2.heap.size) w17 #[] 0 y1.size (by unfold maxLen; omega) rfl) (hk.grow (hbw.trans (Joins.below_le y1a hbw.size))) hkl y1a.size
  have z1 : Below w2.heap.size w2 w18 := y1a.grown gk1 y1a.size (fun p hp => by have h1 : w17.heap.size = p := Option.some.inj hp; have := y1.size; omega)
  have o1' := row_same o1 (w' := w18) fun p hp => (gk1.block p (by have := (o1.lt p hp).2; have := hb17.size; omega) (fun e => by have h1 : p = w17.heap.size := Option.some.inj e; have := (o1.lt p hp).2; omega)).trans (hb17.block p (o1.lt p hp).2)
  have x1 := hS _ z1
  obtain ⟨⟨f10, f11, f12⟩, ⟨f13, f14, f15⟩, -⟩ := hR _ z1
  obtain ⟨E11, E12, E13, j1⟩ := hT w18 A17 c17 A18 c18 z1 o1' p1
  obtain ⟨P2, hP2⟩ : ∃ W, W = ((w2.alloc (.cells #[] 62)).alloc (.cells #[] 3)).drew := ⟨_, rfl⟩
  have b2 : Below w2.heap.size w2 P2 := by rw [hP2]; exact (((Below.refl _ _).alloc (Nat.le_refl _) _).alloc (by simp) _).drew
  have u2 : P2.ownsRow w2.heap.size 62 4 (.slice (some ⟨w2.heap.size, 0, none⟩) 0 0) 0 [] := by rw [hP2]; exact (World.ownsRow.alloc (World.ownsRow_lit (base := w2.heap.size) w2 #[] 0 (Nat.le_refl _) (by unfold maxLen; omega) rfl) _)
  obtain ⟨A27, c27, w27, r2, o2, g2⟩ := app_rcells P2 w2.heap.size (w2.heap.size) u2 (hc.grow (hbw.trans (Joins.below_le b2 hbw.size))) hl b2.size
  have y2 : Below w2.heap.size w2 w27 := b2.grown g2 b2.size (fun p hp => by have h1 : w2.heap.size = p := Option.some.inj hp; omega)
  have m2 := hS _ y2
  have s2 := hS _ b2
  have uk2 : P2.ownsRow w2.heap.size 3 1 (.slice (some ⟨w2.heap.size + 1, 0, none⟩) 0 0) 0 [] := by rw [hP2]; exact (by have h := World.ownsRow_lit (e := 3) (size := 1) (base := w2.heap.size) (w2.alloc (.cells #[] 62)) #[] 0 (by simp) (by unfold maxLen; omega) rfl; rw [hz1] at h; exact h)
  have uk2' := row_same uk2 (w' := w27) fun p hp => g2.block p (uk2.lt p hp).2 (fun e => by have h1 : p = w2.heap.size := Option.some.inj e; have h2 : (w2.heap.size + 1) = p := Option.some.inj hp; omega)
  obtain ⟨A28, c28, w28, q2, p2, gk2⟩ := app_kids w27 w2.heap.size (w2.heap.size + 1) uk2' (hk.grow (hbw.trans (Joins.below_le y2 hbw.size))) hkl y2.size
  have z2 : Below w2.heap.size w2 w28 := y2.grown gk2 y2.size (fun p hp => by have h1 : (w2.heap.size + 1) = p := Option.some.inj hp; omega)
  have o2' := row_same o2 (w' := w28) fun p hp => gk2.block p (o2.lt p hp).2 (fun e => rows_apart o2 uk2' (by decide) hp (by rw [show p = (w2.heap.size + 1) from Option.some.inj e]; rfl) rfl)
  have x2 := hS _ z2
  obtain ⟨⟨f20, f21, f22⟩, ⟨f23, f24, f25⟩, -⟩ := hR _ z2
  obtain ⟨E21, E22, E23, j2⟩ := hT w28 A27 c27 A28 c28 z2 o2' p2
  obtain ⟨P3, hP3⟩ : ∃ W, W = ((w2.alloc (.cells #[] 3)).alloc (.cells #[] 62)).drew := ⟨_, rfl⟩
  have b3 : Below w2.heap.size w2 P3 := by rw [hP3]; exact (((Below.refl _ _).alloc (Nat.le_refl _) _).alloc (by simp) _).drew
  have u3 : P3.ownsRow w2.heap.size 62 4 (.slice (some ⟨w2.heap.size + 1, 0, none⟩) 0 0) 0 [] := by rw [hP3]; exact (by have h := World.ownsRow_lit (e := 62) (size := 4) (base := w2.heap.size) (w2.alloc (.cells #[] 3)) #[] 0 (by simp) (by unfold maxLen; omega) rfl; rw [hz2] at h; exact h)
  obtain ⟨A37, c37, w37, r3, o3, g3⟩ := app_rcells P3 w2.heap.size (w2.heap.size + 1) u3 (hc.grow (hbw.trans (Joins.below_le b3 hbw.size))) hl b3.size
  have y3 : Below w2.heap.size w2 w37 := b3.grown g3 b3.size (fun p hp => by have h1 : w2.heap.size + 1 = p := Option.some.inj hp; omega)
  have m3 := hS _ y3
  have s3 := hS _ b3
  have uk3 : P3.ownsRow w2.heap.size 3 1 (.slice (some ⟨w2.heap.size, 0, none⟩) 0 0) 0 [] := by rw [hP3]; exact (World.ownsRow.alloc (World.ownsRow_lit (base := w2.heap.size) w2 #[] 0 (Nat.le_refl _) (by unfold maxLen; omega) rfl) _)
  have uk3' := row_same uk3 (w' := w37) fun p hp => g3.block p (uk3.lt p hp).2 (fun e => by have h1 : p = w2.heap.size + 1 := Option.some.inj e; have h2 : (w2.heap.size) = p := Option.some.inj hp; omega)
  obtain ⟨A38, c38, w38, q3, p3, gk3⟩ := app_kids w37 w2.heap.size (w2.heap.size) uk3' (hk.grow (hbw.trans (Joins.below_le y3 hbw.size))) hkl y3.size
  have z3 : Below w2.heap.size w2 w38 := y3.grown gk3 y3.size (fun p hp => by have h1 : (w2.heap.size) = p := Option.some.inj hp; omega)
  have o3' := row_same o3 (w' := w38) fun p hp => gk3.block p (o3.lt p hp).2 (fun e => rows_apart o3 uk3' (by decide) hp (by rw [show p = (w2.heap.size) from Option.some.inj e]; rfl) rfl)
  have x3 := hS _ z3
  obtain ⟨⟨f30, f31, f32⟩, ⟨f33, f34, f35⟩, -⟩ := hR _ z3
  obtain ⟨E31, E32, E33, j3⟩ := hT w38 A37 c37 A38 c38 z3 o3' p3
  rw [hP1] at r1 s1
  rw [hP2] at r2 s2
  rw [hP3] at r3 s3
  have R1 := Lib.hid r1
  have Q1 := Lib.hid q1
  have H11 := Lib.hid E11
  have H12 := Lib.hid E12
  have H13 := Lib.hid E13
  have R2 := Lib.hid r2
  have Q2 := Lib.hid q2
  have H21 := Lib.hid E21
  have H22 := Lib.hid E22
  have H23 := Lib.hid E23
  have R3 := Lib.hid r3
  have Q3 := Lib.hid q3
  have H31 := Lib.hid E31
  have H32 := Lib.hid E32
  have H33 := Lib.hid E33
  have HW1 := Lib.hid hw1
  have HW2 := Lib.hid hw2
  clear hS hbS hR hT hc hk hw1 hw2 hb1 hs1 hx1 hb2 hs2 hy2 hx2 hbw b1 u1 r1 o1 g1 y1 hP1 q1 p1 gk1 z1 b2 u2 r2 o2 g2 y2 hP2 q2 p2 gk2 z2 b3 u3 r3 o3 g3 y3 hP3 q3 p3 gk3 z3 o1' o2' o3' E11 E12 E13 E21 E22 E23 E31 E32 E33 uk2 uk3 uk2' uk3' hb17 y1a hz1 hz2
  go_enter Try.func57, Try.ntmps57
  go_upto_region 1 with fail
  rw [← HW1.out, ← HW2.out]
  go_region_held3 (fun W => W.cell? ⟨w.heap.size, 0, none⟩ = some (.bool n.leaf) ∧ W.cell? ⟨w.heap.size, 1, none⟩ = some (.slice Ac n.cells.length cc) ∧ W.cell? ⟨w.heap.size, 2, none⟩ = some (.slice Ak n.kids.length ck)) (first | with_reducible exact k0 | with_reducible exact k1 | with_reducible exact k2 | with_reducible exact s1 | with_reducible exact s2 | with_reducible exact s3 | with_reducible exact m1 | with_reducible exact m2 | with_reducible exact m3 | with_reducible exact n1 | with_reducible exact x1 | with_reducible exact x2 | with_reducible exact x3 | with_reducible exact j1 | with_reducible exact j2 | with_reducible exact j3)
    (first
      | (refine stepApp rfl (.tmp 5) (.tmp 7) 22 rfl (.slice (some ⟨w2.heap.size, 0, none⟩) 0 0) (.slice Ac n.cells.length cc) rfl rfl (by with_reducible exact R1.out) ?_)
      | (refine stepApp rfl (.tmp 5) (.tmp 7) 22 rfl (.slice (some ⟨w2.heap.size, 0, none⟩) 0 0) (.slice Ac n.cells.length cc) rfl rfl (by with_reducible exact R2.out) ?_)
      | (refine stepApp rfl (.tmp 5) (.tmp 7) 22 rfl (.slice (some ⟨w2.heap.size + 1, 0, none⟩) 0 0) (.slice Ac n.cells.length cc) rfl rfl (by with_reducible exact R3.out) ?_)
      | (refine stepApp rfl (.tmp 9) (.tmp 11) 23 rfl (.slice (some ⟨w17.heap.size, 0, none⟩) 0 0) (.slice Ak n.kids.length ck) rfl rfl (by with_reducible exact Q1.out) ?_)
      | (refine stepApp rfl (.tmp 9) (.tmp 11) 23 rfl (.slice (some ⟨w2.heap.size + 1, 0, none⟩) 0 0) (.slice Ak n.kids.length ck) rfl rfl (by with_reducible exact Q2.out) ?_)
      | (refine stepApp rfl (.tmp 9) (.tmp 11) 23 rfl (.slice (some ⟨w2.heap.size, 0, none⟩) 0 0) (.slice Ak n.kids.length ck) rfl rfl (by with_reducible exact Q3.out) ?_))
  all_goals
    (first
      | (obtain ⟨wf, hwf⟩ : ∃ wf, wf = ((w18.setCell ⟨w.heap.size + 1, 0, none⟩ (.bool n.leaf)).setCell ⟨w.heap.size + 1, 1, none⟩ (.slice A17 n.cells.length c17)).setCell ⟨w.heap.size + 1, 2, none⟩ (.slice A18 n.kids.length c18) := ⟨_, rfl⟩
         rw [← hwf]
         have e1 := H11.out
         rw [← hwf] at e1 H12 H13
         have r0 : wf.cell? ⟨w.heap.size + 1, 0, none⟩ = some (.bool n.leaf) := (row_cells e1).1 0
         have r1 : wf.cell? ⟨w.heap.size + 1, 1, none⟩ = some (.slice A17 n.cells.length c17) := (row_cells e1).1 1
         have r2 : wf.cell? ⟨w.heap.size + 1, 2, none⟩ = some (.slice A18 n.kids.length c18) := (row_cells e1).1 2
         clear e1 hwf
         go_wp2_with fail
         refine bodyPost_ret (v := .agg #[.bool n.leaf, .slice A17 n.cells.length c17, .slice A18 n.kids.length c18]) (by rw [results_c rfl]; go_simp; try rfl) rfl ?_
         exact ⟨_, rfl, H12.out, H13.out⟩)
      | (obtain ⟨wf, hwf⟩ : ∃ wf, wf = ((w28.setCell ⟨w.heap.size + 1, 0, none⟩ (.bool n.leaf)).setCell ⟨w.heap.size + 1, 1, none⟩ (.slice A27 n.cells.length c27)).setCell ⟨w.heap.size + 1, 2, none⟩ (.slice A28 n.kids.length c28) := ⟨_, rfl⟩
         rw [← hwf]
         have e1 := H21.out
         rw [← hwf] at e1 H22 H23
         have r0 : wf.cell? ⟨w.heap.size + 1, 0, none⟩ = some (.bool n.leaf) := (row_cells e1).1 0
         have r1 : wf.cell? ⟨w.heap.size + 1, 1, none⟩ = some (.slice A27 n.cells.length c27) := (row_cells e1).1 1
         have r2 : wf.cell? ⟨w.heap.size + 1, 2, none⟩ = some (.slice A28 n.kids.length c28) := (row_cells e1).1 2
         clear e1 hwf
         go_wp2_with fail
         refine bodyPost_ret (v := .agg #[.bool n.leaf, .slice A27 n.cells.length c27, .slice A28 n.kids.length c28]) (by rw [results_c rfl]; go_simp; try rfl) rfl ?_
         exact ⟨_, rfl, H22.out, H23.out⟩)
      | (obtain ⟨wf, hwf⟩ : ∃ wf, wf = ((w38.setCell ⟨w.heap.size + 1, 0, none⟩ (.bool n.leaf)).setCell ⟨w.heap.size + 1, 1, none⟩ (.slice A37 n.cells.length c37)).setCell ⟨w.heap.size + 1, 2, none⟩ (.slice A38 n.kids.length c38) := ⟨_, rfl⟩
         rw [← hwf]
         have e1 := H31.out
         rw [← hwf] at e1 H32 H33
         have r0 : wf.cell? ⟨w.heap.size + 1, 0, none⟩ = some (.bool n.leaf) := (row_cells e1).1 0
         have r1 : wf.cell? ⟨w.heap.size + 1, 1, none⟩ = some (.slice A37 n.cells.length c37) := (row_cells e1).1 1
         have r2 : wf.cell? ⟨w.heap.size + 1, 2, none⟩ = some (.slice A38 n.kids.length c38) := (row_cells e1).1 2
         clear e1 hwf
         go_wp2_with fail
         refine bodyPost_ret (v := .agg #[.bool n.leaf, .slice A37 n.cells.length c37, .slice A38 n.kids.length c38]) (by rw [results_c rfl]; go_simp; try rfl) rfl ?_
         exact ⟨_, rfl, H32.out, H33.out⟩))
end Go.Proofs.Ytedcknlafkokkaa
