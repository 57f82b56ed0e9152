/-
  Lists held against each other. No statement is proved here. No condition.
-/
import Derived.Test.YtblbcoknefgcaaaMEq
import Derived.BigQuiet
namespace Go.Proofs.Ytblbcoknefgcaaa
open Go.RowKit

theorem drewN_below (w0 w : World) (n : Nat) (B : Nat) (h : Below B w0 w) : Below B w0 (w.drewN n) := h.trans ⟨rfl, rfl, rfl, Nat.le_refl _, fun _ _ => rfl⟩
theorem idx_sum {a b : Nat} : ((a : Int) + (b : Int)) = ((a + b : Nat) : Int) := by push_cast; rfl
set_option maxHeartbeats 4000000 in
set_option maxRecDepth 100000 in
theorem equalI_any (l m : List Int) (a b : Value) (w : World) (ha : inR.N w Any a l) (hb : inR.N w Any b m) :
    Calls Try.prog 63 #[a, b] w fun e w' => e = .returned (.bool (sameL iSame l m)) ∧ Below w.heap.size w w' := by
  obtain ⟨A, c, rfl, hlc, hcm⟩ := ha.slice
  obtain ⟨A2, c2, rfl, hlc2, hcm2⟩ := hb.slice
  have hl : l.length ≤ maxLen := Nat.le_trans hlc hcm
  unfold maxLen at hl
  have HA := Lib.hid ha
  have HB := Lib.hid hb
  have HB0 : Hid (Below w.heap.size w w) := Lib.hid (Below.refl _ _)
  by_cases hlen : l.length = m.length
  case neg =>
    have hr : sameL iSame l m = false := sameL_len hlen
    have n1 : ((l.length : Int) == (m.length : Int)) = false := by rw [beq_eq_false_iff_ne]; omega
    have n2 : ¬ (l.length : Int) = (m.length : Int) := by omega
    have HR := Lib.hid hr
    clear ha hb hlc hcm hlc2 hcm2 hlen hr
    go_enter Try.func63, Try.ntmps63
    go_wp2_with fail
    go_ret
    exact ⟨by rw [HR.out]; rfl, HB0.out⟩
  have HLN := Lib.hid hlen
  have HS0 : Hid (∀ (j : Nat) (x y : Int), j < 0 → l[j]? = some x → m[j]? = some y → iSame x y = true) := Lib.hid fun j x y hj => by omega
  rw [← hlen] at HB ⊢
  clear ha hb hlc hcm hlc2 hcm2
  go_enter Try.func63, Try.ntmps63
  clear hlen
  go_wp2_with fail
  go_loopw [5, 13] (fun s5 s13 wr => ∃ i : Nat, s13 = .int .i64 (i : Int) ∧ i ≤ l.length ∧ Hid (Below w.heap.size w wr) ∧ Hid (∀ (j : Nat) (x y : Int), j < i → l[j]? = some x → m[j]? = some y → iSame x y = true)) (fun _ s13 _ => l.length - (intOf s13).toNat)
  case atStart => exact ⟨0, rfl, Nat.zero_le _, HB0, HS0⟩
  case round =>
    clear HB0 HS0
    obtain ⟨i, rfl, hi, hbl, hsf⟩ := hrel
    obtain ⟨wz, hwz⟩ : ∃ wz : World, wz = wr := ⟨_, rfl⟩
    subst hwz
    by_cases hil : i < l.length
    · have a1 : (i : Int) < (l.length : Int) := by omega
      have a0 : (0 : Int) ≤ (i : Int) := by omega
      obtain ⟨x, hx⟩ : ∃ x, l[i]? = some x := ⟨_, List.getElem?_eq_getElem hil⟩
      obtain ⟨y, hy⟩ : ∃ y, m[i]? = some y := ⟨_, List.getElem?_eq_getElem (by rw [← HLN.out]; exact hil)⟩
      obtain ⟨g1, o1, n1, k1, hv, -, hg1, hc1⟩ := (HA.out.grow hbl.out).cell hx
      injection hv with v1 _ v3
      subst v1 v3
      obtain ⟨g2, o2, n2, k2, hv, -, hg2, hc2⟩ := (HB.out.grow hbl.out).cell hy
      injection hv with v1 _ v3
      subst v1 v3
      have y0 : wz.cell? ⟨g1, o1 + i, none⟩ = some (.int .i64 x) := by simpa [inR] using hc1 0 _ rfl
      have z0 : wz.cell? ⟨g2, o2 + i, none⟩ = some (.int .i64 y) := by simpa [inR] using hc2 0 _ rfl
      have HXY := Lib.hid (And.intro hx hy)
      clear hc1 hc2 hx hy hg1 hg2
      cases hs : iSame x y
      · have q1 : (x == y) = false := hs
        have q2 : ¬ x = y := by simpa using q1
        go_upto_region 6 with fail
        go_quiet (fail)
        have HBQ : Hid (Below w.heap.size w (wz.drewN nq)) := Lib.hid (drewN_below _ _ _ _ hbl.out)
        have hr : sameL iSame l m = false := sameL_at HXY.out.1 HXY.out.2 hs
        have HR := Lib.hid hr
        clear hr hs
        go_wp2_with fail
        go_ret
        exact ⟨by rw [HR.out]; rfl, HBQ.out⟩
      · have q1 : (x == y) = true := hs
        have q2 : x = y := by simpa using q1
        have hsf2 : ∀ (j : Nat) (x y : Int), j < i + 1 → l[j]? = some x → m[j]? = some y → iSame x y = true := fun j x' y' hj h1 h2 => by
          by_cases hji : j = i
          · subst hji
            have e1 : some x' = some x := h1.symm.trans HXY.out.1
            have e2 : some y' = some y := h2.symm.trans HXY.out.2
            injection e1 with e1
            injection e2 with e2
            rw [e1, e2]
            exact hs
          · exact hsf.out j x' y' (by omega) h1 h2
        have HSF2 := Lib.hid hsf2
        go_upto_region 6 with fail
        go_quiet (fail)
        have HBQ : Hid (Below w.heap.size w (wz.drewN nq)) := Lib.hid (drewN_below _ _ _ _ hbl.out)
        clear hs hsf2
        go_wp2_with fail
        exact ⟨⟨i + 1, by go_num, by omega, HBQ, HSF2⟩, by simp [intOf]; omega⟩
    · have a1 : ¬ (i : Int) < (l.length : Int) := by omega
      have hr : sameL iSame l m = true := sameL_all HLN.out fun j x y hx hy => hsf.out j x y (by have := (List.getElem?_eq_some_iff.1 hx).1; omega) hx hy
      have HR := Lib.hid hr
      clear hr
      go_wp2_with fail
      go_ret
      exact ⟨by rw [HR.out]; rfl, hbl.out⟩
set_option maxHeartbeats 4000000 in
set_option maxRecDepth 100000 in
theorem equalP_any (l m : List PP) (a b : Value) (w : World) (ha : pairR.N w Any a l) (hb : pairR.N w Any b m) :
    Calls Try.prog 64 #[a, b] w fun e w' => e = .returned (.bool (sameL PP.same l m)) ∧ Below w.heap.size w w' := by
  obtain ⟨A, c, rfl, hlc, hcm⟩ := ha.slice
  obtain ⟨A2, c2, rfl, hlc2, hcm2⟩ := hb.slice
  have hl : l.length ≤ maxLen := Nat.le_trans hlc hcm
  unfold maxLen at hl
  have HA := Lib.hid ha
  have HB := Lib.hid hb
  have HB0 : Hid (Below w.heap.size w w) := Lib.hid (Below.refl _ _)
  by_cases hlen : l.length = m.length
  case neg =>
    have hr : sameL PP.same l m = false := sameL_len hlen
    have n1 : ((l.length : Int) == (m.length : Int)) = false := by rw [beq_eq_false_iff_ne]; omega
    have n2 : ¬ (l.length : Int) = (m.length : Int) := by omega
    have HR := Lib.hid hr
    clear ha hb hlc hcm hlc2 hcm2 hlen hr
    go_enter Try.func64, Try.ntmps64
    go_wp2_with fail
    go_ret
    exact ⟨by rw [HR.out]; rfl, HB0.out⟩
  have HLN := Lib.hid hlen
  have HS0 : Hid (∀ (j : Nat) (x y : PP), j < 0 → l[j]? = some x → m[j]? = some y → PP.same x y = true) := Lib.hid fun j x y hj => by omega
  rw [← hlen] at HB ⊢
  clear ha hb hlc hcm hlc2 hcm2
  go_enter Try.func64, Try.ntmps64
  clear hlen
  go_wp2_with fail
  go_loopw [5, 13] (fun s5 s13 wr => ∃ i : Nat, s13 = .int .i64 (i : Int) ∧ i ≤ l.length ∧ Hid (Below w.heap.size w wr) ∧ Hid (∀ (j : Nat) (x y : PP), j < i → l[j]? = some x → m[j]? = some y → PP.same x y = true)) (fun _ s13 _ => l.length - (intOf s13).toNat)
  case atStart => exact ⟨0, rfl, Nat.zero_le _, HB0, HS0⟩
  case round =>
    clear HB0 HS0
    obtain ⟨i, rfl, hi, hbl, hsf⟩ := hrel
    obtain ⟨wz, hwz⟩ : ∃ wz : World, wz = wr := ⟨_, rfl⟩
    subst hwz
    by_cases hil : i < l.length
    · have a1 : (i : Int) < (l.length : Int) := by omega
      have a0 : (0 : Int) ≤ (i : Int) := by omega
      obtain ⟨x, hx⟩ : ∃ x, l[i]? = some x := ⟨_, List.getElem?_eq_getElem hil⟩
      obtain ⟨y, hy⟩ : ∃ y, m[i]? = some y := ⟨_, List.getElem?_eq_getElem (by rw [← HLN.out]; exact hil)⟩
      obtain ⟨g1, o1, n1, k1, hv, -, hg1, hc1⟩ := (HA.out.grow hbl.out).cell hx
      injection hv with v1 _ v3
      subst v1 v3
      obtain ⟨g2, o2, n2, k2, hv, -, hg2, hc2⟩ := (HB.out.grow hbl.out).cell hy
      injection hv with v1 _ v3
      subst v1 v3
      obtain ⟨y0, y1⟩ : wz.cell? ⟨g1, o1 + i * 2, none⟩ = some (.string x.key) ∧ wz.cell? ⟨g1, o1 + i * 2 + 1, none⟩ = some (.string x.val) := ⟨hc1 0 _ rfl, hc1 1 _ rfl⟩
      obtain ⟨z0, z1⟩ : wz.cell? ⟨g2, o2 + i * 2, none⟩ = some (.string y.key) ∧ wz.cell? ⟨g2, o2 + i * 2 + 1, none⟩ = some (.string y.val) := ⟨hc2 0 _ rfl, hc2 1 _ rfl⟩
      have heq := fun W => eq_pp x y W
      have HXY := Lib.hid (And.intro hx hy)
      clear hc1 hc2 hx hy hg1 hg2
      cases hs : x.same y
      · rw [hs] at heq
        go_upto_region 6 with fail
        go_quiet (fail)
        have HBQ : Hid (Below w.heap.size w (wz.drewN nq)) := Lib.hid (drewN_below _ _ _ _ hbl.out)
        have hr : sameL PP.same l m = false := sameL_at HXY.out.1 HXY.out.2 hs
        have HR := Lib.hid hr
        clear hr hs
        go_wp2_with fail
        go_ret
        exact ⟨by rw [HR.out]; rfl, HBQ.out⟩
      · rw [hs] at heq
        have hsf2 : ∀ (j : Nat) (x y : PP), j < i + 1 → l[j]? = some x → m[j]? = some y → PP.same x y = true := fun j x' y' hj h1 h2 => by
          by_cases hji : j = i
          · subst hji
            have e1 : some x' = some x := h1.symm.trans HXY.out.1
            have e2 : some y' = some y := h2.symm.trans HXY.out.2
            injection e1 with e1
            injection e2 with e2
            rw [e1, e2]
            exact hs
          · exact hsf.out j x' y' (by omega) h1 h2
        have HSF2 := Lib.hid hsf2
        go_upto_region 6 with fail
        go_quiet (fail)
        have HBQ : Hid (Below w.heap.size w (wz.drewN nq)) := Lib.hid (drewN_below _ _ _ _ hbl.out)
        clear hs hsf2
        go_wp2_with fail
        exact ⟨⟨i + 1, by go_num, by omega, HBQ, HSF2⟩, by simp [intOf]; omega⟩
    · have a1 : ¬ (i : Int) < (l.length : Int) := by omega
      have hr : sameL PP.same l m = true := sameL_all HLN.out fun j x y hx hy => hsf.out j x y (by have := (List.getElem?_eq_some_iff.1 hx).1; omega) hx hy
      have HR := Lib.hid hr
      clear hr
      go_wp2_with fail
      go_ret
      exact ⟨by rw [HR.out]; rfl, hbl.out⟩
set_option maxHeartbeats 4000000 in
set_option maxRecDepth 100000 in
theorem equalL_any (l m : List PL) (a b : Value) (w : World) (ha : lastR.N w Any a l) (hb : lastR.N w Any b m) :
    Calls Try.prog 65 #[a, b] w fun e w' => e = .returned (.bool (sameL PL.same l m)) ∧ Below w.heap.size w w' := by
  obtain ⟨A, c, rfl, hlc, hcm⟩ := ha.slice
  obtain ⟨A2, c2, rfl, hlc2, hcm2⟩ := hb.slice
  have hl : l.length ≤ maxLen := Nat.le_trans hlc hcm
  unfold maxLen at hl
  have HA := Lib.hid ha
  have HB := Lib.hid hb
  have HB0 : Hid (Below w.heap.size w w) := Lib.hid (Below.refl _ _)
  by_cases hlen : l.length = m.length
  case neg =>
    have hr : sameL PL.same l m = false := sameL_len hlen
    have n1 : ((l.length : Int) == (m.length : Int)) = false := by rw [beq_eq_false_iff_ne]; omega
    have n2 : ¬ (l.length : Int) = (m.length : Int) := by omega
    have HR := Lib.hid hr
    clear ha hb hlc hcm hlc2 hcm2 hlen hr
    go_enter Try.func65, Try.ntmps65
    go_wp2_with fail
    go_ret
    exact ⟨by rw [HR.out]; rfl, HB0.out⟩
  have HLN := Lib.hid hlen
  have HS0 : Hid (∀ (j : Nat) (x y : PL), j < 0 → l[j]? = some x → m[j]? = some y → PL.same x y = true) := Lib.hid fun j x y hj => by omega
  rw [← hlen] at HB ⊢
  clear ha hb hlc hcm hlc2 hcm2
  go_enter Try.func65, Try.ntmps65
  clear hlen
  go_wp2_with fail
  go_loopw [5, 13] (fun s5 s13 wr => ∃ i : Nat, s13 = .int .i64 (i : Int) ∧ i ≤ l.length ∧ Hid (Below w.heap.size w wr) ∧ Hid (∀ (j : Nat) (x y : PL), j < i → l[j]? = some x → m[j]? = some y → PL.same x y = true)) (fun _ s13 _ => l.length - (intOf s13).toNat)
  case atStart => exact ⟨0, rfl, Nat.zero_le _, HB0, HS0⟩
  case round =>
    clear HB0 HS0
    obtain ⟨i, rfl, hi, hbl, hsf⟩ := hrel
    obtain ⟨wz, hwz⟩ : ∃ wz : World, wz = wr := ⟨_, rfl⟩
    subst hwz
    by_cases hil : i < l.length
    · have a1 : (i : Int) < (l.length : Int) := by omega
      have a0 : (0 : Int) ≤ (i : Int) := by omega
      obtain ⟨x, hx⟩ : ∃ x, l[i]? = some x := ⟨_, List.getElem?_eq_getElem hil⟩
      obtain ⟨y, hy⟩ : ∃ y, m[i]? = some y := ⟨_, List.getElem?_eq_getElem (by rw [← HLN.out]; exact hil)⟩
      obtain ⟨g1, o1, n1, k1, hv, -, hg1, hc1⟩ := (HA.out.grow hbl.out).cell hx
      injection hv with v1 _ v3
      subst v1 v3
      obtain ⟨g2, o2, n2, k2, hv, -, hg2, hc2⟩ := (HB.out.grow hbl.out).cell hy
      injection hv with v1 _ v3
      subst v1 v3
      obtain ⟨y0, y1, y2, y3, y4⟩ : wz.cell? ⟨g1, o1 + i * 5, none⟩ = some (.int .i64 x.client) ∧ wz.cell? ⟨g1, o1 + i * 5 + 1, none⟩ = some (.int .i64 x.id) ∧ wz.cell? ⟨g1, o1 + i * 5 + 2, none⟩ = some (.int .u8 x.res.kind) ∧ wz.cell? ⟨g1, o1 + i * 5 + 3, none⟩ = some (.bool x.res.found) ∧ wz.cell? ⟨g1, o1 + i * 5 + 4, none⟩ = some (.string x.res.val) := ⟨hc1 0 _ rfl, hc1 1 _ rfl, hc1 2 _ rfl, hc1 3 _ rfl, hc1 4 _ rfl⟩
      obtain ⟨z0, z1, z2, z3, z4⟩ : wz.cell? ⟨g2, o2 + i * 5, none⟩ = some (.int .i64 y.client) ∧ wz.cell? ⟨g2, o2 + i * 5 + 1, none⟩ = some (.int .i64 y.id) ∧ wz.cell? ⟨g2, o2 + i * 5 + 2, none⟩ = some (.int .u8 y.res.kind) ∧ wz.cell? ⟨g2, o2 + i * 5 + 3, none⟩ = some (.bool y.res.found) ∧ wz.cell? ⟨g2, o2 + i * 5 + 4, none⟩ = some (.string y.res.val) := ⟨hc2 0 _ rfl, hc2 1 _ rfl, hc2 2 _ rfl, hc2 3 _ rfl, hc2 4 _ rfl⟩
      have heq := fun W => eq_pl x y W
      have HXY := Lib.hid (And.intro hx hy)
      clear hc1 hc2 hx hy hg1 hg2
      cases hs : x.same y
      · rw [hs] at heq
        go_upto_region 6 with fail
        go_quiet (fail)
        have HBQ : Hid (Below w.heap.size w (wz.drewN nq)) := Lib.hid (drewN_below _ _ _ _ hbl.out)
        have hr : sameL PL.same l m = false := sameL_at HXY.out.1 HXY.out.2 hs
        have HR := Lib.hid hr
        clear hr hs
        go_wp2_with fail
        go_ret
        exact ⟨by rw [HR.out]; rfl, HBQ.out⟩
      · rw [hs] at heq
        have hsf2 : ∀ (j : Nat) (x y : PL), j < i + 1 → l[j]? = some x → m[j]? = some y → PL.same x y = true := fun j x' y' hj h1 h2 => by
          by_cases hji : j = i
          · subst hji
            have e1 : some x' = some x := h1.symm.trans HXY.out.1
            have e2 : some y' = some y := h2.symm.trans HXY.out.2
            injection e1 with e1
            injection e2 with e2
            rw [e1, e2]
            exact hs
          · exact hsf.out j x' y' (by omega) h1 h2
        have HSF2 := Lib.hid hsf2
        go_upto_region 6 with fail
        go_quiet (fail)
        have HBQ : Hid (Below w.heap.size w (wz.drewN nq)) := Lib.hid (drewN_below _ _ _ _ hbl.out)
        clear hs hsf2
        go_wp2_with fail
        exact ⟨⟨i + 1, by go_num, by omega, HBQ, HSF2⟩, by simp [intOf]; omega⟩
    · have a1 : ¬ (i : Int) < (l.length : Int) := by omega
      have hr : sameL PL.same l m = true := sameL_all HLN.out fun j x y hx hy => hsf.out j x y (by have := (List.getElem?_eq_some_iff.1 hx).1; omega) hx hy
      have HR := Lib.hid hr
      clear hr
      go_wp2_with fail
      go_ret
      exact ⟨by rw [HR.out]; rfl, hbl.out⟩
set_option maxHeartbeats 4000000 in
set_option maxRecDepth 100000 in
theorem ints_any (l m : List Int) (a b : Value) (w : World) (ha : inR.N w Any a l) (hb : inR.N w Any b m) :
    Calls Try.prog 50 #[a, b] w fun e w' => e = .returned (.bool (sameL iSame l m)) ∧ Below w.heap.size w w' := by
  obtain ⟨A, c, rfl, hlc, hcm⟩ := ha.slice
  obtain ⟨A2, c2, rfl, hlc2, hcm2⟩ := hb.slice
  have hl : l.length ≤ maxLen := Nat.le_trans hlc hcm
  unfold maxLen at hl
  have HA := Lib.hid ha
  have HB := Lib.hid hb
  have HB0 : Hid (Below w.heap.size w w) := Lib.hid (Below.refl _ _)
  by_cases hlen : l.length = m.length
  case neg =>
    have hr : sameL iSame l m = false := sameL_len hlen
    have n1 : ((l.length : Int) == (m.length : Int)) = false := by rw [beq_eq_false_iff_ne]; omega
    have n2 : ¬ (l.length : Int) = (m.length : Int) := by omega
    have HR := Lib.hid hr
    clear ha hb hlc hcm hlc2 hcm2 hlen hr
    go_enter Try.func50, Try.ntmps50
    go_wp2_with fail
    go_ret
    exact ⟨by rw [HR.out]; rfl, HB0.out⟩
  have HLN := Lib.hid hlen
  have HS0 : Hid (∀ (j : Nat) (x y : Int), j < 0 → l[j]? = some x → m[j]? = some y → iSame x y = true) := Lib.hid fun j x y hj => by omega
  rw [← hlen] at HB ⊢
  clear ha hb hlc hcm hlc2 hcm2
  go_enter Try.func50, Try.ntmps50
  clear hlen
  go_wp2_with fail
  go_loopw [5] (fun s5 wr => ∃ i : Nat, s5 = .int .i64 (i : Int) ∧ i ≤ l.length ∧ Hid (Below w.heap.size w wr) ∧ Hid (∀ (j : Nat) (x y : Int), j < i → l[j]? = some x → m[j]? = some y → iSame x y = true)) (fun s5 _ => l.length - (intOf s5).toNat)
  case atStart => exact ⟨0, rfl, Nat.zero_le _, HB0, HS0⟩
  case round =>
    clear HB0 HS0
    obtain ⟨i, rfl, hi, hbl, hsf⟩ := hrel
    obtain ⟨wz, hwz⟩ : ∃ wz : World, wz = wr := ⟨_, rfl⟩
    subst hwz
    by_cases hil : i < l.length
    · have a1 : (i : Int) < (l.length : Int) := by omega
      have a0 : (0 : Int) ≤ (i : Int) := by omega
      obtain ⟨x, hx⟩ : ∃ x, l[i]? = some x := ⟨_, List.getElem?_eq_getElem hil⟩
      obtain ⟨y, hy⟩ : ∃ y, m[i]? = some y := ⟨_, List.getElem?_eq_getElem (by rw [← HLN.out]; exact hil)⟩
      obtain ⟨g1, o1, n1, k1, hv, -, hg1, hc1⟩ := (HA.out.grow hbl.out).cell hx
      injection hv with v1 _ v3
      subst v1 v3
      obtain ⟨g2, o2, n2, k2, hv, -, hg2, hc2⟩ := (HB.out.grow hbl.out).cell hy
      injection hv with v1 _ v3
      subst v1 v3
      have y0 : wz.cell? ⟨g1, o1 + i, none⟩ = some (.int .i64 x) := by simpa [inR] using hc1 0 _ rfl
      have z0 : wz.cell? ⟨g2, o2 + i, none⟩ = some (.int .i64 y) := by simpa [inR] using hc2 0 _ rfl
      have HXY := Lib.hid (And.intro hx hy)
      clear hc1 hc2 hx hy hg1 hg2
      cases hs : iSame x y
      · have q1 : (x == y) = false := hs
        have q2 : ¬ x = y := by simpa using q1
        go_upto_region 6 with fail
        go_quiet (fail)
        have HBQ : Hid (Below w.heap.size w (wz.drewN nq)) := Lib.hid (drewN_below _ _ _ _ hbl.out)
        have hr : sameL iSame l m = false := sameL_at HXY.out.1 HXY.out.2 hs
        have HR := Lib.hid hr
        clear hr hs
        go_wp2_with fail
        go_ret
        exact ⟨by rw [HR.out]; rfl, HBQ.out⟩
      · have q1 : (x == y) = true := hs
        have q2 : x = y := by simpa using q1
        have hsf2 : ∀ (j : Nat) (x y : Int), j < i + 1 → l[j]? = some x → m[j]? = some y → iSame x y = true := fun j x' y' hj h1 h2 => by
          by_cases hji : j = i
          · subst hji
            have e1 : some x' = some x := h1.symm.trans HXY.out.1
            have e2 : some y' = some y := h2.symm.trans HXY.out.2
            injection e1 with e1
            injection e2 with e2
            rw [e1, e2]
            exact hs
          · exact hsf.out j x' y' (by omega) h1 h2
        have HSF2 := Lib.hid hsf2
        go_upto_region 6 with fail
        go_quiet (fail)
        have HBQ : Hid (Below w.heap.size w (wz.drewN nq)) := Lib.hid (drewN_below _ _ _ _ hbl.out)
        clear hs hsf2
        go_wp2_with fail
        exact ⟨⟨i + 1, by go_num, by omega, HBQ, HSF2⟩, by simp [intOf]; omega⟩
    · have a1 : ¬ (i : Int) < (l.length : Int) := by omega
      have hr : sameL iSame l m = true := sameL_all HLN.out fun j x y hx hy => hsf.out j x y (by have := (List.getElem?_eq_some_iff.1 hx).1; omega) hx hy
      have HR := Lib.hid hr
      clear hr
      go_wp2_with fail
      go_ret
      exact ⟨by rw [HR.out]; rfl, hbl.out⟩
end Go.Proofs.Ytblbcoknefgcaaa
