/-
  Where two logs part: the program's parting, with Merge's closure. No statement is proved here. No condition.
-/
import Derived.Test.YtackfigkhjdidaaLNew
namespace Go.Proofs.Ytackfigkhjdidaa
open Go.RowKit

def alike (m : List EN) (ahead : Nat) (l : List EN) (i : Nat) : Bool := match m[ahead + i]?, l[i]? with
  | some a, some b => a.term == b.term
  | _, _ => false
/-- what Merge's closure has -/
structure Boxes (w : World) (B p : Nat) (v : Value) (g : LG) (b13 b4 b7 ahead : Nat) (A : Option Addr) (c : Nat) (l : List EN) : Prop where
  log : LogAt w B p v g
  ah : w.heap[b13]? = some (.cells #[.int .i64 (ahead : Int)] 3 (0, 0))
  gb : w.heap[b4]? = some (.cells #[.pointer (some ⟨p, 0, none⟩)] 60 (0, 0))
  lb : w.heap[b7]? = some (.cells #[.slice A l.length c] 31 (0, 0))
  ent : EntN w Any (.slice A l.length c) l
theorem Boxes.below {w w' : World} {B p : Nat} {v : Value} {g : LG} {b13 b4 b7 ahead : Nat} {A : Option Addr} {c : Nat} {l : List EN} (h : Boxes w B p v g b13 b4 b7 ahead A c l) (hb : Below w.heap.size w w') : Boxes w' B p v g b13 b4 b7 ahead A c l :=
  ⟨h.log.below hb, (hb.block _ (lt_of_heap h.ah)).trans h.ah, (hb.block _ (lt_of_heap h.gb)).trans h.gb, (hb.block _ (lt_of_heap h.lb)).trans h.lb, h.ent.grow hb⟩
set_option maxHeartbeats 1000000 in
set_option maxRecDepth 100000 in
theorem alike_any (B p : Nat) (v : Value) (g : LG) (b13 b4 b7 ahead : Nat) (A : Option Addr) (c : Nat) (l : List EN) (i : Nat) (w : World) (h : Boxes w B p v g b13 b4 b7 ahead A c l) (hi : i < l.length) (ha : ahead ≤ 2147483647) (hl : l.length ≤ 2147483647) :
    Calls Try.prog 92 #[.int .i64 (i : Int), .pointer (some ⟨b13, 0, none⟩), .pointer (some ⟨b4, 0, none⟩), .pointer (some ⟨b7, 0, none⟩)] w fun e w' => e = .returned (.bool (alike g.l ahead l i)) ∧ Below w.heap.size w w' := by
  obtain ⟨Av, cv, hv, hvl, hvm⟩ := h.log.n.slice
  have hfit := h.log.fit
  subst hv
  obtain ⟨-, -, d2⟩ := h.log.cells
  have e0 : w.cell? ⟨b13, 0, none⟩ = some (.int .i64 (ahead : Int)) := (blk_cells h.ah).1 0
  have e1 : w.cell? ⟨b4, 0, none⟩ = some (.pointer (some ⟨p, 0, none⟩)) := (blk_cells h.gb).1 0
  have e2 : w.cell? ⟨b7, 0, none⟩ = some (.slice A l.length c) := (blk_cells h.lb).1 0
  obtain ⟨y, hy⟩ : ∃ y, l[i]? = some y := ⟨_, List.getElem?_eq_getElem hi⟩
  obtain ⟨b, o, n', k', A3, c3, hv, -, -, -, y0, -, -, -⟩ := h.ent.cell hy
  injection hv with v1 v2 v3
  subst v1 v3
  have HB : Hid (Below w.heap.size w w) := Lib.hid (Below.refl _ _)
  have i0 : (0 : Int) ≤ (i : Int) := Int.natCast_nonneg _
  have i1 : (i : Int) < (l.length : Int) := by omega
  have hsum : wrap64 ((ahead : Int) + (i : Int)) = ((ahead + i : Nat) : Int) := by unfold wrap64; omega
  obtain ⟨s, hs⟩ : ∃ s, s = ahead + i := ⟨_, rfl⟩
  rw [← hs] at hsum
  have s0 : (0 : Int) ≤ (s : Int) := Int.natCast_nonneg _
  by_cases hsl : s < g.l.length
  · have s1 : (s : Int) < (g.l.length : Int) := by omega
    obtain ⟨x, hx⟩ : ∃ x, g.l[s]? = some x := ⟨_, List.getElem?_eq_getElem hsl⟩
    obtain ⟨b2, o2, n2, k2, A4, c4, hv, -, -, -, z0, -, -, -⟩ := h.log.n.cell hx
    injection hv with v4 v5 v6
    subst v4 v6
    have hal : alike g.l ahead l i = (x.term == y.term) := by unfold alike; rw [← hs, hx, hy]
    have HAL := Lib.hid hal
    clear h v2 v5 hs hx hy hal hfit hvl hvm hi ha hl hsl
    by_cases ht : x.term = y.term
    · have ht' : (x.term == y.term) = true := by simpa using ht
      have HA2 := Lib.hid (HAL.out.trans ht')
      rw [← ht] at y0
      clear ht ht'
      go_enter Try.func92, Try.ntmps92
      go_upto_region 2 with fail
      go_quiet (fail)
      go_wp2_with fail
      go_ret
      exact ⟨rb HA2.out, drewN_below _ _ _ _ (Below.refl _ _)⟩
    · have ht' : (x.term == y.term) = false := by simpa using ht
      have HA2 := Lib.hid (HAL.out.trans ht')
      clear ht
      go_enter Try.func92, Try.ntmps92
      go_upto_region 2 with fail
      go_quiet (fail)
      go_wp2_with fail
      go_ret
      exact ⟨rb HA2.out, drewN_below _ _ _ _ (Below.refl _ _)⟩
  · have s1 : ¬ (s : Int) < (g.l.length : Int) := by omega
    have hal : alike g.l ahead l i = false := by unfold alike; rw [← hs, List.getElem?_eq_none (by omega)]
    have HAL := Lib.hid hal
    clear h v2 hs hy hal hfit hvl hvm hi ha hl hsl
    go_enter Try.func92, Try.ntmps92
    go_upto_region 2 with fail
    go_quiet (fail)
    go_wp2_with fail
    go_ret
    exact ⟨rb HAL.out, drewN_below _ _ _ _ (Below.refl _ _)⟩
theorem alike_yes {m l : List EN} {ahead i : Nat} (h : alike m ahead l i = true) : ∃ a b, (m.drop ahead)[i]? = some a ∧ l[i]? = some b ∧ a.term = b.term := by
  unfold alike at h
  split at h
  · rename_i a b h1 h2
    exact ⟨a, b, by rw [List.getElem?_drop]; exact h1, h2, by simpa using h⟩
  · cases h
theorem alike_no {m l : List EN} {ahead i : Nat} (h : alike m ahead l i = false) : ∀ a b, (m.drop ahead)[i]? = some a → l[i]? = some b → a.term ≠ b.term := by
  intro a b h1 h2
  rw [List.getElem?_drop] at h1
  unfold alike at h
  rw [h1, h2] at h
  simpa using h
set_option maxHeartbeats 1000000 in
set_option maxRecDepth 100000 in
theorem parting_any (B p : Nat) (v : Value) (g : LG) (b13 b4 b7 ahead : Nat) (A : Option Addr) (c : Nat) (l : List EN) (w : World) (h : Boxes w B p v g b13 b4 b7 ahead A c l) (ha : ahead ≤ 2147483647) (hl : l.length ≤ 2147483647) :
    Calls Try.prog 91 #[.int .i64 (l.length : Int), .func (.func 92) #[] #[.pointer (some ⟨b13, 0, none⟩), .pointer (some ⟨b4, 0, none⟩), .pointer (some ⟨b7, 0, none⟩)]] w fun e w' => e = .returned (.int .i64 (parts (g.l.drop ahead) l : Int)) ∧ Below w.heap.size w w' := by
  have H := Lib.hid h
  clear h
  have H0 : Hid (∀ j < 0, alike g.l ahead l j = true) := Lib.hid fun j hj => by omega
  have HB0 : Hid (Below w.heap.size w w) := Lib.hid (Below.refl _ _)
  go_enter Try.func91, Try.ntmps91
  go_wp2_with fail
  go_loopw [5, 7] (fun _ s7 wr => ∃ i : Nat, s7 = .int .i64 (i : Int) ∧ i ≤ l.length ∧ Hid (∀ j < i, alike g.l ahead l j = true) ∧ Hid (Below w.heap.size w wr)) (fun _ s7 _ => l.length - (intOf s7).toNat)
  case atStart => exact ⟨0, rfl, Nat.zero_le _, H0, HB0⟩
  case round =>
    clear H0 HB0
    obtain ⟨i, rfl, hi, hA, hW⟩ := hrel
    obtain ⟨wz, hwz⟩ : ∃ wz : World, wz = wr := ⟨_, rfl⟩
    subst hwz
    by_cases hil : i < l.length
    · have a1 : (i : Int) < (l.length : Int) := by omega
      have cL := alike_any B p v g b13 b4 b7 ahead A c l i wz (H.out.below hW.out) hil ha hl
      go_wp2_with fail
      refine cL.mono ?_
      rintro e w1 ⟨rfl, hb⟩
      clear cL
      have hB := hW.out.trans (Joins.below_le hb hW.out.size)
      have HB := Lib.hid hB
      clear hb hB
      cases hk : alike g.l ahead l i
      · have hp : parts (g.l.drop ahead) l = i := parts_stop _ _ i hi (fun j hj => alike_yes (hA.out j hj)) (.inr (alike_no hk))
        have HP := Lib.hid hp
        clear hp hk
        go_wp2_with fail
        go_ret
        exact ⟨by rw [HP.out]; rfl, HB.out⟩
      · have hn : ∀ j < i + 1, alike g.l ahead l j = true := fun j hj => by
          by_cases hji : j = i
          · rw [hji]; exact hk
          · exact hA.out j (by omega)
        have HN := Lib.hid hn
        clear hn hk
        go_wp2_with fail
        exact ⟨⟨i + 1, by go_num, hil, HN, HB⟩, by simp [intOf]; omega⟩
    · have a1 : ¬ (i : Int) < (l.length : Int) := by omega
      have hie : i = l.length := by omega
      have hp : parts (g.l.drop ahead) l = l.length := parts_stop _ _ l.length (Nat.le_refl _) (fun j hj => alike_yes (hA.out j (by omega))) (.inl rfl)
      have HP := Lib.hid hp
      clear hp hie
      go_wp2_with fail
      go_ret
      exact ⟨by rw [HP.out]; rfl, hW.out⟩
end Go.Proofs.Ytackfigkhjdidaa
