/-
  Where a key belongs: the program's Find. No statement is proved here. No condition.
-/
import Derived.Test.YtedcknlafkokkaaNSizeN
namespace Go.Proofs.Ytedcknlafkokkaa
open Go.RowKit

theorem below_drewN {B : Nat} {w w' : World} (h : Below B w w') (n : Nat) : Below B w (w'.drewN n) := ⟨h.os, h.tape, h.output, h.size, h.block⟩
def findAt (key : ByteArray) : List PC → Nat → Nat × Bool
  | [], i => (i, false)
  | c :: l, i => if kLt c.key key = false then (i, c.key.toList == key.toList) else findAt key l (i + 1)
def PN.find (n : PN) (key : ByteArray) : Nat × Bool := findAt key n.cells 0
theorem findAt_step {key : ByteArray} {l : List PC} {i : Nat} {c : PC} (h : l[i]? = some c) : findAt key (l.drop i) i = if kLt c.key key = false then (i, c.key.toList == key.toList) else findAt key (l.drop (i + 1)) (i + 1) := by
  have hl := (List.getElem?_eq_some_iff.1 h).1
  rw [List.drop_eq_getElem_cons hl]
  have : l[i] = c := (List.getElem?_eq_some_iff.1 h).2
  rw [this]
  rfl
set_option maxRecDepth 100000 in
theorem find_any (n : PN) (key : ByteArray) (v : Value) (w : World) (h : NodeN w Any v n) (hl : n.cells.length ≤ 1000000) :
    Calls Try.prog 22 #[v, .string key] w fun e w' => e = .returned (.tuple #[.int .i64 ((n.find key).1 : Int), .bool (n.find key).2]) ∧ Below w.heap.size w w' := by
  obtain ⟨vc, vk, rfl, hc, hk⟩ := h
  obtain ⟨Ac, cc, rfl, -, -⟩ := hc.slice
  obtain ⟨Ak, ck, rfl, hkl, hkm⟩ := hk.slice
  have HC := Lib.hid hc
  clear hc hk
  have hb1 : Below w.heap.size w (w.alloc (.cells #[.bool n.leaf, .slice Ac n.cells.length cc, .slice Ak n.kids.length ck] 31)) := (Below.refl _ _).alloc (Nat.le_refl _) _
  have hx1 : (w.alloc (.cells #[.bool n.leaf, .slice Ac n.cells.length cc, .slice Ak n.kids.length ck] 31)).heap[w.heap.size]? = some (.cells #[.bool n.leaf, .slice Ac n.cells.length cc, .slice Ak n.kids.length ck] 31 (0, 0)) := heap_alloc_new w _
  have HB1 := Lib.hid hb1
  have HX1 := Lib.hid hx1
  clear hb1 hx1
  obtain ⟨r, hr⟩ : ∃ r, r = n.find key := ⟨_, rfl⟩
  rw [← hr]
  have HR : Hid (r = findAt key (n.cells.drop 0) 0) := Lib.hid (by rw [hr, List.drop_zero]; rfl)
  clear hr
  go_enter Try.func22, Try.ntmps22
  go_wp2_with fail
  go_loopw [4, 5, 6, 7, 11] (fun _ _ _ _ s11 wr => ∃ i : Nat, s11 = .int .i64 (i : Int) ∧ i ≤ n.cells.length ∧ Hid (r = findAt key (n.cells.drop i) i) ∧ Hid (Below w.heap.size w wr) ∧ Hid (wr.heap[w.heap.size]? = some (.cells #[.bool n.leaf, .slice Ac n.cells.length cc, .slice Ak n.kids.length ck] 31 (0, 0)))) (fun _ _ _ _ s11 _ => n.cells.length - (intOf s11).toNat)
  case atStart => exact ⟨0, rfl, Nat.zero_le _, HR, HB1, HX1⟩
  case round =>
    clear HB1 HX1 HR
    obtain ⟨i, rfl, hi, hr, hbw, hx⟩ := hrel
    obtain ⟨wz, hwz⟩ : ∃ wz : World, wz = wr := ⟨_, rfl⟩
    subst hwz
    have hlt := boxed hx.out
    by_cases hil : i < n.cells.length
    · have a1 : (i : Int) < (n.cells.length : Int) := by omega
      have a0 : (0 : Int) ≤ (i : Int) := by omega
      obtain ⟨c, hci⟩ : ∃ c, n.cells[i]? = some c := ⟨_, List.getElem?_eq_getElem hil⟩
      obtain ⟨b, o, n', k', hv, -, hbs, c0, c1, c2, c3⟩ := (HC.out.grow hbw.out).cell hci
      injection hv with e1 e2 e3
      subst e1 e2 e3
      have hr' := hr.out
      rw [findAt_step hci] at hr'
      obtain ⟨wa, hwa⟩ : ∃ wa, wa = wz.alloc (.cells #[.string c.key, .string c.val, .int .i64 c.long, .int .i64 c.size] 59) := ⟨_, rfl⟩
      have hba : Below wz.heap.size wz wa := by rw [hwa]; exact (Below.refl _ _).alloc (Nat.le_refl _) _
      have hbf : Below w.heap.size w wa := hbw.out.trans (Joins.below_le hba hbw.out.size)
      have hxa := (hba.block _ hlt).trans hx.out
      rw [hwa] at hbf hxa
      have HBF := Lib.hid hbf
      have HXA := Lib.hid hxa
      clear hwa hba hbf hxa
      cases hk : kLt c.key key with
      | false =>
        have hk2 : Op.bytesLess c.key.toList key.toList = false := hk
        rw [if_pos hk] at hr'
        have HR' := Lib.hid hr'
        clear hr' hr hk
        go_upto_region 5 with fail
        go_quiet (fail)
        go_wp2_with fail
        go_ret2
        exact ⟨by rw [HR'.out]; rfl, below_drewN HBF.out _⟩
      | true =>
        have hk2 : Op.bytesLess c.key.toList key.toList = true := hk
        rw [if_neg (by rw [hk]; simp)] at hr'
        have HR' := Lib.hid hr'
        clear hr' hr hk
        go_wp2_with fail
        exact ⟨⟨i + 1, by go_num, hil, HR', HBF, HXA⟩, by simp [intOf]; omega⟩
    · have a1 : ¬ (i : Int) < (n.cells.length : Int) := by omega
      have hie : i = n.cells.length := by omega
      have hr' := hr.out
      rw [List.drop_of_length_le (by omega)] at hr'
      have hr2 : r = (i, false) := hr'
      have HR' := Lib.hid hr2
      have x1 : wz.cell? ⟨w.heap.size, 1, none⟩ = some (.slice Ac n.cells.length cc) := (row_cells hx.out).1 1
      have HIE := Lib.hid hie
      clear hr' hr hr2 hie
      go_wp2_with fail
      go_ret2
      exact ⟨by rw [HR'.out, HIE.out]; rfl, hbw.out⟩
end Go.Proofs.Ytedcknlafkokkaa
