/-
  An entry's bytes: the program's Write. No statement is proved here. No condition.
-/
import Derived.Test.YtackfigkhjdidaaLBytes
import Derived.Test.YtackfigkhjdidaaLTwin
namespace Go.Proofs.Ytackfigkhjdidaa
open Go.RowKit

theorem intsBy_snoc (l : List Int) (n : Int) : intsBy (l ++ [n]) = intsBy l ++ uv n.toNat := by simp [intsBy]
theorem intsBy_len (l : List Int) (h : ∀ n ∈ l, 1 ≤ n ∧ n ≤ 5) : (intsBy l).length = l.length := by
  induction l with
  | nil => rfl
  | cons a l ih =>
    have := h a (by simp)
    rw [intsBy_cons, List.length_append, ih (fun n hn => h n (by simp [hn])), uv_small (by omega)]
    simp only [List.length_cons, List.length_nil]
    omega
set_option maxHeartbeats 1000000 in
set_option maxRecDepth 100000 in
theorem write_any (x : EN) (v : Value) (w : World) (h : inR.N w Any v x.list) :
    Calls Try.prog 28 #[x.agg v] w fun e w' => ((x.may = false ∧ e = .returned (.tuple #[.slice none 0 0, .int .i64 1])) ∨ (x.may = true ∧ ∃ u, e = .returned (.tuple #[u, .int .i64 0]) ∧ w'.ownsRow w.heap.size 5 1 u x.bs.length (BS x.bs))) ∧ Below w.heap.size w w' := by
  obtain ⟨A, c, rfl, hlc, hcm⟩ := h.slice
  obtain ⟨w1, hw1⟩ : ∃ w1, w1 = w.alloc (.cells #[.int .i64 x.term, .int .u8 x.kind, .string x.data, .slice A x.list.length c] 50) := ⟨_, rfl⟩
  have hb1 : Below w.heap.size w w1 := by rw [hw1]; exact (Below.refl _ _).alloc (Nat.le_refl _) _
  have hx1 : w1.heap[w.heap.size]? = some (.cells #[.int .i64 x.term, .int .u8 x.kind, .string x.data, .slice A x.list.length c] 50 (0, 0)) := by rw [hw1]; exact heap_alloc_new w _
  obtain ⟨p, hp⟩ : ∃ p, p = w.heap.size := ⟨_, rfl⟩
  rw [← hp] at hx1
  have hs1 : w1.heap.size = p + 1 := by rw [hw1, hp]; simp
  have cC := check_any x (.slice A x.list.length c) w1 (h.grow hb1)
  unfold EN.agg at cC ⊢
  obtain ⟨x0, x1, x2, x3⟩ : w1.cell? ⟨p, 0, none⟩ = some (.int .i64 x.term) ∧ w1.cell? ⟨p, 1, none⟩ = some (.int .u8 x.kind) ∧ w1.cell? ⟨p, 2, none⟩ = some (.string x.data) ∧ w1.cell? ⟨p, 3, none⟩ = some (.slice A x.list.length c) := ⟨(blk_cells hx1).1 0, (blk_cells hx1).1 1, (blk_cells hx1).1 2, (blk_cells hx1).1 3⟩
  -- a later world has the entry's cells, and its list
  have hkeep : ∀ W, Below w1.heap.size w1 W → (W.cell? ⟨p, 0, none⟩ = some (.int .i64 x.term) ∧ W.cell? ⟨p, 1, none⟩ = some (.int .u8 x.kind) ∧ W.cell? ⟨p, 2, none⟩ = some (.string x.data) ∧ W.cell? ⟨p, 3, none⟩ = some (.slice A x.list.length c)) ∧ inR.N W Any (.slice A x.list.length c) x.list ∧ Below w.heap.size w W := fun W hW => by
    have e := (hW.block p (lt_of_heap hx1)).trans hx1
    exact ⟨⟨(blk_cells e).1 0, (blk_cells e).1 1, (blk_cells e).1 2, (blk_cells e).1 3⟩, (h.grow hb1).grow hW, hb1.trans (Joins.below_le hW hb1.size)⟩
  have HK := Lib.hid hkeep
  have HW1 := Lib.hid hw1
  have HP := Lib.hid hp
  clear hkeep hw1 hp h hb1 hx1
  go_enter Try.func28, Try.ntmps28
  go_upto_region 1 with fail
  rw [← HW1.out, ← HP.out]
  go_wp2_with fail
  refine cC.mono ?_
  rintro e w2 ⟨rfl, hb2⟩
  clear cC x0 x1 x2 x3
  have HB2 := Lib.hid hb2
  clear hb2
  cases hm : x.may
  · have HM := Lib.hid hm
    clear hm
    go_wp2_with fail
    go_ret2
    exact ⟨.inl ⟨HM.out, rfl⟩, (HK.out _ HB2.out).2.2⟩
  have t1 := EN.may_term hm
  have t2 := EN.may_kind hm
  have t3 := EN.may_data hm
  have t4 := EN.may_list hm
  have hds : x.data.data.toList.length = x.data.size := by rw [Array.length_toList]; rfl
  have HM := Lib.hid hm
  have HL := Lib.hid t4.2
  have t4 := t4.1
  have l1 := uv_length64 x.term.toNat (by unfold U64; omega)
  have l2 := uv_length64 x.kind.toNat (by unfold U64; omega)
  have l3 : (tv x.data.data.toList).length ≤ 266 := by unfold tv; rw [List.length_append]; have := uv_length64 x.data.data.toList.length (by unfold U64; omega); omega
  have l4 := uv_length64 x.list.length (by unfold U64; omega)
  clear hm
  -- the term
  obtain ⟨x0, x1, x2, x3⟩ := (HK.out _ HB2.out).1
  have c1 := count_any [] (.slice none 0 0) x.term w2 (Rd.nil _ _) (by omega) t1.2 (by simp)
  go_upto_region 3 with fail
  go_wp2_with fail
  refine c1.mono ?_
  rintro e w3 ⟨v3, rfl, ho, hb⟩
  clear c1 x0 x1 x2 x3
  have HB3 := Lib.hid (HB2.out.trans (Joins.below_le hb HB2.out.size))
  obtain ⟨x0, x1, x2, x3⟩ := (HK.out _ HB3.out).1
  rw [List.nil_append] at ho
  have c1 := count_any _ v3 x.kind w3 (Rd.own ho) (by omega) (by omega) (by omega)
  clear ho hb
  -- the kind
  go_wp2_with fail
  refine c1.mono ?_
  rintro e w4 ⟨v4, rfl, ho, hb⟩
  clear c1 x0 x1 x2 x3
  have HB4 := Lib.hid (HB3.out.trans (Joins.below_le hb HB3.out.size))
  obtain ⟨x0, x1, x2, x3⟩ := (HK.out _ HB4.out).1
  have c1 := str_any _ v4 x.data w4 (Rd.own ho) (by omega) (by rw [List.length_append]; omega)
  clear ho hb
  -- the text
  go_wp2_with fail
  refine c1.mono ?_
  rintro e w5 ⟨v5, rfl, ho, hb⟩
  clear c1 x0 x1 x2 x3
  have HB5 := Lib.hid (HB4.out.trans (Joins.below_le hb HB4.out.size))
  obtain ⟨x0, x1, x2, x3⟩ := (HK.out _ HB5.out).1
  have c1 := count_any _ v5 (x.list.length : Int) w5 (Rd.own ho) (by omega) (by omega) (by simp only [List.length_append]; omega)
  clear ho hb
  -- how many
  go_wp2_with fail
  refine c1.mono ?_
  rintro e w6 ⟨v6, rfl, ho, hb⟩
  clear c1 x0 x1 x2 x3
  rw [Int.toNat_natCast] at ho
  have HB6 := Lib.hid (HB5.out.trans (Joins.below_le hb HB5.out.size))
  obtain ⟨x0, x1, x2, x3⟩ := (HK.out _ HB6.out).1
  obtain ⟨pre, hpre⟩ : ∃ pre, pre = uv x.term.toNat ++ uv x.kind.toNat ++ tv x.data.data.toList ++ uv x.list.length := ⟨_, rfl⟩
  rw [← hpre] at ho
  have hpl : pre.length ≤ 300 := by rw [hpre]; simp only [List.length_append]; omega
  have hbs : x.bs = pre ++ intsBy x.list := by unfold EN.bs; rw [hpre]; simp only [List.append_assoc]
  have HBS := Lib.hid hbs
  have hws : w.heap.size ≤ w5.heap.size := ((HK.out _ HB5.out).2.2).size
  have HO : Hid (w6.ownsRow w.heap.size 5 1 v6 (pre ++ intsBy (x.list.take 0)).length (BS (pre ++ intsBy (x.list.take 0))) ∧ Below w1.heap.size w1 w6) := Lib.hid ⟨by rw [List.take_zero, show intsBy [] = [] from rfl, List.append_nil]; exact own_base ho hws, HB6.out⟩
  clear ho hb hpre hbs l1 l2 l3 l4 hds HB2 HB3 HB4 HB5 HB6 hws
  go_wp2_with fail
  clear x0 x1 x2 x3
  go_loopw [4, 6, 30] (fun s4 _ s30 wr => ∃ i : Nat, s30 = .int .i64 (i : Int) ∧ i ≤ x.list.length ∧ Hid (wr.ownsRow w.heap.size 5 1 s4 (pre ++ intsBy (x.list.take i)).length (BS (pre ++ intsBy (x.list.take i))) ∧ Below w1.heap.size w1 wr)) (fun _ _ s30 _ => x.list.length - (intOf s30).toNat)
  case atStart => exact ⟨0, rfl, Nat.zero_le _, HO⟩
  case round =>
    clear HO
    obtain ⟨i, rfl, hi, hR⟩ := hrel
    obtain ⟨wz, hwz⟩ : ∃ wz : World, wz = wr := ⟨_, rfl⟩
    subst hwz
    by_cases hil : i < x.list.length
    · have a1 : (i : Int) < (x.list.length : Int) := by omega
      have a0 : (0 : Int) ≤ (i : Int) := by omega
      obtain ⟨y, hy⟩ : ∃ y, x.list[i]? = some y := ⟨_, List.getElem?_eq_getElem hil⟩
      obtain ⟨b, o, m, k, hv, -, -, hc⟩ := int_cell (HK.out _ hR.out.2).2.1 hy
      injection hv with v1 v2 v3
      subst v1 v3
      have hyr := HL.out y (List.mem_of_getElem? hy)
      have hln := intsBy_len (x.list.take i) fun n hn => HL.out n (List.mem_of_mem_take hn)
      rw [List.length_take] at hln
      have c1 := fun sv (h : wz.ownsRow w.heap.size 5 1 sv (pre ++ intsBy (x.list.take i)).length (BS (pre ++ intsBy (x.list.take i)))) => count_any _ sv y wz (Rd.own h) (by omega) (by omega) (by rw [List.length_append]; omega)
      have c1 := c1 _ hR.out.1
      have HY := Lib.hid hy
      clear hy hln v2
      go_wp2_with fail
      refine c1.mono ?_
      rintro e w7 ⟨v7, rfl, ho, hb⟩
      clear c1 hc
      have hws : w.heap.size ≤ wz.heap.size := ((HK.out _ hR.out.2).2.2).size
      have HN : Hid (w7.ownsRow w.heap.size 5 1 v7 (pre ++ intsBy (x.list.take (i + 1))).length (BS (pre ++ intsBy (x.list.take (i + 1)))) ∧ Below w1.heap.size w1 w7) := Lib.hid ⟨by
        rw [getLast_take HY.out, intsBy_snoc, ← List.append_assoc]
        exact own_base ho hws, hR.out.2.trans (Joins.below_le hb hR.out.2.size)⟩
      clear ho hb hR hws
      go_wp2_with fail
      exact ⟨⟨i + 1, by go_num, hil, HN⟩, by simp [intOf]; omega⟩
    · have a1 : ¬ (i : Int) < (x.list.length : Int) := by omega
      have hie : i = x.list.length := by omega
      have hF := hR.out
      rw [hie, List.take_length, ← HBS.out] at hF
      have HF := Lib.hid hF
      clear hF hR hie hi hil
      go_wp2_with fail
      go_ret2
      exact ⟨.inr ⟨HM.out, _, rfl, HF.out.1⟩, (HK.out _ HF.out.2).2.2⟩
end Go.Proofs.Ytackfigkhjdidaa
