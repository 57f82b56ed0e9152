/-
  Entries held against each other, by the document's words; how long entries are. No statement is proved here. No condition.
-/
import Derived.Test.YtackfigkhjdidaaLAwakeW
namespace Go.Proofs.Ytackfigkhjdidaa
open Go.RowKit

theorem ent_kept {w w' : World} {p : Nat} {C : Array Value} (h : w.heap[p]? = some (.cells C 50 (0, 0))) (hb : Below w.heap.size w w') : w'.heap[p]? = some (.cells C 50 (0, 0)) := (hb.block p (lt_of_heap h)).trans h
theorem sameL_iff : ∀ (l m : List Int), sameL iSame l m = decide (l = m)
  | [], [] => rfl
  | a :: l, b :: m => by
    unfold sameL
    rw [sameL_iff l m]
    unfold iSame
    by_cases h1 : a = b
    · subst h1
      by_cases h2 : l = m
      · subst h2; simp
      · simp [h2]
    · simp [h1]
  | [], b :: m => rfl
  | a :: l, [] => rfl
set_option maxHeartbeats 4000000 in
set_option maxRecDepth 100000 in
theorem same_any (x y : EN) (v1 v2 : Value) (w : World) (h1 : inR.N w Any v1 x.list) (h2 : inR.N w Any v2 y.list) :
    Calls Try.prog 33 #[x.agg v1, y.agg v2] w fun e w' => e = .returned (.bool (x.same y)) ∧ Below w.heap.size w w' := by
  obtain ⟨A1, c1, rfl, hl1, hm1⟩ := h1.slice
  obtain ⟨A2, c2, rfl, hl2, hm2⟩ := h2.slice
  unfold maxLen at hm1 hm2
  unfold EN.agg
  obtain ⟨w1, hw1⟩ : ∃ w1, w1 = w.alloc (.cells #[.int .i64 x.term, .int .u8 x.kind, .string x.data, .slice A1 x.list.length c1] 50) := ⟨_, rfl⟩
  have hb1 : Below w.heap.size w w1 := by rw [hw1]; exact (Below.refl _ _).alloc (Nat.le_refl _) _
  have hx1 : w1.heap[w.heap.size]? = some (.cells #[.int .i64 x.term, .int .u8 x.kind, .string x.data, .slice A1 x.list.length c1] 50 (0, 0)) := by rw [hw1]; exact heap_alloc_new w _
  obtain ⟨w2, hw2⟩ : ∃ w2, w2 = w1.alloc (.cells #[.int .i64 y.term, .int .u8 y.kind, .string y.data, .slice A2 y.list.length c2] 50) := ⟨_, rfl⟩
  have hb2 : Below w1.heap.size w1 w2 := by rw [hw2]; exact (Below.refl _ _).alloc (Nat.le_refl _) _
  have hy2 : w2.heap[w1.heap.size]? = some (.cells #[.int .i64 y.term, .int .u8 y.kind, .string y.data, .slice A2 y.list.length c2] 50 (0, 0)) := by rw [hw2]; exact heap_alloc_new w1 _
  have hx2 := (hb2.block _ (lt_of_heap hx1)).trans hx1
  have hB : Below w.heap.size w w2 := hb1.trans (Joins.below_le hb2 hb1.size)
  have hs1 : w1.heap.size = w.heap.size + 1 := by rw [hw1]; simp
  obtain ⟨p, hp⟩ : ∃ p, p = w.heap.size := ⟨_, rfl⟩
  obtain ⟨q, hq⟩ : ∃ q, q = w1.heap.size := ⟨_, rfl⟩
  have hq1 : q = w.heap.size + 1 := hq.trans hs1
  rw [← hp] at hx2
  rw [← hq] at hy2
  obtain ⟨a0, a1, a2, a3⟩ : w2.cell? ⟨p, 0, none⟩ = some (.int .i64 x.term) ∧ w2.cell? ⟨p, 1, none⟩ = some (.int .u8 x.kind) ∧ w2.cell? ⟨p, 2, none⟩ = some (.string x.data) ∧ w2.cell? ⟨p, 3, none⟩ = some (.slice A1 x.list.length c1) := ⟨(blk_cells hx2).1 0, (blk_cells hx2).1 1, (blk_cells hx2).1 2, (blk_cells hx2).1 3⟩
  obtain ⟨b0, b1, b2, b3⟩ : w2.cell? ⟨q, 0, none⟩ = some (.int .i64 y.term) ∧ w2.cell? ⟨q, 1, none⟩ = some (.int .u8 y.kind) ∧ w2.cell? ⟨q, 2, none⟩ = some (.string y.data) ∧ w2.cell? ⟨q, 3, none⟩ = some (.slice A2 y.list.length c2) := ⟨(blk_cells hy2).1 0, (blk_cells hy2).1 1, (blk_cells hy2).1 2, (blk_cells hy2).1 3⟩
  have hww : w2 = (w.alloc (.cells #[.int .i64 x.term, .int .u8 x.kind, .string x.data, .slice A1 x.list.length c1] 50)).alloc (.cells #[.int .i64 y.term, .int .u8 y.kind, .string y.data, .slice A2 y.list.length c2] 50) := by rw [hw2, hw1]
  have hL1 := (h1.grow hb1).grow hb2
  have hL2 := (h2.grow hb1).grow hb2
  have HW := Lib.hid hww
  have HP := Lib.hid hp
  have HQ := Lib.hid hq1
  have HBB := Lib.hid hB
  have HX := Lib.hid (And.intro hx2 hy2)
  have HL := Lib.hid (And.intro hL1 hL2)
  clear h1 h2 hw1 hb1 hx1 hw2 hb2 hy2 hx2 hB hs1 hq hq1 hww hp hL1 hL2
  go_enter Try.func33, Try.ntmps33
  go_upto_region 1 with fail
  rw [← HW.out, ← HQ.out, ← HP.out]
  by_cases k1 : x.term = y.term
  case neg =>
    have hr : x.same y = false := by unfold EN.same; simp [k1]
    have HR := Lib.hid hr
    have k1' : (x.term == y.term) = false := by simpa using k1
    clear hr
    go_wp2_with fail
    go_ret
    exact ⟨rb HR.out, HBB.out⟩
  by_cases k2 : x.kind = y.kind
  case neg =>
    have hr : x.same y = false := by unfold EN.same; simp [k2]
    have HR := Lib.hid hr
    rw [← k1] at b0
    have k2' : (x.kind == y.kind) = false := by simpa using k2
    clear hr k1
    go_wp2_with fail
    go_ret
    exact ⟨rb HR.out, HBB.out⟩
  by_cases k3 : x.data.toList = y.data.toList
  case neg =>
    have hr : x.same y = false := by unfold EN.same; simp [k3]
    have HR := Lib.hid hr
    rw [← k1] at b0
    rw [← k2] at b1
    have k3' : (x.data.toList == y.data.toList) = false := by simpa using k3
    clear hr k1 k2 k3
    go_wp2_with fail
    go_ret
    exact ⟨rb HR.out, HBB.out⟩
  have hr : x.same y = sameL iSame x.list y.list := by unfold EN.same; simp [k1, k2, k3]
  rw [← k1] at b0
  rw [← k2] at b1
  have k3' : (x.data.toList == y.data.toList) = true := by simpa using k3
  clear k1 k2 k3
  by_cases k4 : x.list.length = y.list.length
  case neg =>
    have hr2 : x.same y = false := hr.trans (sameL_len k4)
    have HR := Lib.hid hr2
    have k4' : ((x.list.length : Int) == (y.list.length : Int)) = false := by rw [beq_eq_false_iff_ne]; omega
    clear hr hr2 k4
    go_wp2_with fail
    go_ret
    exact ⟨rb HR.out, HBB.out⟩
  have HR := Lib.hid hr
  have HN := Lib.hid k4
  rw [← k4] at b3 HL
  have HS0 : Hid (∀ j < 0, ∀ a b, x.list[j]? = some a → y.list[j]? = some b → iSame a b = true) := Lib.hid fun j hj => by omega
  clear hr k4
  go_upto_region 3 with fail
  clear b0 b1 a0 a1 a2 b2 k3'
  go_wp2_with fail
  go_loopw [5] (fun s5 wr => ∃ i : Nat, s5 = .int .i64 (i : Int) ∧ i ≤ x.list.length ∧ Hid (Below w2.heap.size w2 wr) ∧ Hid (∀ j < i, ∀ a b, x.list[j]? = some a → y.list[j]? = some b → iSame a b = true)) (fun s5 _ => x.list.length - (intOf s5).toNat)
  case atStart => exact ⟨0, rfl, Nat.zero_le _, Lib.hid (Below.refl _ _), HS0⟩
  case round =>
    clear HS0 a3 b3
    obtain ⟨i, rfl, hi, hbl, hsf⟩ := hrel
    obtain ⟨wz, hwz⟩ : ∃ wz : World, wz = wr := ⟨_, rfl⟩
    subst hwz
    have a3 : wz.cell? ⟨p, 3, none⟩ = some (.slice A1 x.list.length c1) := (blk_cells (ent_kept HX.out.1 hbl.out)).1 3
    have b3 : wz.cell? ⟨q, 3, none⟩ = some (.slice A2 x.list.length c2) := by rw [HN.out]; exact (blk_cells (ent_kept HX.out.2 hbl.out)).1 3
    by_cases hil : i < x.list.length
    · have q1 : (i : Int) < (x.list.length : Int) := by omega
      have q0 : (0 : Int) ≤ (i : Int) := by omega
      obtain ⟨a, ha⟩ : ∃ a, x.list[i]? = some a := ⟨_, List.getElem?_eq_getElem hil⟩
      obtain ⟨b, hb⟩ : ∃ b, y.list[i]? = some b := ⟨_, List.getElem?_eq_getElem (by rw [← HN.out]; exact hil)⟩
      obtain ⟨g1, o1, n1, m1, hv, -, -, z1⟩ := int_cell (HL.out.1.grow hbl.out) ha
      injection hv with v1 _ v3
      subst v1 v3
      obtain ⟨g2, o2, n2, m2, hv, -, -, z2⟩ := int_cell (HL.out.2.grow hbl.out) hb
      injection hv with v1 _ v3
      subst v1 v3
      have HAB := Lib.hid (And.intro ha hb)
      clear ha hb
      cases hs : iSame a b
      · have q2 : (a == b) = false := hs
        have q3 : ¬ a = b := by simpa using q2
        have hr2 : x.same y = false := HR.out.trans (sameL_at HAB.out.1 HAB.out.2 hs)
        have HR2 := Lib.hid hr2
        clear hr2 hs
        go_upto_region 6 with fail
        go_quiet (fail)
        have HF := Lib.hid (drewN_below _ wz nq _ (HBB.out.trans (Joins.below_le hbl.out HBB.out.size)))
        clear a3 b3 z1 z2
        go_wp2_with fail
        go_ret
        exact ⟨rb HR2.out, HF.out⟩
      · have q2 : (a == b) = true := hs
        have q3 : a = b := by simpa using q2
        have hsf2 : ∀ j < i + 1, ∀ a b, x.list[j]? = some a → y.list[j]? = some b → iSame a b = true := fun j hj a' b' h1 h2 => by
          by_cases hji : j = i
          · subst hji
            have e1 := Option.some.inj (h1.symm.trans HAB.out.1)
            have e2 := Option.some.inj (h2.symm.trans HAB.out.2)
            rw [e1, e2]
            exact hs
          · exact hsf.out j (by omega) a' b' h1 h2
        have HSF2 := Lib.hid hsf2
        clear hs hsf2
        go_upto_region 6 with fail
        go_quiet (fail)
        have HF := Lib.hid (drewN_below _ wz nq _ hbl.out)
        clear a3 b3 z1 z2
        go_wp2_with fail
        exact ⟨⟨i + 1, by go_num, hil, HF, HSF2⟩, by simp [intOf]; omega⟩
    · have q1 : ¬ (i : Int) < (x.list.length : Int) := by omega
      have hr2 : x.same y = true := HR.out.trans (sameL_all HN.out fun j a b ha hb => hsf.out j (by have := (List.getElem?_eq_some_iff.1 ha).1; omega) a b ha hb)
      have HR2 := Lib.hid hr2
      have HF := Lib.hid (HBB.out.trans (Joins.below_le hbl.out HBB.out.size))
      clear hr2
      go_wp2_with fail
      go_ret
      exact ⟨rb HR2.out, HF.out⟩
def tot : List EN → Nat
  | [] => 0
  | e :: l => e.data.size + e.list.length + tot l
theorem tot_snoc (l : List EN) (e : EN) : tot (l ++ [e]) = tot l + (e.data.size + e.list.length) := by
  induction l with
  | nil => simp [tot]
  | cons a l ih => simp only [List.cons_append, tot, ih]; omega
theorem tot_le (l : List EN) (m : Nat) (h : ∀ e ∈ l, e.data.size ≤ m ∧ e.list.length ≤ m) : tot l ≤ l.length * (2 * m) := by
  induction l with
  | nil => simp [tot]
  | cons a l ih =>
    have h1 := h a (by simp)
    have h2 := ih fun e he => h e (by simp [he])
    show a.data.size + a.list.length + tot l ≤ (l.length + 1) * (2 * m)
    rw [Nat.succ_mul]
    omega
def longB (l : List EN) : Bool := decide (20000 < l.length + tot (l.take 100)) || decide (80 < l.length)
set_option maxHeartbeats 1000000 in
set_option maxRecDepth 100000 in
theorem long_any (l : List EN) (v : Value) (w : World) (h : EntN w Any v l) (hl : l.length ≤ 4503599627370496) (hsz : ∀ e ∈ l, e.data.size ≤ 4503599627370496 ∧ e.list.length ≤ 4503599627370496) :
    Calls Try.prog 24 #[v] w fun e w' => e = .returned (.bool (longB l)) ∧ Below w.heap.size w w' := by
  obtain ⟨A, c, rfl, hlc, hcm⟩ := h.slice
  have H := Lib.hid (And.intro h hsz)
  clear h hsz hlc hcm
  have t0 : ((l.length : Int) + (tot (l.take 0) : Int)) = (l.length : Int) := by simp [tot]
  have T0 := Lib.hid t0
  clear t0
  go_enter Try.func24, Try.ntmps24
  go_wp2_with fail
  go_loopw [3, 4] (fun s3 s4 wr => ∃ i : Nat, s4 = .int .i64 (i : Int) ∧ i ≤ l.length ∧ i ≤ 100 ∧ s3 = .int .i64 ((l.length : Int) + (tot (l.take i) : Int)) ∧ Hid (Below w.heap.size w wr)) (fun _ s4 _ => l.length - (intOf s4).toNat)
  case atStart => exact ⟨0, rfl, Nat.zero_le _, Nat.zero_le _, by rw [T0.out], Lib.hid (Below.refl _ _)⟩
  case round =>
    clear T0
    obtain ⟨i, rfl, hi, hi1, rfl, hW⟩ := hrel
    obtain ⟨wz, hwz⟩ : ∃ wz : World, wz = wr := ⟨_, rfl⟩
    subst hwz
    have htot := tot_le (l.take i) 4503599627370496 fun e he => H.out.2 e (List.mem_of_mem_take he)
    rw [List.length_take] at htot
    have htot2 : tot (l.take i) ≤ 900719925474099200 := by
      have : min i l.length * (2 * 4503599627370496) ≤ 100 * (2 * 4503599627370496) := Nat.mul_le_mul_right _ (by omega)
      omega
    obtain ⟨T, hT⟩ : ∃ T, T = tot (l.take i) := ⟨_, rfl⟩
    rw [← hT] at htot2 ⊢
    clear htot
    by_cases hil : i < l.length
    · have a1 : (i : Int) < (l.length : Int) := by omega
      have a0 : (0 : Int) ≤ (i : Int) := by omega
      by_cases hih : (i : Int) < 100
      · obtain ⟨x, hx⟩ : ∃ x, l[i]? = some x := ⟨_, List.getElem?_eq_getElem hil⟩
        obtain ⟨b, o, m, k, A3, c3, hv, -, -, -, -, -, y2, y3⟩ := (H.out.1.grow hW.out).cell hx
        injection hv with v1 v2 v3
        subst v1 v3
        have hxs := H.out.2 x (List.mem_of_getElem? hx)
        have hnew : tot (l.take (i + 1)) = T + (x.data.size + x.list.length) := by rw [getLast_take hx, tot_snoc, hT]
        have hw : wrap64 (wrap64 ((l.length : Int) + (T : Int) + (x.data.size : Int)) + (x.list.length : Int)) = (l.length : Int) + (tot (l.take (i + 1)) : Int) := by
          rw [wrap_fit (n := (l.length : Int) + (T : Int) + (x.data.size : Int)) (by omega), wrap_fit (by omega), hnew]
          omega
        have HWR := Lib.hid hw
        clear hx hxs hnew hw hT v2
        go_upto_region 5 with fail
        go_quiet (fail)
        have HF := Lib.hid (drewN_below _ wz nq _ hW.out)
        clear y2 y3
        go_wp2_with fail
        exact ⟨⟨i + 1, by go_num, hil, by omega, by rw [← HWR.out], HF⟩, by simp [intOf]; omega⟩
      · have hlb : longB l = (decide (20000 < l.length + T) || decide (80 < l.length)) := by unfold longB; rw [hT, show i = 100 by omega]
        clear hT
        by_cases k1 : (l.length : Int) + (T : Int) > 20000
        · have HLB := Lib.hid (show longB l = true by rw [hlb, decide_eq_true (by omega), Bool.true_or])
          clear hlb
          go_wp2_with fail
          go_ret
          exact ⟨rb HLB.out, hW.out⟩
        by_cases k2 : (l.length : Int) > 80
        · have HLB := Lib.hid (show longB l = true by rw [hlb, decide_eq_true (p := 80 < l.length) (by omega), Bool.or_true])
          clear hlb
          go_wp2_with fail
          go_ret
          exact ⟨rb HLB.out, hW.out⟩
        have HLB := Lib.hid (show longB l = false by rw [hlb, decide_eq_false (by omega), decide_eq_false (by omega)]; rfl)
        clear hlb
        go_wp2_with fail
        go_ret
        exact ⟨rb HLB.out, hW.out⟩
    · have a1 : ¬ (i : Int) < (l.length : Int) := by omega
      have hlb : longB l = (decide (20000 < l.length + T) || decide (80 < l.length)) := by unfold longB; rw [hT, show i = l.length by omega, List.take_length, List.take_of_length_le (by omega)]
      clear hT
      by_cases k1 : (l.length : Int) + (T : Int) > 20000
      · have HLB := Lib.hid (show longB l = true by rw [hlb, decide_eq_true (by omega), Bool.true_or])
        clear hlb
        go_wp2_with fail
        go_ret
        exact ⟨rb HLB.out, hW.out⟩
      by_cases k2 : (l.length : Int) > 80
      · have HLB := Lib.hid (show longB l = true by rw [hlb, decide_eq_true (p := 80 < l.length) (by omega), Bool.or_true])
        clear hlb
        go_wp2_with fail
        go_ret
        exact ⟨rb HLB.out, hW.out⟩
      have HLB := Lib.hid (show longB l = false by rw [hlb, decide_eq_false (by omega), decide_eq_false (by omega)]; rfl)
      clear hlb
      go_wp2_with fail
      go_ret
      exact ⟨rb HLB.out, hW.out⟩
end Go.Proofs.Ytackfigkhjdidaa
