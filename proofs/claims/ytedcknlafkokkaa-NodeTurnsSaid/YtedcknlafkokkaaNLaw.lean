/-
  The law's helper 'large'; the document's Same. No statement is proved here. No condition.
-/
import Derived.Test.YtedcknlafkokkaaNFind
namespace Go.Proofs.Ytedcknlafkokkaa
open Go.RowKit

theorem wrapS' (z : Int) (h0 : 0 ≤ z) (h1 : z < 9223372036854775808) : IntKind.i64.wrap z = z := by rw [IntKind.wrap_i64]; omega
/-- what a statement looks at: how much there is -/
def bulk (l : List PC) : Nat := (l.map fun c => c.key.size + c.val.size).sum
def PN.large (n : PN) : Bool := decide (8000 < n.cells.length + n.kids.length + bulk (n.cells.take 200)) || (decide (100 < n.cells.length) || decide (100 < n.kids.length))
theorem bulk_snoc {l : List PC} {i : Nat} {c : PC} (h : l[i]? = some c) : bulk (l.take (i + 1)) = bulk (l.take i) + (c.key.size + c.val.size) := by
  unfold bulk
  rw [List.take_add_one, h, List.map_append, List.sum_append]
  simp
theorem bulk_le {l : List PC} {c : PC} (h : c ∈ l) : c.key.size + c.val.size ≤ bulk l := by
  induction l with
  | nil => simp at h
  | cons d l ih =>
    have e : bulk (d :: l) = (d.key.size + d.val.size) + bulk l := by simp [bulk]
    rw [e]
    rcases List.mem_cons.1 h with rfl | h
    · omega
    · have := ih h; omega
theorem large_no {n : PN} (h : n.large = false) : n.small := by
  unfold PN.large at h
  rw [Bool.or_eq_false_iff, Bool.or_eq_false_iff] at h
  obtain ⟨h1, h2, h3⟩ := h
  have h1 := of_decide_eq_false h1
  have h2 := of_decide_eq_false h2
  have h3 := of_decide_eq_false h3
  rw [List.take_of_length_le (by omega)] at h1
  exact ⟨by omega, by omega, fun c hc => by have := bulk_le hc; exact ⟨by omega, by omega⟩⟩
theorem bulk_bound {l : List PC} (h : ∀ c ∈ l, c.key.size ≤ 140737488355328 ∧ c.val.size ≤ 140737488355328) : bulk l ≤ l.length * 281474976710656 := by
  induction l with
  | nil => simp [bulk]
  | cons d l ih =>
    have e : bulk (d :: l) = (d.key.size + d.val.size) + bulk l := by simp [bulk]
    have h1 := h d (by simp)
    have h2 := ih (fun c hc => h c (by simp [hc]))
    rw [e, List.length_cons]
    omega
set_option maxHeartbeats 2000000 in
set_option maxRecDepth 100000 in
theorem large_any (n : PN) (v : Value) (w : World) (h : NodeN w Any v n) (hs : ∀ c ∈ n.cells, c.key.size ≤ 140737488355328 ∧ c.val.size ≤ 140737488355328) (hl : n.cells.length ≤ 140737488355328) (hk : n.kids.length ≤ 140737488355328) :
    Calls Try.prog 8 #[v] w fun e w' => e = .returned (.bool n.large) ∧ Below w.heap.size w w' := by
  obtain ⟨vc, vk, rfl, hc, hk'⟩ := h
  obtain ⟨Ac, cc, rfl, -, -⟩ := hc.slice
  obtain ⟨Ak, ck, rfl, -, -⟩ := hk'.slice
  have HC := Lib.hid hc
  have HS := Lib.hid hs
  obtain ⟨w1, hw1⟩ : ∃ w1, w1 = w.alloc (.cells #[.bool n.leaf, .slice Ac n.cells.length cc, .slice Ak n.kids.length ck] 25) := ⟨_, rfl⟩
  have hb1 : Below w.heap.size w w1 := by rw [hw1]; exact (Below.refl _ _).alloc (Nat.le_refl _) _
  have hx1 : w1.heap[w.heap.size]? = some (.cells #[.bool n.leaf, .slice Ac n.cells.length cc, .slice Ak n.kids.length ck] 25 (0, 0)) := by rw [hw1]; exact heap_alloc_new w _
  have HB1 := Lib.hid hb1
  have HX1 := Lib.hid hx1
  have HW1 := Lib.hid hw1
  have hL : n.large = (decide (8000 < n.cells.length + n.kids.length + bulk (n.cells.take 200)) || (decide (100 < n.cells.length) || decide (100 < n.kids.length))) := rfl
  have HL := Lib.hid hL
  obtain ⟨T, hT⟩ : ∃ T, T = n.large := ⟨_, rfl⟩
  rw [← hT]
  have HT := Lib.hid hT
  clear hc hk' hs hb1 hx1 hw1 hL hT
  have x1 : w1.cell? ⟨w.heap.size, 1, none⟩ = some (.slice Ac n.cells.length cc) := (row_cells HX1.out).1 1
  have x2 : w1.cell? ⟨w.heap.size, 2, none⟩ = some (.slice Ak n.kids.length ck) := (row_cells HX1.out).1 2
  go_enter Try.func8, Try.ntmps8
  go_upto_region 1 with fail
  rw [← HW1.out]
  go_wp2_with fail
  go_loopw [3, 4] (fun s3 s4 wr => ∃ i : Nat, s4 = .int .i64 (i : Int) ∧ i ≤ n.cells.length ∧ i ≤ 200 ∧ s3 = .int .i64 ((n.cells.length + n.kids.length + bulk (n.cells.take i) : Nat) : Int) ∧ Hid (wr.heap[w.heap.size]? = some (.cells #[.bool n.leaf, .slice Ac n.cells.length cc, .slice Ak n.kids.length ck] 25 (0, 0))) ∧ Hid (Below w.heap.size w wr)) (fun _ s4 _ => n.cells.length - (intOf s4).toNat)
  case atStart => exact ⟨0, rfl, Nat.zero_le _, Nat.zero_le _, by simp [bulk], HX1, HB1⟩
  case round =>
    obtain ⟨i, rfl, hi, hi2, rfl, hx, hbw⟩ := hrel
    obtain ⟨wz, hwz⟩ : ∃ wz : World, wz = wr := ⟨_, rfl⟩
    subst hwz
    have y1 : wz.cell? ⟨w.heap.size, 1, none⟩ = some (.slice Ac n.cells.length cc) := (row_cells hx.out).1 1
    have y2 : wz.cell? ⟨w.heap.size, 2, none⟩ = some (.slice Ak n.kids.length ck) := (row_cells hx.out).1 2
    have hbb := bulk_bound (l := n.cells.take i) (fun c hc => HS.out c (List.mem_of_mem_take hc))
    rw [List.length_take, Nat.min_eq_left hi] at hbb
    obtain ⟨q, hq⟩ : ∃ q, q = bulk (n.cells.take i) := ⟨_, rfl⟩
    rw [← hq] at hbb ⊢
    have HQ := Lib.hid hq
    clear hq
    by_cases hgo : i < n.cells.length ∧ i < 200
    · obtain ⟨hil, hi3⟩ := hgo
      have a1 : (i : Int) < (n.cells.length : Int) := by omega
      have a2 : (i : Int) < 200 := by omega
      have a0 : (0 : Int) ≤ (i : Int) := by omega
      obtain ⟨c, hci⟩ : ∃ c, n.cells[i]? = some c := ⟨_, List.getElem?_eq_getElem hil⟩
      have hcs := HS.out c (List.mem_of_getElem? hci)
      have hbz := hbw.out
      obtain ⟨b, o, n', k', hv, -, hbs, c0, c1, c2, c3⟩ := (HC.out.grow hbz).cell hci
      injection hv with e1 e2 e3
      subst e1 e2 e3
      have hnew : bulk (n.cells.take (i + 1)) = q + (c.key.size + c.val.size) := by rw [bulk_snoc hci, HQ.out]
      have HN := Lib.hid hnew
      have hws : IntKind.i64.wrap ((n.cells.length : Int) + (n.kids.length : Int) + (q : Int) + (c.key.size : Int)) = (n.cells.length : Int) + (n.kids.length : Int) + (q : Int) + (c.key.size : Int) := wrapS' _ (by omega) (by omega)
      have hws2 : IntKind.i64.wrap ((n.cells.length : Int) + (n.kids.length : Int) + (q : Int) + (c.key.size : Int) + (c.val.size : Int)) = (n.cells.length : Int) + (n.kids.length : Int) + (q : Int) + (c.key.size : Int) + (c.val.size : Int) := wrapS' _ (by omega) (by omega)
      clear hnew hbz hci c2 c3
      go_upto_region 5 with fail
      go_quiet (fail)
      go_wp2_with fail
      exact ⟨⟨i + 1, by go_num, hil, by omega, by rw [HN.out]; apply congrArg; omega, Lib.hid hx.out, Lib.hid (below_drewN hbw.out _)⟩, by simp [intOf]; omega⟩
    · have hfin : bulk (n.cells.take 200) = q := by
        rw [HQ.out]
        by_cases h2 : i < n.cells.length
        · rw [show i = 200 by omega]
        · rw [List.take_of_length_le (by omega), List.take_of_length_le (by omega)]
      have hLq := HL.out
      rw [hfin] at hLq
      have HLQ := Lib.hid hLq
      clear hfin hLq
      by_cases g1 : 8000 < n.cells.length + n.kids.length + q
      · have b1 : (8000 : Int) < (n.cells.length : Int) + (n.kids.length : Int) + (q : Int) := by omega
        have ht : T = true := by rw [HT.out, HLQ.out, decide_eq_true g1]; rfl
        have HTT := Lib.hid ht
        clear ht
        by_cases h2 : i < n.cells.length
        · have a1 : (i : Int) < (n.cells.length : Int) := by omega
          have a2 : ¬ (i : Int) < 200 := by omega
          go_wp2_with fail
          go_ret
          exact ⟨ret_bool (by rw [HTT.out]), hbw.out⟩
        · have a1 : ¬ (i : Int) < (n.cells.length : Int) := by omega
          go_wp2_with fail
          go_ret
          exact ⟨ret_bool (by rw [HTT.out]), hbw.out⟩
      · have b1 : ¬ (8000 : Int) < (n.cells.length : Int) + (n.kids.length : Int) + (q : Int) := by omega
        by_cases g2 : 100 < n.cells.length
        · have b2 : (100 : Int) < (n.cells.length : Int) := by omega
          have ht : T = true := by rw [HT.out, HLQ.out, decide_eq_false g1, decide_eq_true g2]; rfl
          have HTT := Lib.hid ht
          clear ht
          by_cases h2 : i < n.cells.length
          · have a1 : (i : Int) < (n.cells.length : Int) := by omega
            have a2 : ¬ (i : Int) < 200 := by omega
            go_wp2_with fail
            go_ret
            exact ⟨ret_bool (by rw [HTT.out]), hbw.out⟩
          · have a1 : ¬ (i : Int) < (n.cells.length : Int) := by omega
            go_wp2_with fail
            go_ret
            exact ⟨ret_bool (by rw [HTT.out]), hbw.out⟩
        · have b2 : ¬ (100 : Int) < (n.cells.length : Int) := by omega
          have a1 : ¬ (i : Int) < (n.cells.length : Int) := by omega
          have ht : T = decide (100 < n.kids.length) := by rw [HT.out, HLQ.out, decide_eq_false g1, decide_eq_false g2]; rfl
          have HTT := Lib.hid ht
          clear ht
          by_cases g3 : 100 < n.kids.length
          · have b3 : (100 : Int) < (n.kids.length : Int) := by omega
            go_wp2_with fail
            go_ret
            exact ⟨ret_bool (by rw [HTT.out]; simp [g3]), hbw.out⟩
          · have b3 : ¬ (100 : Int) < (n.kids.length : Int) := by omega
            go_wp2_with fail
            go_ret
            exact ⟨ret_bool (by rw [HTT.out]; simp; omega), hbw.out⟩
end Go.Proofs.Ytedcknlafkokkaa
