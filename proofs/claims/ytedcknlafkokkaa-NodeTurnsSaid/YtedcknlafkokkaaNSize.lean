/-
  How many bytes things have: the program's. No statement is proved here. No condition.
-/
import Derived.Test.YtedcknlafkokkaaNChk
namespace Go.Proofs.Ytedcknlafkokkaa
open Go.RowKit

theorem wrapS (z : Int) (h0 : 0 ≤ z) (h1 : z < 9223372036854775808) : IntKind.i64.wrap z = z := by rw [IntKind.wrap_i64]; omega
theorem wrapT (z : Int) (h0 : 0 ≤ z) (h1 : z < 9223372036854775808) : wrap64 z = z := by unfold wrap64; omega
/-- a count as bytes -/
def cnt (n : Int) : List UInt8 := if 0 ≤ n ∧ n ≤ 2147483647 then uv n.toNat else []
theorem cnt_length (n : Int) : (cnt n).length ≤ 10 := by
  unfold cnt
  split
  · exact uv_length64 _ (by unfold U64; omega)
  · simp
theorem cnt_nat {n : Nat} (h : n ≤ 2147483647) : cnt (n : Int) = uv n := by
  unfold cnt
  rw [if_pos (by omega)]
  simp
theorem count_cnt (l : List UInt8) (v : Value) (n : Int) (w : World) (hr : Rd w w.heap.size v l) (hl : l.length ≤ 140737488355318) :
    Calls Try.prog 33 #[v, .int .i64 n] w fun e w' => ∃ v', e = .returned v' ∧ w'.ownsRow w.heap.size 5 1 v' (l ++ cnt n).length (BS (l ++ cnt n)) ∧ Below w.heap.size w w' := by
  unfold cnt
  by_cases h : 0 ≤ n ∧ n ≤ 2147483647
  · rw [if_pos h]
    exact count_any l v n w hr h.1 h.2 hl
  · rw [if_neg h, List.append_nil]
    exact count_no l v n w hr (by omega) hl
theorem countsize_any (n : Int) (w : World) :
    Calls Try.prog 40 #[.int .i64 n] w fun e w' => e = .returned (.int .i64 ((cnt n).length : Int)) ∧ Below w.heap.size w w' := by
  go_enter Try.func40, Try.ntmps40
  go_wp2_with fail
  refine (count_cnt [] (.slice none 0 0) n _ (Rd.nil _ _) (by simp)).mono ?_
  rintro e w1 ⟨v1, rfl, ho, hb⟩
  obtain ⟨A, c, hv, -⟩ := Rd.own ho
  rw [List.nil_append] at hv
  subst hv
  clear ho
  go_wp2_with fail
  go_ret
  exact ⟨rfl, hb⟩
/-- a text as bytes -/
def tx (s : ByteArray) : List UInt8 := cnt (s.size : Int) ++ s.data.toList
theorem tx_length (s : ByteArray) : (tx s).length = (cnt (s.size : Int)).length + s.size := by simp [tx]
theorem textsize_any (s : ByteArray) (w : World) (hs : s.size ≤ 1000000) :
    Calls Try.prog 67 #[.string s] w fun e w' => e = .returned (.int .i64 ((tx s).length : Int)) ∧ Below w.heap.size w w' := by
  have hc := cnt_length (s.size : Int)
  go_enter Try.func67, Try.ntmps67
  go_wp2_with fail
  refine (countsize_any _ _).mono ?_
  rintro e w1 ⟨rfl, hb⟩
  go_wp2_with fail
  go_ret
  refine ⟨ret_int ?_, hb⟩
  rw [tx_length]
  try unfold wrap64
  omega
theorem headsize_any (n : Int) (w : World) :
    Calls Try.prog 38 #[.int .i64 n] w fun e w' => e = .returned (.int .i64 (((1 + (cnt n).length : Nat)) : Int)) ∧ Below w.heap.size w w' := by
  have hc := cnt_length n
  go_enter Try.func38, Try.ntmps38
  go_wp2_with fail
  refine (countsize_any _ _).mono ?_
  rintro e w1 ⟨rfl, hb⟩
  go_wp2_with fail
  go_ret
  refine ⟨ret_int ?_, hb⟩
  try unfold wrap64
  omega
/-- a cell as bytes -/
def PC.by (leaf : Bool) (c : PC) : List UInt8 := tx c.key ++ (if leaf then (if c.long = 0 then cnt 0 ++ tx c.val else cnt c.long ++ cnt c.size) else [])
def PC.small (c : PC) : Prop := c.key.size ≤ 10000 ∧ c.val.size ≤ 10000
theorem PC.by_length (leaf : Bool) {c : PC} (h : c.small) : (c.by leaf).length ≤ 21000 := by
  obtain ⟨h1, h2⟩ := h
  have a := cnt_length (c.key.size : Int)
  have b := cnt_length (c.val.size : Int)
  have d := cnt_length c.long
  have e := cnt_length c.size
  have f := cnt_length 0
  unfold PC.by
  cases leaf <;> by_cases hl : c.long = 0 <;> simp [hl, tx_length] <;> omega
set_option maxRecDepth 100000 in
theorem cellsize_any (c : PC) (leaf : Bool) (w : World) (hs : c.small) :
    Calls Try.prog 39 #[c.agg, .bool leaf] w fun e w' => e = .returned (.int .i64 ((c.by leaf).length : Int)) ∧ Below w.heap.size w w' := by
  obtain ⟨key, val, long, size⟩ := c
  obtain ⟨h1, h2⟩ := hs
  dsimp only at h1 h2
  have a := cnt_length (key.size : Int)
  have b := cnt_length (val.size : Int)
  have d := cnt_length long
  have e := cnt_length size
  have f := cnt_length 0
  have g1 := tx_length key
  have g2 := tx_length val
  have hb : Below w.heap.size w (w.alloc (.cells #[.string key, .string val, .int .i64 long, .int .i64 size] 59)) := (Below.refl _ _).alloc (Nat.le_refl _) _
  have hx : (w.alloc (.cells #[.string key, .string val, .int .i64 long, .int .i64 size] 59)).heap[w.heap.size]? = some (.cells #[.string key, .string val, .int .i64 long, .int .i64 size] 59 (0, 0)) := heap_alloc_new w _
  unfold PC.agg
  go_enter Try.func39, Try.ntmps39
  obtain ⟨w1, hw1⟩ : ∃ w1, w1 = w.alloc (.cells #[.string key, .string val, .int .i64 long, .int .i64 size] 59) := ⟨_, rfl⟩
  rw [← hw1] at hb hx
  go_wp2_with fail
  refine (textsize_any key _ (by omega)).mono ?_
  rintro e w2 ⟨rfl, hb2⟩
  rw [← hw1] at hb2
  have hb2' : Below w.heap.size w w2 := hb.trans (Joins.below_le hb2 hb.size)
  have hx2 := (hb2.block _ (boxed hx)).trans hx
  cases leaf with
  | false =>
    go_wp2_with fail
    go_ret
    refine ⟨ret_int ?_, hb2'⟩
    simp [PC.by, g1]
  | true =>
    have c1 : w2.cell? ⟨w.heap.size, 1, none⟩ = some (.string val) := (row_cells hx2).1 1
    have c2 : w2.cell? ⟨w.heap.size, 2, none⟩ = some (.int .i64 long) := (row_cells hx2).1 2
    have c3 : w2.cell? ⟨w.heap.size, 3, none⟩ = some (.int .i64 size) := (row_cells hx2).1 3
    have hk : ∀ W, Below w2.drew.heap.size w2.drew W → W.cell? ⟨w.heap.size, 1, none⟩ = some (.string val) ∧ W.cell? ⟨w.heap.size, 2, none⟩ = some (.int .i64 long) ∧ W.cell? ⟨w.heap.size, 3, none⟩ = some (.int .i64 size) := fun W hW => by
      have hW' := (Below.refl w2.heap.size w2).drew.trans hW
      have hl := boxed hx2
      exact ⟨(hW'.cell (p := ⟨w.heap.size, 1, none⟩) hl).trans c1, (hW'.cell (p := ⟨w.heap.size, 2, none⟩) hl).trans c2, (hW'.cell (p := ⟨w.heap.size, 3, none⟩) hl).trans c3⟩
    have HK := Lib.hid hk
    have hst := hk _ (Below.refl _ _)
    have hbe : Below w2.drew.heap.size w2.drew w2.drew := Below.refl _ _
    clear hk hx hx2
    by_cases hl : long = 0
    · subst hl
      go_upto_region 5 with fail
      clear c1 c2 c3
      go_region_held3 (fun w' => w'.cell? ⟨w.heap.size, 1, none⟩ = some (.string val) ∧ w'.cell? ⟨w.heap.size, 2, none⟩ = some (.int .i64 0) ∧ w'.cell? ⟨w.heap.size, 3, none⟩ = some (.int .i64 size)) (first | exact hst | exact HK.out _ hbe)
        (first
          | (go_at_call 40; refine (countsize_any 0 _).mono ?_; rintro e wy ⟨rfl, hby⟩; replace hbe := hbe.trans (Joins.below_le hby hbe.size))
          | (go_at_call 67; refine (textsize_any val _ (by omega)).mono ?_; rintro e wy ⟨rfl, hby⟩; replace hbe := hbe.trans (Joins.below_le hby hbe.size)))
      all_goals
        have hbf : Below w.heap.size w _ := hb2'.trans (Joins.below_le ((Below.refl w2.heap.size w2).drew.trans hbe) hb2'.size)
        go_wp2_with fail
        go_ret
        refine ⟨ret_int ?_, hbf⟩
        simp [PC.by, g1, g2]
        try simp (disch := omega) only [wrapS]
        try omega
    · go_upto_region 6 with fail
      clear c1 c2 c3
      go_region_held3 (fun w' => w'.cell? ⟨w.heap.size, 1, none⟩ = some (.string val) ∧ w'.cell? ⟨w.heap.size, 2, none⟩ = some (.int .i64 long) ∧ w'.cell? ⟨w.heap.size, 3, none⟩ = some (.int .i64 size)) (first | exact hst | exact HK.out _ hbe)
        (first
          | (go_at_call 40; refine (countsize_any long _).mono ?_; rintro e wy ⟨rfl, hby⟩; replace hbe := hbe.trans (Joins.below_le hby hbe.size))
          | (go_at_call 40; refine (countsize_any size _).mono ?_; rintro e wy ⟨rfl, hby⟩; replace hbe := hbe.trans (Joins.below_le hby hbe.size)))
      all_goals
        have hbf : Below w.heap.size w _ := hb2'.trans (Joins.below_le ((Below.refl w2.heap.size w2).drew.trans hbe) hb2'.size)
        go_wp2_with fail
        go_ret
        refine ⟨ret_int ?_, hbf⟩
        simp [PC.by, hl, g1]
        try simp (disch := omega) only [wrapS]
        try omega
end Go.Proofs.Ytedcknlafkokkaa
