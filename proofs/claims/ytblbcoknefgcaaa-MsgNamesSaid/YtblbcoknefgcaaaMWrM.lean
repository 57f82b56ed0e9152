/-
  The program's writer: its methods. No statement is proved here. No condition.
-/
import Derived.Test.YtblbcoknefgcaaaMWr
namespace Go.Proofs.Ytblbcoknefgcaaa
open Go.RowKit

/-- what Count writes of any number -/
def cv (n : Int) : List UInt8 := if n < 0 ∨ 2147483647 < n then [] else uv n.toNat
theorem cv_in {n : Int} (h0 : 0 ≤ n) (h1 : n ≤ 2147483647) : cv n = uv n.toNat := by unfold cv; rw [if_neg (by omega)]
theorem count_nil (n : Int) (w : World) : Calls Try.prog 154 #[.slice none 0 0, .int .i64 n] w fun e w' => ∃ v', e = .returned v' ∧ w'.ownsRow w.heap.size 5 1 v' (cv n).length (BS (cv n)) ∧ Below w.heap.size w w' := by
  by_cases h : n < 0 ∨ 2147483647 < n
  · have e : cv n = [] := by unfold cv; rw [if_pos h]
    rw [e]
    exact count_no [] _ n w (Rd.nil _ _) h (by simp)
  · have e : cv n = uv n.toNat := by unfold cv; rw [if_neg h]
    rw [e]
    have := count_any [] (.slice none 0 0) n w (Rd.nil _ _) (by omega) (by omega) (by simp)
    simpa using this
theorem num_nil (n : Int) (w : World) (hn : I64 n) : Calls Try.prog 155 #[.slice none 0 0, .int .i64 n] w fun e w' => ∃ v', e = .returned v' ∧ w'.ownsRow w.heap.size 5 1 v' (uv (zz n)).length (BS (uv (zz n))) ∧ Below w.heap.size w w' := by
  have := num_any [] (.slice none 0 0) n w (Rd.nil _ _) hn (by simp)
  simpa using this
theorem flag_nil (t : Bool) (w : World) : Calls Try.prog 153 #[.slice none 0 0, .bool t] w fun e w' => ∃ v', e = .returned v' ∧ w'.ownsRow w.heap.size 5 1 v' (fv t).length (BS (fv t)) ∧ Below w.heap.size w w' := by
  have := flag_any [] (.slice none 0 0) t w (Rd.nil _ _) (by simp)
  simpa using this
theorem str_nil (s : ByteArray) (w : World) (hs : s.size ≤ 8192) : Calls Try.prog 156 #[.slice none 0 0, .string s] w fun e w' => ∃ v', e = .returned v' ∧ w'.ownsRow w.heap.size 5 1 v' (tv s.data.toList).length (BS (tv s.data.toList)) ∧ Below w.heap.size w w' := by
  have := str_any [] (.slice none 0 0) s w (Rd.nil _ _) (by omega) (by simp; omega)
  simpa using this
theorem cv_short (n : Int) : (cv n).length ≤ 10 := by
  unfold cv
  split
  · simp
  · exact uv_length64 _ (by unfold U64; omega)
set_option maxHeartbeats 1000000 in
set_option maxRecDepth 100000 in
theorem wr_kind (B k b o : Nat) (s : WS) (n : Int) (hn : 0 ≤ n ∧ n ≤ 255) (w : World) (h : WrP w B k s) (hc : w.cell? ⟨b, o, none⟩ = some (.int .u8 n)) :
    Calls Try.prog 147 #[.pointer (some ⟨k, 0, none⟩), .pointer (some ⟨b, o, none⟩)] w fun e w' => e = .returned (.tuple #[]) ∧ WrP w' B k (wput s (cv n)) ∧ Wrote B k w w' := by
  have H := Lib.hid h
  have cC := count_nil n w
  clear h
  go_enter Try.func147, Try.ntmps147
  go_wp2_with fail
  refine cC.mono ?_
  rintro e w1 ⟨v1, rfl, ho1, hb1⟩
  have hlen : (cv n).length ≤ 140737488340000 := Nat.le_trans (cv_short n) (by decide)
  have cP := wr_put B k s (cv n) v1 w1 (H.out.below hb1) (Rd.own ho1) hlen
  have HB := Lib.hid hb1
  clear hb1 ho1 cC hc hlen
  go_wp2_with fail
  refine cP.mono ?_
  rintro e w2 ⟨rfl, hp2, hw2⟩
  have HF := Lib.hid (And.intro hp2 ((Wrote.of_below HB.out).trans hw2))
  clear hp2 hw2 cP
  go_wp2_with fail
  go_end0
  exact ⟨rfl, HF.out.1, HF.out.2⟩
set_option maxHeartbeats 1000000 in
set_option maxRecDepth 100000 in
theorem wr_num (B k b o : Nat) (s : WS) (n : Int) (hn : I64 n) (w : World) (h : WrP w B k s) (hc : w.cell? ⟨b, o, none⟩ = some (.int .i64 n)) :
    Calls Try.prog 149 #[.pointer (some ⟨k, 0, none⟩), .pointer (some ⟨b, o, none⟩)] w fun e w' => e = .returned (.tuple #[]) ∧ WrP w' B k (wput s (uv (zz n))) ∧ Wrote B k w w' := by
  have H := Lib.hid h
  have cC := num_nil n w hn
  clear h
  go_enter Try.func149, Try.ntmps149
  go_wp2_with fail
  refine cC.mono ?_
  rintro e w1 ⟨v1, rfl, ho1, hb1⟩
  have hlen : (uv (zz n)).length ≤ 140737488340000 := Nat.le_trans (uv_length64 _ (zz_fits n hn)) (by decide)
  have cP := wr_put B k s (uv (zz n)) v1 w1 (H.out.below hb1) (Rd.own ho1) hlen
  have HB := Lib.hid hb1
  clear hb1 ho1 cC hc hlen
  go_wp2_with fail
  refine cP.mono ?_
  rintro e w2 ⟨rfl, hp2, hw2⟩
  have HF := Lib.hid (And.intro hp2 ((Wrote.of_below HB.out).trans hw2))
  clear hp2 hw2 cP
  go_wp2_with fail
  go_end0
  exact ⟨rfl, HF.out.1, HF.out.2⟩
set_option maxHeartbeats 1000000 in
set_option maxRecDepth 100000 in
theorem wr_flag (B k b o : Nat) (s : WS) (t : Bool) (w : World) (h : WrP w B k s) (hc : w.cell? ⟨b, o, none⟩ = some (.bool t)) :
    Calls Try.prog 146 #[.pointer (some ⟨k, 0, none⟩), .pointer (some ⟨b, o, none⟩)] w fun e w' => e = .returned (.tuple #[]) ∧ WrP w' B k (wput s (fv t)) ∧ Wrote B k w w' := by
  have H := Lib.hid h
  have cC := flag_nil t w
  clear h
  go_enter Try.func146, Try.ntmps146
  go_wp2_with fail
  refine cC.mono ?_
  rintro e w1 ⟨v1, rfl, ho1, hb1⟩
  have hlen : (fv t).length ≤ 140737488340000 := by simp [fv]
  have cP := wr_put B k s (fv t) v1 w1 (H.out.below hb1) (Rd.own ho1) hlen
  have HB := Lib.hid hb1
  clear hb1 ho1 cC hc hlen
  go_wp2_with fail
  refine cP.mono ?_
  rintro e w2 ⟨rfl, hp2, hw2⟩
  have HF := Lib.hid (And.intro hp2 ((Wrote.of_below HB.out).trans hw2))
  clear hp2 hw2 cP
  go_wp2_with fail
  go_end0
  exact ⟨rfl, HF.out.1, HF.out.2⟩
theorem wput_long {s : WS} {x : List UInt8} (h : 8192 < x.length) : wput s x = (s.1, true) := by unfold wput; rw [if_pos (.inr (by omega))]
theorem tv_long {t : ByteArray} (h : 8192 < t.size) : 8192 < (tv t.data.toList).length := by unfold tv; rw [List.length_append]; simp; omega
set_option maxHeartbeats 1000000 in
set_option maxRecDepth 100000 in
theorem wr_text (B k b o : Nat) (s : WS) (t : ByteArray) (w : World) (h : WrP w B k s) (hc : w.cell? ⟨b, o, none⟩ = some (.string t)) :
    Calls Try.prog 151 #[.pointer (some ⟨k, 0, none⟩), .pointer (some ⟨b, o, none⟩)] w fun e w' => e = .returned (.tuple #[]) ∧ WrP w' B k (wput s (tv t.data.toList)) ∧ Wrote B k w w' := by
  by_cases hl : 8192 < t.size
  · have a1 : (8192 : Int) < (t.size : Int) := by omega
    obtain ⟨v, hk, ho⟩ := h.ex
    have f1 : w.frozen? ⟨k, 1, none⟩ = false := (blk_cells hk).2 1
    have c1 : w.cell? ⟨k, 1, none⟩ = some (.bool s.2) := (blk_cells hk).1 1
    have hset : (w.setCell ⟨k, 1, none⟩ (.bool true)).heap[k]? = some (.cells #[v, .bool true] 70 (0, 0)) := by rw [Joins.block_setCell hk _]; rfl
    have far : ∀ n, n ≠ k → (w.setCell ⟨k, 1, none⟩ (.bool true)).heap[n]? = w.heap[n]? := fun n hn => Below.heap_setCell w ⟨k, 1, none⟩ _ n hn
    have HF : Hid (WrP (w.setCell ⟨k, 1, none⟩ (.bool true)) B k (wput s (tv t.data.toList)) ∧ Wrote B k w (w.setCell ⟨k, 1, none⟩ (.bool true))) := Lib.hid ⟨by
      rw [wput_long (tv_long hl)]
      refine ⟨⟨v, hset, row_same ho fun n hn => far n fun e => ?_⟩, h.len, h.kB, by simp only [World.setCell, Array.size_modify]; exact h.sB⟩
      subst e
      obtain ⟨cur, hc⟩ := row_type ho hn
      exact apart_T hc hk (by decide) rfl, ⟨rfl, rfl, rfl, by simp [World.setCell], fun n _ hn _ => far n hn⟩⟩
    clear h hk ho hset far
    go_enter Try.func151, Try.ntmps151
    go_wp2_with fail
    refine bodyPost_ret (v := .tuple #[]) (results_none (by rfl) _ _ _) rfl ?_
    exact ⟨rfl, HF.out.1, HF.out.2⟩
  · have a1 : ¬ (8192 : Int) < (t.size : Int) := by omega
    have H := Lib.hid h
    have cC := str_nil t w (by omega)
    have HL := Lib.hid hl
    clear h hl
    go_enter Try.func151, Try.ntmps151
    go_wp2_with fail
    refine cC.mono ?_
    rintro e w1 ⟨v1, rfl, ho1, hb1⟩
    have hlen : (tv t.data.toList).length ≤ 140737488340000 := by
      have h1 := uv_length64 t.size (by unfold U64; have := HL.out; omega)
      unfold tv
      rw [List.length_append]
      have h2 : t.data.toList.length = t.size := by simp
      rw [h2]
      have := HL.out
      omega
    have cP := wr_put B k s (tv t.data.toList) v1 w1 (H.out.below hb1) (Rd.own ho1) hlen
    have HB := Lib.hid hb1
    clear hb1 ho1 cC hc hlen
    go_wp2_with fail
    refine cP.mono ?_
    rintro e w2 ⟨rfl, hp2, hw2⟩
    have HF := Lib.hid (And.intro hp2 ((Wrote.of_below HB.out).trans hw2))
    clear hp2 hw2 cP
    go_wp2_with fail
    go_end0
    exact ⟨rfl, HF.out.1, HF.out.2⟩
set_option maxHeartbeats 1000000 in
set_option maxRecDepth 100000 in
theorem wr_many (B k : Nat) (s : WS) (n : Int) (w : World) (h : WrP w B k s) :
    Calls Try.prog 148 #[.pointer (some ⟨k, 0, none⟩), .int .i64 n] w fun e w' => e = .returned (.int .i64 n) ∧ WrP w' B k (wput s (cv n)) ∧ Wrote B k w w' := by
  have H := Lib.hid h
  have cC := count_nil n w
  clear h
  go_enter Try.func148, Try.ntmps148
  go_wp2_with fail
  refine cC.mono ?_
  rintro e w1 ⟨v1, rfl, ho1, hb1⟩
  have cP := wr_put B k s (cv n) v1 w1 (H.out.below hb1) (Rd.own ho1) (Nat.le_trans (cv_short n) (by decide))
  have HB := Lib.hid hb1
  clear hb1 ho1 cC
  go_wp2_with fail
  refine cP.mono ?_
  rintro e w2 ⟨rfl, hp2, hw2⟩
  have HF := Lib.hid (And.intro hp2 ((Wrote.of_below HB.out).trans hw2))
  clear hp2 hw2 cP
  go_wp2_with fail
  go_ret
  exact ⟨rfl, HF.out.1, HF.out.2⟩
set_option maxRecDepth 100000 in
theorem wr_stopped (B k : Nat) (s : WS) (w : World) (h : WrP w B k s) :
    Calls Try.prog 150 #[.pointer (some ⟨k, 0, none⟩)] w fun e w' => e = .returned (.bool s.2) ∧ w' = w := by
  obtain ⟨v, hk, ho⟩ := h.ex
  have c1 : w.cell? ⟨k, 1, none⟩ = some (.bool s.2) := (blk_cells hk).1 1
  clear h hk ho
  go_enter Try.func150, Try.ntmps150
  go_wp2_with fail
  go_ret
  exact ⟨rfl, rfl⟩
end Go.Proofs.Ytblbcoknefgcaaa
