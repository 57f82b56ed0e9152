/-
  The document's packet of a part (package butteryref11). No statement is proved here. No condition.
-/
import Derived.Test.YtfmaocinckeagaaDoorQCut
import Derived.Test.YtfmaocinckeagaaDoorRef
import Derived.Test.YtfmaocinckeagaaDoorFrameRef
namespace Go.Proofs.YtfmaocinckeagaaDoor
open Go.RowKit

/-- a count's bytes, or none -/
def cb (n : Int) : List UInt8 := if 0 ≤ n ∧ n ≤ 2147483647 then uv n.toNat else []
theorem cb_length (n : Int) : (cb n).length ≤ 10 := by
  unfold cb
  split
  · exact uv_length64 _ (by unfold U64; omega)
  · exact Nat.zero_le _
theorem cb_nat {n : Nat} (h : n ≤ 2147483647) : cb (n : Int) = uv n := by unfold cb; rw [if_pos ⟨by omega, by omega⟩]; rfl
/-- the document's packet, of any numbers -/
def xpkt (n p m : Int) (d : List UInt8) : List UInt8 := frame 1 (cb n ++ cb p ++ cb m ++ tv d)
theorem xpkt_nat {n p m : Nat} {d : List UInt8} (hn : n ≤ 2147483647) (hp : p ≤ 2147483647) (hm : m ≤ 2147483647) : xpkt n p m d = pkt n p m d := by unfold xpkt pkt pbody; rw [cb_nat hn, cb_nat hp, cb_nat hm]
theorem xc_any (l : List UInt8) (b : Value) (n : Int) (w : World) (hb : Rd w w.heap.size b l) (hl : l.length ≤ 140737488355318) :
    Calls Tryd.prog 28 #[b, .int .i64 n] w fun e w' => ∃ v', e = .returned v' ∧ w'.ownsRow w.heap.size 5 1 v' (l ++ cb n).length (BS (l ++ cb n)) ∧ Below w.heap.size w w' := by
  by_cases h : 0 ≤ n ∧ n ≤ 2147483647
  · unfold cb
    rw [if_pos h]
    exact xcount_any l b n w hb h.1 h.2 hl
  · unfold cb
    rw [if_neg h, List.append_nil]
    exact xcount_no l b n w hb (by omega) hl
set_option maxHeartbeats 2000000 in
set_option maxRecDepth 100000 in
theorem refpacket_any (n p m : Int) (d : List UInt8) (w : World) (hd : d.length ≤ 8000) :
    Calls Tryd.prog 15 #[.int .i64 n, .int .i64 p, .int .i64 m, .string (tx d)] w fun e w' => ∃ v k, e = .returned v ∧ w'.ownsRow w.heap.size 5 1 v k (BS (xpkt n p m d)) ∧ Below w.heap.size w w' := by
  have h1 := cb_length n
  have h2 := cb_length p
  have h3 := cb_length m
  have h4 := uv_length64 d.length (by unfold U64; omega)
  have hlen : (cb n ++ cb p ++ cb m ++ tv d).length ≤ 8192 := by unfold tv; simp only [List.length_append]; omega
  have hsl : sealedOf 1 (cb n ++ cb p ++ cb m ++ tv d) = (0, xpkt n p m d) := by unfold sealedOf; rw [if_neg (by omega)]; rfl
  obtain ⟨BD, hBD⟩ : ∃ BD, BD = cb n ++ cb p ++ cb m ++ tv d := ⟨_, rfl⟩
  rw [← hBD] at hlen hsl
  have HSL := Lib.hid hsl
  have HBD := Lib.hid hBD
  clear hsl hBD
  go_enter Tryd.func15, Tryd.ntmps15
  go_wp2_with fail
  refine (xc_any [] _ n _ (Rd.nil _ _) (by simp)).mono ?_
  rintro e w2 ⟨v2, rfl, ho2, hb2⟩
  have HO2 := Lib.hid ho2
  have HB2 := Lib.hid hb2
  clear ho2 hb2
  go_wp2_with fail
  refine (xc_any ([] ++ cb n) _ p _ (Rd.own HO2.out) (by simp; omega)).mono ?_
  rintro e w3 ⟨v3, rfl, ho3, hb3⟩
  have hB3 := HB2.out.trans (Joins.below_le hb3 HB2.out.size)
  have HO3 := Lib.hid ho3
  have HB3 := Lib.hid hB3
  clear ho3 hB3 hb3
  go_wp2_with fail
  refine (xc_any ([] ++ cb n ++ cb p) _ m _ (Rd.own HO3.out) (by simp; omega)).mono ?_
  rintro e w4 ⟨v4, rfl, ho4, hb4⟩
  have hB4 := HB3.out.trans (Joins.below_le hb4 HB3.out.size)
  have HO4 := Lib.hid ho4
  have HB4 := Lib.hid hB4
  clear ho4 hB4 hb4
  go_wp2_with fail
  refine (xstr_any ([] ++ cb n ++ cb p ++ cb m) _ (tx d) _ (Rd.own HO4.out) (by rw [tx_size]; omega) (by simp [tx_size]; omega)).mono ?_
  rintro e w5 ⟨v5, rfl, ho5, hb5⟩
  have hB5 := HB4.out.trans (Joins.below_le hb5 HB4.out.size)
  rw [tx_data, List.nil_append, ← HBD.out] at ho5
  have HO5 := Lib.hid ho5
  have HB5 := Lib.hid hB5
  clear ho5 hB5 hb5
  go_wp2_with fail
  refine (refseal_any 1 BD _ _ (Rd.own HO5.out) (by omega)).mono ?_
  rintro e w6 ⟨v6, k, rfl, ho6, hb6⟩
  have hB6 := HB5.out.trans (Joins.below_le hb6 HB5.out.size)
  rw [HSL.out] at ho6 ⊢
  have HO6 := Lib.hid ho6
  have HB6 := Lib.hid hB6
  clear ho6 hB6 hb6
  go_wp2_with fail
  go_ret
  exact ⟨_, _, rfl, own_base HO6.out HB5.out.size, HB6.out⟩
end Go.Proofs.YtfmaocinckeagaaDoor
