/-
  What package seal's Seal comes to: the frame of the chapter's words, in new memory, or the refusal. Conditions: the table reads as the program lays it, the body lies in memory.
-/
import Derived.Test.YtfmaocinckeagaaDoorSum
import Derived.Laws.MakeOwn
namespace Go.Proofs.YtfmaocinckeagaaDoor
open Go.RowKit

/-- a number's four bytes -/
def le4u (t : Nat) : List UInt8 := (le4 t).map UInt8.ofNat
theorem le4u_length (t : Nat) : (le4u t).length = 4 := rfl
/-- a frame's head -/
def headOf (k : UInt8) (n : Nat) : List UInt8 := [k, UInt8.ofNat (n % 256), UInt8.ofNat (n / 256 % 256)]
/-- a frame ahead of its sum -/
def bareOf (k : UInt8) (l : List UInt8) : List UInt8 := headOf k l.length ++ l
theorem bareOf_length (k : UInt8) (l : List UInt8) : (bareOf k l).length = l.length + 3 := by unfold bareOf headOf; simp
def frame (k : UInt8) (l : List UInt8) : List UInt8 := bareOf k l ++ le4u (sumN 0 (bareOf k l))
theorem frame_length (k : UInt8) (l : List UInt8) : (frame k l).length = l.length + 7 := by unfold frame; rw [List.length_append, bareOf_length, le4u_length]
/-- what Seal tells: an error's number, a frame -/
def sealedOf (k : UInt8) (l : List UInt8) : Int × List UInt8 := if 8192 < l.length then (40, []) else (0, frame k l)

/-- a literal of bytes reads as its bytes -/
theorem Rd.litsF (w : World) (e : TypeId) (cs : Array Value) (fr : Nat × Nat) (l : List UInt8) (n : Nat) (h : cs.toList = BS l) (hn : n = l.length) (hl : l.length ≤ maxLen) : Rd (w.alloc (.cells cs e fr)) (w.heap.size + 1) (.slice (some ⟨w.heap.size, 0, none⟩) n n) l := by
  subst hn
  refine ⟨_, _, rfl, Nat.le_refl _, hl, (fun h => by cases h), fun _ => ⟨w.heap.size, 0, rfl, by omega, fun i x hx => ?_⟩⟩
  have h2 : cs[i]? = some (.int .u8 (x.toNat : Int)) := by
    rw [← Array.getElem?_toList, h]
    unfold BS
    rw [List.getElem?_map, hx]
    rfl
  rw [Nat.zero_add]
  exact (cell_of_row _ w.heap.size i cs e fr (heap_alloc_new w _)).trans h2
theorem Rd.lits (w : World) (e : TypeId) (cs : Array Value) (l : List UInt8) (n : Nat) (h : cs.toList = BS l) (hn : n = l.length) (hl : l.length ≤ maxLen) : Rd (w.alloc (.cells cs e)) (w.heap.size + 1) (.slice (some ⟨w.heap.size, 0, none⟩) n n) l := Rd.litsF w e cs (0, 0) l n h hn hl

theorem headOf_length (k : UInt8) (n : Nat) : (headOf k n).length = 3 := rfl
theorem wrapU8' (n : Int) : IntKind.u8.wrap n = n % 256 := by simp [IntKind.wrap, IntKind.bits, IntKind.signed]

theorem head_cells (k : UInt8) (n : Nat) (h : n ≤ 8192) : (#[.int .u8 (k.toNat : Int), .int .u8 ((n : Int) % 256), .int .u8 ((n : Int) / 256)] : Array Value).toList = BS (headOf k n) := by
  have e1 : (n : Int) % 256 = ((UInt8.ofNat (n % 256)).toNat : Int) := by rw [UInt8.toNat_ofNat']; omega
  have e2 : (n : Int) / 256 = ((UInt8.ofNat (n / 256 % 256)).toNat : Int) := by rw [UInt8.toNat_ofNat']; omega
  rw [e1, e2]
  rfl
theorem le4_cells (S : Nat) (h : S < 4294967296) : (#[.int .u8 ((S : Int) % 256), .int .u8 ((S : Int) / 256 % 256), .int .u8 ((S : Int) / 65536 % 256), .int .u8 ((S : Int) / 16777216)] : Array Value).toList = BS (le4u S) := by
  have e1 : (S : Int) % 256 = ((UInt8.ofNat (S % 256)).toNat : Int) := by rw [UInt8.toNat_ofNat']; omega
  have e2 : (S : Int) / 256 % 256 = ((UInt8.ofNat (S / 256 % 256)).toNat : Int) := by rw [UInt8.toNat_ofNat']; omega
  have e3 : (S : Int) / 65536 % 256 = ((UInt8.ofNat (S / 65536 % 256)).toNat : Int) := by rw [UInt8.toNat_ofNat']; omega
  have e4 : (S : Int) / 16777216 = ((UInt8.ofNat (S / 16777216)).toNat : Int) := by rw [UInt8.toNat_ofNat']; omega
  rw [e1, e2, e3, e4]
  rfl
/-- the post of both Seals -/
def SealedPost (w : World) (k : UInt8) (l : List UInt8) (e : Ending) (w' : World) : Prop :=
  ∃ v n, e = .returned (.tuple #[v, .int .i64 (sealedOf k l).1]) ∧ w'.ownsRow w.heap.size 5 1 v n (BS (sealedOf k l).2) ∧ Below w.heap.size w w'

theorem own_same {w w' : World} {base : Nat} {e : TypeId} {v : Value} {n : Nat} {xs : List Value} (h : w.ownsRow base e 1 v n xs) (hk : ∀ p, v.ownBlock = some p → w'.heap[p]? = w.heap[p]?) : w'.ownsRow base e 1 v n xs := by
  refine ⟨h.1, ?_⟩
  rcases h.2 with hn | ⟨g, cap, cur, rfl, hb, hg, rest⟩
  · exact .inl hn
  · exact .inr ⟨g, cap, cur, rfl, hb, (hk g rfl).trans hg, rest⟩
/-- what a call owns is kept by what turns nothing that was there -/
theorem own_below {w w' : World} {base B : Nat} {e : TypeId} {v : Value} {n : Nat} {xs : List Value} (h : w.ownsRow base e 1 v n xs) (hb : Below B w w') (hB : w.heap.size ≤ B) : w'.ownsRow base e 1 v n xs :=
  own_same h fun p hp => hb.block p (Nat.lt_of_lt_of_le (h.lt p hp).2 hB)

set_option maxHeartbeats 1000000 in
theorem seal_any (k : UInt8) (l : List UInt8) (v : Value) (w : World) (ht : Tab w) (hv : Rd w w.heap.size v l) (hl : l.length ≤ 140737488355328) :
    Calls Tryd.prog 33 #[.int .u8 (k.toNat : Int), v] w (SealedPost w k l) := by
  have HV := Lib.hid hv
  obtain ⟨A, c, rfl, -⟩ := hv
  obtain ⟨i0, hi, hz0, hz1, hz2⟩ := info_parts info_u8
  by_cases hbig : 8192 < l.length
  · have hbig2 : (8192 : Int) < (l.length : Int) := by omega
    have hs : sealedOf k l = (40, []) := if_pos hbig
    have HS := Lib.hid hs
    clear hs
    go_enter Tryd.func33, Tryd.ntmps33
    go_wp2_with fail
    go_ret2
    exact ⟨.slice none 0 0, 0, by rw [HS.out]; rfl, by rw [HS.out]; exact World.ownsRow_nil _ _ _ _, Below.refl _ _⟩
  · have hbig2 : ¬ (8192 : Int) < (l.length : Int) := by omega
    have hs : sealedOf k l = (0, frame k l) := if_neg hbig
    have HS := Lib.hid hs
    clear hs
    obtain ⟨w1, hmk, ho1, hg1⟩ := run_make_own (P := Tryd.prog) w w.heap.size 27 5 i0 _ 1 Tryd.underlying27 hi hz0 hz1 .i64 .i64 (l.length + 7) (by rw [hz2]; omega) (by unfold maxLen; omega) (Nat.le_refl _)
    rw [show (((l.length + 7 : Nat)) : Int) = 3 + (l.length : Int) + 4 by omega] at hmk
    have hb1 : Below w.heap.size w w1 := (Below.refl _ _).grown hg1 (Nat.le_refl _) (fun k h => by cases h)
    obtain ⟨v1, hv1⟩ : ∃ v1, v1 = Value.slice (some ⟨w.heap.size, 0, none⟩) 0 (l.length + 7) := ⟨_, rfl⟩
    rw [← hv1] at hmk ho1
    have hhead := head_cells k l.length (by omega)
    have HH := Lib.hid hhead
    clear hhead hv1 hg1
    go_enter Tryd.func33, Tryd.ntmps33
    go_wp2_with (first
      | (at_builtin; refine wpList_app rfl (.tmp 18) (.tmp 25) 27 rfl w.heap.size 5 i0 Tryd.underlying27 hi hz0 hz1 hz2 v1 _ [] (headOf k l.length) _ rfl rfl (ho1.alloc _) (w1.heap.size + 1) (Rd.lits w1 _ _ _ 3 HH.out rfl (by rw [headOf_length]; unfold maxLen; decide)) (by rw [headOf_length]; simp) (by have := hb1.size; simp; omega) ?_; intro v2 w2 ho2 hg2; have hb2 := (hb1.alloc hb1.size _).grown hg2 (by have := hb1.size; simp; omega) (fun k h => (ho1.lt k h).1); rw [List.nil_append] at ho2; clear hg2 ho1 hmk HH)
      | (at_builtin; refine wpList_app rfl (.tmp 27) (.tmp 28) 27 rfl w.heap.size 5 i0 Tryd.underlying27 hi hz0 hz1 hz2 v2 (.slice A l.length c) (headOf k l.length) l _ rfl rfl ho2 w.heap.size (HV.out.below hb2 (Nat.le_refl _)) (by rw [headOf_length]; omega) hb2.size ?_; intro v3 w3 ho3 hg3; have hb3 := hb2.grown hg3 hb2.size (fun k h => (ho2.lt k h).1); clear hg3 ho2))
    have hS : sumN 0 (bareOf k l) < 4294967296 := sumN_lt _ (by decide)
    refine (sum_any (bareOf k l) v3 _ (ht.below hb3 ht.1) (Rd.own ho3) (by rw [bareOf_length]; omega)).mono ?_
    rintro e w4 ⟨rfl, hb4⟩
    have ho4 := own_below ho3 hb4 (Nat.le_refl _)
    have hb4' := hb3.trans (hb4.mono hb3.size)
    clear ho3 hb3 hb4 hb2
    obtain ⟨S, hSS⟩ : ∃ S, S = sumN 0 (bareOf k l) := ⟨_, rfl⟩
    rw [← hSS] at hS ⊢
    have HSS := Lib.hid hSS
    clear hSS
    go_wp2_with fail
    go_loopw [7, 32] (fun s i wr => ∃ j n : Nat, i = .int .i64 j ∧ j ≤ 4 ∧ wr.ownsRow w.heap.size 5 1 s n (BS (bareOf k l ++ (le4u S).take j)) ∧ Below w.heap.size w wr) (fun _ i _ => 4 - (intOf i).toNat)
    case atStart => exact ⟨0, _, rfl, by omega, by rw [List.take_zero, List.append_nil]; exact ho4, hb4'⟩
    case round =>
      obtain ⟨j, n, rfl, hj, ho, hb⟩ := hrel
      clear ho4 hb4'
      have hcase : j = 0 ∨ j = 1 ∨ j = 2 ∨ j = 3 ∨ j = 4 := by omega
      rcases hcase with rfl | rfl | rfl | rfl | rfl
      · go_wp2_with (at_builtin; refine wpList_app rfl (.tmp 35) (.tmp 41) 27 rfl w.heap.size 5 i0 Tryd.underlying27 hi hz0 hz1 hz2 _ _ (bareOf k l ++ (le4u S).take 0) [UInt8.ofNat (S % 256)] _ rfl rfl (ho.alloc _) (wr.heap.size + 1) (Rd.lit wr _ _ _ (by rw [UInt8.toNat_ofNat']; omega)) (by rw [List.length_append, bareOf_length]; simp only [List.length_take, le4u_length, List.length_cons, List.length_nil]; omega) (by have := hb.size; simp; omega) ?_; intro v5 w5 ho5 hg5; have hb5 := (hb.alloc hb.size _).grown hg5 (by have := hb.size; simp; omega) (fun k h => (ho.lt k h).1))
        exact ⟨⟨1, _, rfl, by omega, by rw [List.append_assoc] at ho5; exact ho5, hb5⟩, by simp [intOf]⟩
      · go_wp2_with (at_builtin; refine wpList_app rfl (.tmp 35) (.tmp 41) 27 rfl w.heap.size 5 i0 Tryd.underlying27 hi hz0 hz1 hz2 _ _ (bareOf k l ++ (le4u S).take 1) [UInt8.ofNat (S / 256 % 256)] _ rfl rfl (ho.alloc _) (wr.heap.size + 1) (Rd.lit wr _ _ _ (by rw [UInt8.toNat_ofNat']; omega)) (by rw [List.length_append, bareOf_length]; simp only [List.length_take, le4u_length, List.length_cons, List.length_nil]; omega) (by have := hb.size; simp; omega) ?_; intro v5 w5 ho5 hg5; have hb5 := (hb.alloc hb.size _).grown hg5 (by have := hb.size; simp; omega) (fun k h => (ho.lt k h).1))
        exact ⟨⟨2, _, rfl, by omega, by rw [List.append_assoc] at ho5; exact ho5, hb5⟩, by simp [intOf]⟩
      · go_wp2_with (at_builtin; refine wpList_app rfl (.tmp 35) (.tmp 41) 27 rfl w.heap.size 5 i0 Tryd.underlying27 hi hz0 hz1 hz2 _ _ (bareOf k l ++ (le4u S).take 2) [UInt8.ofNat (S / 65536 % 256)] _ rfl rfl (ho.alloc _) (wr.heap.size + 1) (Rd.lit wr _ _ _ (by rw [UInt8.toNat_ofNat']; omega)) (by rw [List.length_append, bareOf_length]; simp only [List.length_take, le4u_length, List.length_cons, List.length_nil]; omega) (by have := hb.size; simp; omega) ?_; intro v5 w5 ho5 hg5; have hb5 := (hb.alloc hb.size _).grown hg5 (by have := hb.size; simp; omega) (fun k h => (ho.lt k h).1))
        exact ⟨⟨3, _, rfl, by omega, by rw [List.append_assoc] at ho5; exact ho5, hb5⟩, by simp [intOf]⟩
      · go_wp2_with (at_builtin; refine wpList_app rfl (.tmp 35) (.tmp 41) 27 rfl w.heap.size 5 i0 Tryd.underlying27 hi hz0 hz1 hz2 _ _ (bareOf k l ++ (le4u S).take 3) [UInt8.ofNat (S / 16777216)] _ rfl rfl (ho.alloc _) (wr.heap.size + 1) (Rd.lit wr _ _ _ (by rw [UInt8.toNat_ofNat']; omega)) (by rw [List.length_append, bareOf_length]; simp only [List.length_take, le4u_length, List.length_cons, List.length_nil]; omega) (by have := hb.size; simp; omega) ?_; intro v5 w5 ho5 hg5; have hb5 := (hb.alloc hb.size _).grown hg5 (by have := hb.size; simp; omega) (fun k h => (ho.lt k h).1))
        exact ⟨⟨4, _, rfl, by omega, by rw [List.append_assoc] at ho5; exact ho5, hb5⟩, by simp [intOf]⟩
      · have hfr : bareOf k l ++ (le4u S).take 4 = frame k l := by rw [HSS.out]; rfl
        rw [hfr] at ho
        clear hfr
        go_wp2_with fail
        go_ret2
        exact ⟨_, n, by rw [HS.out]; rfl, by rw [HS.out]; exact ho, hb⟩
end Go.Proofs.YtfmaocinckeagaaDoor
