/-
  The sum's code (package seal: the closure of More, More, Sum) comes to the sum as numbers. Conditions: the table reads as the program lays it, the bytes lie in memory.
-/
import Derived.Test.YtfmaocinckeagaaDoorReaderC
import Derived.Test.YtfmaocinckeagaaDoorCrc
import Derived.Laws.BitsAllLaws
import Derived.Deep.DeepCutAuto
import Derived.Deep.RegionWith
import Derived.BigRegion
namespace Go.Proofs.YtfmaocinckeagaaDoor
open Go.RowKit

theorem bits_xor_u32 (a b : Nat) (ha : a < 4294967296) (hb : b < 4294967296) : bits .xor .u32 (a : Int) (b : Int) = ((a ^^^ b : Nat) : Int) := by
  have hx : a ^^^ b < 2 ^ 32 := Nat.xor_lt_two_pow (by omega) (by omega)
  show IntKind.u32.wrap ((BitVec.ofInt 32 (a : Int) ^^^ BitVec.ofInt 32 (b : Int)).toNat : Int) = _
  rw [BitVec.toNat_xor, ofInt_u32 a ha, ofInt_u32 b hb, IntKind.wrap_u32']
  omega
theorem bits_low4 (r : Nat) (h : r < 4294967296) : bits .and .u32 (r : Int) 15 = ((r % 16 : Nat) : Int) := by
  have h2 : (BitVec.ofInt 32 (15 : Int)).toNat = 15 := by decide
  show IntKind.u32.wrap ((BitVec.ofInt 32 (r : Int) &&& BitVec.ofInt 32 (15 : Int)).toNat : Int) = _
  rw [BitVec.toNat_and, ofInt_u32 r h, h2, IntKind.wrap_u32', show (15 : Nat) = 2 ^ 4 - 1 from rfl, Nat.and_two_pow_sub_one_eq_mod]
  omega

/-- the table: four steps of each number of four bits -/
def tabN : List Nat := [0, 498536548, 997073096, 651767980, 1994146192, 1802195444, 1303535960, 1342533948, 3988292384, 4027552580, 3604390888, 3412177804, 2607071920, 2262029012, 2685067896, 3183342108]
def tabAt (i : Nat) : Nat := tabN.getD i 0
theorem tab_is : ∀ i, i < 16 → tabAt i = stN 4 i := by decide +kernel
theorem tab_lt : ∀ i, i < 16 → tabAt i < 4294967296 := by decide +kernel
theorem tab_step {r : Nat} : tabAt (r % 16) ^^^ (r / 16) = stN 4 r := by
  have h1 : r % 16 < 2 ^ 4 := Nat.mod_lt _ (by decide)
  have h2 := xor_low 4 (r / 16) h1
  have h3 : r % 16 + 2 ^ 4 * (r / 16) = r := by omega
  rw [tab_is _ h1]
  conv => rhs; rw [← h3, ← h2, stN_xor, stN_shift]

/-- the table in memory -/
def Tab (w : World) : Prop := 0 < w.heap.size ∧ ∀ i, i < 16 → w.cell? ⟨0, i, none⟩ = some (.int .u32 ((tabAt i : Nat) : Int))
theorem Tab.below {w w' : World} (h : Tab w) {B : Nat} (hb : Below B w w') (hB : 0 < B) : Tab w' := ⟨Nat.lt_of_lt_of_le h.1 hb.size, fun i hi => (hb.cell (p := ⟨0, i, none⟩) hB).trans (h.2 i hi)⟩

/-- the sum of bytes, gone on from a sum -/
def on (r : Nat) (l : List UInt8) : Nat := crc r (l.map UInt8.toNat)
theorem on_lt (r : Nat) (l : List UInt8) (h : r < 4294967296) : on r l < 4294967296 := crc_lt _ _ h fun x hx => by
  obtain ⟨y, _, rfl⟩ := List.mem_map.1 hx
  exact y.toNat_lt
theorem on_cons (r : Nat) (x : UInt8) (l : List UInt8) : on r (x :: l) = on (crcB r x.toNat) l := rfl
theorem on_snoc (r : Nat) (x : UInt8) (l : List UInt8) : on r (l ++ [x]) = crcB (on r l) x.toNat := by unfold on; rw [List.map_append, crc_append]; rfl
/-- every bit turned -/
def noN (x : Nat) : Nat := 4294967295 ^^^ x
theorem noN_lt {x : Nat} (h : x < 4294967296) : noN x < 4294967296 := Nat.xor_lt_two_pow (n := 32) (by decide) h
def sumN (s : Nat) (l : List UInt8) : Nat := noN (on (noN s) l)
theorem sumN_lt {s : Nat} (l : List UInt8) (h : s < 4294967296) : sumN s l < 4294967296 := noN_lt (on_lt _ _ (noN_lt h))

theorem set_one {w : World} {R : Nat} {v x : Value} {T : TypeId} (h : w.heap[R]? = some (.cells #[v] T (0, 0))) : (w.setCell ⟨R, 0, none⟩ x).heap[R]? = some (.cells #[x] T (0, 0)) := by
  simp [World.setCell, Array.getElem?_modify, h]
set_option maxHeartbeats 1000000 in
theorem take_any (R x r : Nat) (T : TypeId) (w : World) (hx : x < 256) (hr : r < 4294967296) (ht : Tab w) (hR0 : 0 < R) (hR : w.heap[R]? = some (.cells #[.int .u32 (r : Int)] T (0, 0))) :
    Calls Tryd.prog 72 #[.int .u8 (x : Int), .pointer (some ⟨R, 0, none⟩)] w fun e w' => e = .returned (.tuple #[]) ∧ w.grownBy w' (some R) ∧ w'.heap[R]? = some (.cells #[.int .u32 ((crcB r x : Nat) : Int)] T (0, 0)) := by
  obtain ⟨hc, hf⟩ := row_cells hR
  have hc0 : w.cell? ⟨R, 0, none⟩ = some (.int .u32 (r : Int)) := hc 0
  have hf0 : w.frozen? ⟨R, 0, none⟩ = false := hf 0
  have h1 := bits_xor_u32 r x hr (by omega)
  have ht0 := ht.1
  go_enter Tryd.func72, Tryd.ntmps72
  go_upto_region 1 with fail
  have hr1 : r ^^^ x < 4294967296 := Nat.xor_lt_two_pow (n := 32) hr (by omega)
  have hRa := set_one (x := .int .u32 ((r ^^^ x : Nat) : Int)) hR
  have hga := grown_set w R (.int .u32 ((r ^^^ x : Nat) : Int)) 0
  obtain ⟨a, ha⟩ : ∃ a, a = r ^^^ x := ⟨_, rfl⟩
  rw [← ha] at hr1 hRa hga ⊢
  obtain ⟨wa, hwa⟩ : ∃ wa, wa = w.setCell ⟨R, 0, none⟩ (.int .u32 (a : Int)) := ⟨_, rfl⟩
  rw [← hwa] at hRa hga ⊢
  have hta : Tab wa := ht.below ((Below.refl 1 w).grown hga ht0 (fun k hk => by injection hk with hk; omega)) (by omega)
  clear hwa hc hf hc0 hf0 h1 hR
  obtain ⟨hc, hf⟩ := row_cells hRa
  have hc0 : wa.cell? ⟨R, 0, none⟩ = some (.int .u32 (a : Int)) := hc 0
  have hf0 : wa.frozen? ⟨R, 0, none⟩ = false := hf 0
  have hb := bits_low4 a hr1
  have hi : a % 16 < 16 := Nat.mod_lt _ (by decide)
  have hit : ((a % 16 : Nat) : Int) < 16 := by omega
  have hi0 : (0 : Int) ≤ ((a % 16 : Nat) : Int) := by omega
  have htc := hta.2 _ hi
  have hx2 : bits .xor .u32 ((tabAt (a % 16) : Nat) : Int) ((a : Int) / 16) = ((stN 4 a : Nat) : Int) := by
    rw [show (a : Int) / 16 = ((a / 16 : Nat) : Int) by omega, bits_xor_u32 _ _ (tab_lt _ hi) (by omega), tab_step]
  obtain ⟨i, hii⟩ : ∃ i, i = a % 16 := ⟨_, rfl⟩
  rw [← hii] at hb hi hit hi0 htc hx2
  have HA := Lib.hid ha
  have HI := Lib.hid hii
  clear ha hii
  go_region
  all_goals go_upto_region 2 with fail
  have hr2 : stN 4 a < 4294967296 := stN_lt 4 hr1
  have hRb := set_one (w := wa.drew) (x := .int .u32 ((stN 4 a : Nat) : Int)) hRa
  have hgb := grown_trans hga (grown_set wa R (.int .u32 ((stN 4 a : Nat) : Int)) 0)
  obtain ⟨b, hb2⟩ : ∃ b, b = stN 4 a := ⟨_, rfl⟩
  rw [← hb2] at hr2 hRb hgb ⊢
  obtain ⟨wb, hwb⟩ : ∃ wb, wb = (wa.setCell ⟨R, 0, none⟩ (.int .u32 (b : Int))).drew := ⟨_, rfl⟩
  have hgb' : w.grownBy wb (some R) := by rw [hwb]; exact ⟨hgb.os, hgb.tape, hgb.output, hgb.size, hgb.block⟩
  have hRb' : wb.heap[R]? = some (.cells #[.int .u32 (b : Int)] T (0, 0)) := by rw [hwb]; exact hRb
  rw [← hwb]
  have htb : Tab wb := ht.below ((Below.refl 1 w).grown hgb' ht0 (fun k hk => by injection hk with hk; omega)) (by omega)
  have HB := Lib.hid hb2
  clear hb2 hwb hgb hRb hc hf hc0 hf0 hb hi hit hi0 htc hx2 HI hta hRa hga
  obtain ⟨hc, hf⟩ := row_cells hRb'
  have hc0 : wb.cell? ⟨R, 0, none⟩ = some (.int .u32 (b : Int)) := hc 0
  have hf0 : wb.frozen? ⟨R, 0, none⟩ = false := hf 0
  have hb := bits_low4 b hr2
  have hi : b % 16 < 16 := Nat.mod_lt _ (by decide)
  have hit : ((b % 16 : Nat) : Int) < 16 := by omega
  have hi0 : (0 : Int) ≤ ((b % 16 : Nat) : Int) := by omega
  have htc := htb.2 _ hi
  have hx2 : bits .xor .u32 ((tabAt (b % 16) : Nat) : Int) ((b : Int) / 16) = ((stN 4 b : Nat) : Int) := by
    rw [show (b : Int) / 16 = ((b / 16 : Nat) : Int) by omega, bits_xor_u32 _ _ (tab_lt _ hi) (by omega), tab_step]
  obtain ⟨j, hjj⟩ : ∃ j, j = b % 16 := ⟨_, rfl⟩
  rw [← hjj] at hb hi hit hi0 htc hx2
  have HJ := Lib.hid hjj
  clear hjj
  go_region
  all_goals go_wp2_with fail
  have hfin := set_one (w := wb.drew) (x := .int .u32 ((stN 4 b : Nat) : Int)) hRb'
  have hgf := grown_trans hgb' (grown_set wb R (.int .u32 ((stN 4 b : Nat) : Int)) 0)
  have he : crcB r x = stN 4 b := by rw [HB.out, HA.out, ← stN_add]; rfl
  go_end0
  rw [he]
  exact ⟨rfl, ⟨hgf.os, hgf.tape, hgf.output, hgf.size, hgf.block⟩, hfin⟩

theorem no_u32 (x : Nat) (h : x < 4294967296) : bits .xor .u32 IntKind.u32.max (x : Int) = ((noN x : Nat) : Int) := by
  rw [show IntKind.u32.max = ((4294967295 : Nat) : Int) by rfl]
  exact bits_xor_u32 4294967295 x (by decide) h

set_option maxHeartbeats 1000000 in
theorem more_any (l : List UInt8) (v : Value) (s : Nat) (w : World) (hs : s < 4294967296) (ht : Tab w) (hv : Rd w w.heap.size v l) (hl : l.length ≤ 140737488355328) :
    Calls Tryd.prog 67 #[.int .u32 (s : Int), v] w fun e w' => e = .returned (.int .u32 ((sumN s l : Nat) : Int)) ∧ Below w.heap.size w w' := by
  have h1 := no_u32 s hs
  have hn := noN_lt hs
  have ht0 := ht.1
  have hmf : ∀ (fn : Fn) (first cap : Array Value) (w : World), (Instr.makeFunc fn first cap).run Tryd.prog w = .ok (.func fn first cap) w := fun _ _ _ _ => rfl
  obtain ⟨A, c, rfl, h1c, h2c, h3c, h4c⟩ := hv
  obtain ⟨a, ha⟩ : ∃ a, a = noN s := ⟨_, rfl⟩
  rw [← ha] at h1 hn
  have HA := Lib.hid ha
  clear ha
  go_enter Tryd.func67, Tryd.ntmps67
  go_wp2_with fail
  have hb0 : Below w.heap.size w (w.alloc (.cells #[.int .u32 (a : Int)] 78)) := (Below.refl _ _).alloc (Nat.le_refl _) _
  have hR0 : (w.alloc (.cells #[.int .u32 (a : Int)] 78)).heap[w.heap.size]? = some (.cells #[.int .u32 (a : Int)] 78 (0, 0)) := by
    show (w.heap.push _)[w.heap.size]? = _
    simp
  obtain ⟨w1, hw1⟩ : ∃ w1, w1 = w.alloc (.cells #[.int .u32 (a : Int)] 78) := ⟨_, rfl⟩
  rw [← hw1] at hb0 hR0 ⊢
  clear hw1
  go_loopw [13] (fun i wr => ∃ k : Nat, i = .int .i64 k ∧ k ≤ l.length ∧ wr.heap[w.heap.size]? = some (.cells #[.int .u32 ((on a (l.take k) : Nat) : Int)] 78 (0, 0)) ∧ Below w.heap.size w wr) (fun i _ => l.length - (intOf i).toNat)
  case atStart => exact ⟨0, rfl, by omega, hR0, hb0⟩
  case round =>
    obtain ⟨k, rfl, hk, hr, hb⟩ := hrel
    clear hR0 hb0
    by_cases hlt : k < l.length
    · obtain ⟨g, o, rfl, hg, hc⟩ := h4c (fun h => by subst h; exact absurd hlt (Nat.not_lt_zero _))
      have hlt2 : (k : Int) < (l.length : Int) := by omega
      have hck : w.cell? ⟨g, o + k, none⟩ = some (.int .u8 (l[k].toNat : Int)) := hc k _ (List.getElem?_eq_getElem hlt)
      have hx0 : wr.cell? ⟨g, o + k, none⟩ = some (.int .u8 (l[k].toNat : Int)) := (hb.cell (p := ⟨g, o + k, none⟩) hg).trans hck
      have hon : on a (l.take (k + 1)) = crcB (on a (l.take k)) l[k].toNat := by rw [← on_snoc, List.take_append_getElem]
      obtain ⟨x, hxx⟩ : ∃ x, x = l[k].toNat := ⟨_, rfl⟩
      have hx256 : x < 256 := by rw [hxx]; exact l[k].toNat_lt
      have hol := on_lt a (l.take k) hn
      rw [← hxx] at hx0 hon
      have HO := Lib.hid hon
      clear hon hck hc hxx
      go_wp2_with fail
      refine (take_any w.heap.size x _ _ _ hx256 hol (ht.below hb ht0) ht0 hr).mono ?_
      rintro e w2 ⟨rfl, hg2, hr2⟩
      rw [← HO.out] at hr2
      go_wp2_with fail
      exact ⟨⟨k + 1, by go_num, hlt, hr2, hb.grown hg2 hb.size (fun j h => by injection h with h; omega)⟩, by simp [intOf]; omega⟩
    · have hlt2 : ¬ (k : Int) < (l.length : Int) := by omega
      obtain rfl : k = l.length := by omega
      rw [List.take_length] at hr
      have hc0 : wr.cell? ⟨w.heap.size, 0, none⟩ = some (.int .u32 ((on a l : Nat) : Int)) := (row_cells hr).1 0
      have hfin : sumN s l = noN (on a l) := by rw [HA.out]; rfl
      have h2 := no_u32 _ (on_lt a l hn)
      go_wp2_with fail
      go_ret
      exact ⟨rfl, hb⟩

theorem sum_any (l : List UInt8) (v : Value) (w : World) (ht : Tab w) (hv : Rd w w.heap.size v l) (hl : l.length ≤ 140737488355328) :
    Calls Tryd.prog 53 #[v] w fun e w' => e = .returned (.int .u32 ((sumN 0 l : Nat) : Int)) ∧ Below w.heap.size w w' := by
  go_enter Tryd.func53, Tryd.ntmps53
  go_wp2_with fail
  refine (more_any l v 0 _ (by decide) ht hv hl).mono ?_
  rintro e w1 ⟨rfl, hb1⟩
  go_wp2_with fail
  go_ret
  exact ⟨rfl, hb1⟩
end Go.Proofs.YtfmaocinckeagaaDoor
