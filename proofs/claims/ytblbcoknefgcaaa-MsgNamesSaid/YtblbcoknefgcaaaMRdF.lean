/-
  What passes over a message's numbers and texts, with a reader. No statement is proved here. No condition.
-/
import Derived.Test.YtblbcoknefgcaaaMRd
namespace Go.Proofs.Ytblbcoknefgcaaa
open Go.RowKit

/-- the reader, as it is handed on -/
def rdI (R : Nat) : Value := .iface 77 (.agg #[.pointer (some ⟨R, 0, none⟩)])
theorem nilr_kind (a : Addr) (w : World) : (nilAhead 322 77 (.agg #[.pointer (some a)]) "buttery/msg.kind").run Try.prog w = .ok (some false) w := by kernel_rfl
theorem metr_kind (a : Addr) (w : World) : (method 322 77 (.agg #[.pointer (some a)]) "buttery/msg.kind").run Try.prog w = .ok (161, .agg #[.pointer (some a)]) w := by kernel_rfl
theorem nilr_num (a : Addr) (w : World) : (nilAhead 322 77 (.agg #[.pointer (some a)]) "buttery/msg.num").run Try.prog w = .ok (some false) w := by kernel_rfl
theorem metr_num (a : Addr) (w : World) : (method 322 77 (.agg #[.pointer (some a)]) "buttery/msg.num").run Try.prog w = .ok (163, .agg #[.pointer (some a)]) w := by kernel_rfl
theorem nilr_text (a : Addr) (w : World) : (nilAhead 322 77 (.agg #[.pointer (some a)]) "buttery/msg.text").run Try.prog w = .ok (some false) w := by kernel_rfl
theorem metr_text (a : Addr) (w : World) : (method 322 77 (.agg #[.pointer (some a)]) "buttery/msg.text").run Try.prog w = .ok (165, .agg #[.pointer (some a)]) w := by kernel_rfl
theorem nilr_flag (a : Addr) (w : World) : (nilAhead 322 77 (.agg #[.pointer (some a)]) "buttery/msg.flag").run Try.prog w = .ok (some false) w := by kernel_rfl
theorem metr_flag (a : Addr) (w : World) : (method 322 77 (.agg #[.pointer (some a)]) "buttery/msg.flag").run Try.prog w = .ok (160, .agg #[.pointer (some a)]) w := by kernel_rfl
theorem nilr_many (a : Addr) (w : World) : (nilAhead 322 77 (.agg #[.pointer (some a)]) "buttery/msg.many").run Try.prog w = .ok (some false) w := by kernel_rfl
theorem metr_many (a : Addr) (w : World) : (method 322 77 (.agg #[.pointer (some a)]) "buttery/msg.many").run Try.prog w = .ok (162, .agg #[.pointer (some a)]) w := by kernel_rfl
theorem nilr_stopped (a : Addr) (w : World) : (nilAhead 322 77 (.agg #[.pointer (some a)]) "buttery/msg.stopped").run Try.prog w = .ok (some false) w := by kernel_rfl
theorem metr_stopped (a : Addr) (w : World) : (method 322 77 (.agg #[.pointer (some a)]) "buttery/msg.stopped").run Try.prog w = .ok (164, .agg #[.pointer (some a)]) w := by kernel_rfl
/-- so many are read, one behind the other -/
def rAll {α : Type} (f : RS → α × RS) : Nat → RS → List α × RS
  | 0, st => ([], st)
  | n + 1, st => ((rAll f n st).1 ++ [(f (rAll f n st).2).1], (f (rAll f n st).2).2)
theorem rAll_len {α : Type} (f : RS → α × RS) (st : RS) : ∀ n, (rAll f n st).1.length = n
  | 0 => rfl
  | n + 1 => by show ((rAll f n st).1 ++ [_]).length = n + 1; rw [List.length_append, rAll_len f st n]; rfl
theorem range_get {b o n i : Nat} (h : i < n) : ((List.range n).map fun i => Value.pointer (some ⟨b, o + i, none⟩)).toArray[i]? = some (.pointer (some ⟨b, o + i, none⟩)) := by
  rw [List.getElem?_toArray, List.getElem?_map, List.getElem?_range h]
  rfl
set_option maxHeartbeats 4000000 in
set_option maxRecDepth 100000 in
/-- nums -/
theorem r_nums (R b o g n : Nat) (st : RS) (w : World) (h : Rdr 151 w R st) (hc : CellOf w R b o n) (hn : n ≤ 100) (hgb : g ≠ b) (hgR : g ≠ R)
    (hg : w.heap[g]? = some (.cells ((List.range n).map fun i => Value.pointer (some ⟨b, o + i, none⟩)).toArray 92 (0, 0))) :
    Calls Try.prog 80 #[.iface 77 (.agg #[.pointer (some ⟨R, 0, none⟩)]), .slice (some ⟨g, 0, none⟩) n n] w fun e w' => e = .returned (.tuple #[]) ∧ RdTo w w' R b o (rAll rN n st).2 ((rAll rN n st).1.map fun x => .int .i64 x) := by
  have H := Lib.hid (And.intro hc (And.intro hgb (And.intro hgR hg)))
  have hm := metr_num
  have hv := nilr_num
  have H0 : Hid (RdTo w w R b o (rAll rN 0 st).2 ((rAll rN 0 st).1.map fun x => .int .i64 x)) := Lib.hid ⟨h, SetTo.of_below (Below.refl _ _) b R o⟩
  clear h hc hgb hgR hg
  go_enter Try.func80, Try.ntmps80
  go_wp2_with fail
  go_loopw [5, 8] (fun _ s8 wr => ∃ i : Nat, s8 = .int .i64 (i : Int) ∧ i ≤ n ∧ Hid (RdTo w wr R b o (rAll rN i st).2 ((rAll rN i st).1.map fun x => .int .i64 x))) (fun _ s8 _ => n - (intOf s8).toNat)
  case atStart => exact ⟨0, rfl, Nat.zero_le _, H0⟩
  case round =>
    clear H0
    obtain ⟨i, rfl, hi, hR⟩ := hrel
    obtain ⟨wz, hwz⟩ : ∃ wz : World, wz = wr := ⟨_, rfl⟩
    subst hwz
    by_cases hil : i < n
    · have a1 : (i : Int) < (n : Int) := by omega
      have a0 : (0 : Int) ≤ (i : Int) := by omega
      have hgz := (hR.out.set.block g (lt_of_heap H.out.2.2.2) H.out.2.1 H.out.2.2.1).trans H.out.2.2.2
      have c1 : wz.cell? ⟨g, i, none⟩ = some (.pointer (some ⟨b, o + i, none⟩)) := ((blk_cells hgz).1 i).trans (range_get hil)
      have cN := r_num R b (o + i) _ wz hR.out.rd ((H.out.1.same hR.out.set).sub (k := i) (m := 1) (by omega))
      have HW := Lib.hid hR.out.set
      clear hR hgz
      go_wp2_with fail
      refine cN.mono ?_
      rintro e w2 ⟨rfl, hr2⟩
      have HF : Hid (RdTo w w2 R b o (rAll rN (i + 1) st).2 ((rAll rN (i + 1) st).1.map fun x => .int .i64 x)) := Lib.hid ⟨hr2.rd, by
        have h1 := HW.out.trans (us := [.int .i64 (rN (rAll rN i st).2).1]) (by rw [List.length_map, rAll_len]; exact hr2.set)
        show SetTo w w2 b R o (((rAll rN i st).1 ++ [_]).map _)
        rw [List.map_append]
        exact h1⟩
      clear hr2 cN c1
      go_wp2_with fail
      exact ⟨⟨i + 1, by go_num, hil, HF⟩, by simp [intOf]; omega⟩
    · have a1 : ¬ (i : Int) < (n : Int) := by omega
      obtain rfl : i = n := by omega
      go_wp2_with fail
      go_end0
      exact ⟨rfl, hR.out⟩
set_option maxHeartbeats 4000000 in
set_option maxRecDepth 100000 in
/-- texts -/
theorem r_texts (R b o g n : Nat) (st : RS) (w : World) (h : Rdr 151 w R st) (hc : CellOf w R b o n) (hn : n ≤ 100) (hgb : g ≠ b) (hgR : g ≠ R)
    (hg : w.heap[g]? = some (.cells ((List.range n).map fun i => Value.pointer (some ⟨b, o + i, none⟩)).toArray 136 (0, 0))) :
    Calls Try.prog 90 #[.iface 77 (.agg #[.pointer (some ⟨R, 0, none⟩)]), .slice (some ⟨g, 0, none⟩) n n] w fun e w' => e = .returned (.tuple #[]) ∧ RdTo w w' R b o (rAll rS n st).2 ((rAll rS n st).1.map fun x => .string x) := by
  have H := Lib.hid (And.intro hc (And.intro hgb (And.intro hgR hg)))
  have hm := metr_text
  have hv := nilr_text
  have H0 : Hid (RdTo w w R b o (rAll rS 0 st).2 ((rAll rS 0 st).1.map fun x => .string x)) := Lib.hid ⟨h, SetTo.of_below (Below.refl _ _) b R o⟩
  clear h hc hgb hgR hg
  go_enter Try.func90, Try.ntmps90
  go_wp2_with fail
  go_loopw [5, 8] (fun _ s8 wr => ∃ i : Nat, s8 = .int .i64 (i : Int) ∧ i ≤ n ∧ Hid (RdTo w wr R b o (rAll rS i st).2 ((rAll rS i st).1.map fun x => .string x))) (fun _ s8 _ => n - (intOf s8).toNat)
  case atStart => exact ⟨0, rfl, Nat.zero_le _, H0⟩
  case round =>
    clear H0
    obtain ⟨i, rfl, hi, hR⟩ := hrel
    obtain ⟨wz, hwz⟩ : ∃ wz : World, wz = wr := ⟨_, rfl⟩
    subst hwz
    by_cases hil : i < n
    · have a1 : (i : Int) < (n : Int) := by omega
      have a0 : (0 : Int) ≤ (i : Int) := by omega
      have hgz := (hR.out.set.block g (lt_of_heap H.out.2.2.2) H.out.2.1 H.out.2.2.1).trans H.out.2.2.2
      have c1 : wz.cell? ⟨g, i, none⟩ = some (.pointer (some ⟨b, o + i, none⟩)) := ((blk_cells hgz).1 i).trans (range_get hil)
      have cN := r_text R b (o + i) _ wz hR.out.rd ((H.out.1.same hR.out.set).sub (k := i) (m := 1) (by omega))
      have HW := Lib.hid hR.out.set
      clear hR hgz
      go_wp2_with fail
      refine cN.mono ?_
      rintro e w2 ⟨rfl, hr2⟩
      have HF : Hid (RdTo w w2 R b o (rAll rS (i + 1) st).2 ((rAll rS (i + 1) st).1.map fun x => .string x)) := Lib.hid ⟨hr2.rd, by
        have h1 := HW.out.trans (us := [.string (rS (rAll rS i st).2).1]) (by rw [List.length_map, rAll_len]; exact hr2.set)
        show SetTo w w2 b R o (((rAll rS i st).1 ++ [_]).map _)
        rw [List.map_append]
        exact h1⟩
      clear hr2 cN c1
      go_wp2_with fail
      exact ⟨⟨i + 1, by go_num, hil, HF⟩, by simp [intOf]; omega⟩
    · have a1 : ¬ (i : Int) < (n : Int) := by omega
      obtain rfl : i = n := by omega
      go_wp2_with fail
      go_end0
      exact ⟨rfl, hR.out⟩
end Go.Proofs.Ytblbcoknefgcaaa
