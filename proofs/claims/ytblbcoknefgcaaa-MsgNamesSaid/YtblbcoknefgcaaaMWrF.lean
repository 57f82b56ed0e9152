/-
  What passes over a message's parts, with a writer. No statement is proved here. No condition.
-/
import Derived.Test.YtblbcoknefgcaaaMWrM
namespace Go.Proofs.Ytblbcoknefgcaaa
open Go.RowKit

theorem nilw_kind (a : Addr) (w : World) : (nilAhead 322 72 (.pointer (some a)) "buttery/msg.kind").run Try.prog w = .ok (some false) w := by kernel_rfl
theorem metw_kind (a : Addr) (w : World) : (method 322 72 (.pointer (some a)) "buttery/msg.kind").run Try.prog w = .ok (147, .pointer (some a)) w := by kernel_rfl
theorem nilw_num (a : Addr) (w : World) : (nilAhead 322 72 (.pointer (some a)) "buttery/msg.num").run Try.prog w = .ok (some false) w := by kernel_rfl
theorem metw_num (a : Addr) (w : World) : (method 322 72 (.pointer (some a)) "buttery/msg.num").run Try.prog w = .ok (149, .pointer (some a)) w := by kernel_rfl
theorem nilw_text (a : Addr) (w : World) : (nilAhead 322 72 (.pointer (some a)) "buttery/msg.text").run Try.prog w = .ok (some false) w := by kernel_rfl
theorem metw_text (a : Addr) (w : World) : (method 322 72 (.pointer (some a)) "buttery/msg.text").run Try.prog w = .ok (151, .pointer (some a)) w := by kernel_rfl
theorem nilw_flag (a : Addr) (w : World) : (nilAhead 322 72 (.pointer (some a)) "buttery/msg.flag").run Try.prog w = .ok (some false) w := by kernel_rfl
theorem metw_flag (a : Addr) (w : World) : (method 322 72 (.pointer (some a)) "buttery/msg.flag").run Try.prog w = .ok (146, .pointer (some a)) w := by kernel_rfl
theorem nilw_many (a : Addr) (w : World) : (nilAhead 322 72 (.pointer (some a)) "buttery/msg.many").run Try.prog w = .ok (some false) w := by kernel_rfl
theorem metw_many (a : Addr) (w : World) : (method 322 72 (.pointer (some a)) "buttery/msg.many").run Try.prog w = .ok (148, .pointer (some a)) w := by kernel_rfl
theorem nilw_stopped (a : Addr) (w : World) : (nilAhead 322 72 (.pointer (some a)) "buttery/msg.stopped").run Try.prog w = .ok (some false) w := by kernel_rfl
theorem metw_stopped (a : Addr) (w : World) : (method 322 72 (.pointer (some a)) "buttery/msg.stopped").run Try.prog w = .ok (150, .pointer (some a)) w := by kernel_rfl
def wputs (s : WS) (xs : List (List UInt8)) : WS := xs.foldl wput s
theorem wputs_snoc (s : WS) (xs : List (List UInt8)) (x : List UInt8) : wputs s (xs ++ [x]) = wput (wputs s xs) x := by simp [wputs]
/-- where numbers lie, and which -/
def NumAt (w : World) (B : Nat) (p : Nat × Nat) (n : Int) : Prop := w.cell? ⟨p.1, p.2, none⟩ = some (.int .i64 n) ∧ I64 n ∧ p.1 < B
set_option maxHeartbeats 4000000 in
set_option maxRecDepth 100000 in
/-- nums -/
theorem w_nums (B k g : Nat) (s : WS) (ps : List (Nat × Nat)) (ns : List Int) (w : World) (h : WrP w B k s) (hl : ps.length = ns.length) (hl2 : ps.length ≤ 100)
    (hg : w.heap[g]? = some (.cells (ps.map fun p => Value.pointer (some ⟨p.1, p.2, none⟩)).toArray 92 (0, 0))) (hn : ∀ (i : Nat) (p : Nat × Nat) (n : Int), ps[i]? = some p → ns[i]? = some n → NumAt w B p n) :
    Calls Try.prog 80 #[.iface 72 (.pointer (some ⟨k, 0, none⟩)), .slice (some ⟨g, 0, none⟩) ps.length ps.length] w fun e w' => e = .returned (.tuple #[]) ∧ WrP w' B k (wputs s (ns.map fun n => uv (zz n))) ∧ Wrote B k w w' := by
  have hgk : g ≠ k := fun e => by
    subst e
    obtain ⟨v, hk, -⟩ := h.ex
    exact apart_T hg hk (by decide) rfl
  have H := Lib.hid h
  have HG := Lib.hid (And.intro hg hgk)
  have HN := Lib.hid hn
  have HL := Lib.hid hl
  have hm := metw_num
  have H0 : Hid (WrP w B k (wputs s ((ns.take 0).map fun n => uv (zz n))) ∧ Wrote B k w w) := Lib.hid ⟨h, Wrote.refl _ _ _⟩
  clear h hg hn hl hgk
  go_enter Try.func80, Try.ntmps80
  go_wp2_with fail
  go_loopw [5, 8] (fun _ s8 wr => ∃ i : Nat, s8 = .int .i64 (i : Int) ∧ i ≤ ps.length ∧ Hid (WrP wr B k (wputs s ((ns.take i).map fun n => uv (zz n))) ∧ Wrote B k w wr)) (fun _ s8 _ => ps.length - (intOf s8).toNat)
  case atStart => exact ⟨0, rfl, Nat.zero_le _, H0⟩
  case round =>
    clear H0
    obtain ⟨i, rfl, hi, hR⟩ := hrel
    obtain ⟨wz, hwz⟩ : ∃ wz : World, wz = wr := ⟨_, rfl⟩
    subst hwz
    by_cases hil : i < ps.length
    · have a1 : (i : Int) < (ps.length : Int) := by omega
      have a0 : (0 : Int) ≤ (i : Int) := by omega
      obtain ⟨⟨b, o⟩, hp⟩ : ∃ p, ps[i]? = some p := ⟨_, List.getElem?_eq_getElem hil⟩
      obtain ⟨n, hn⟩ : ∃ n, ns[i]? = some n := ⟨_, List.getElem?_eq_getElem (by rw [← HL.out]; exact hil)⟩
      obtain ⟨n1, n2, n3⟩ := HN.out i _ n hp hn
      dsimp only at n1 n3
      have hgz := (hR.out.2.block g (lt_of_heap HG.out.1) HG.out.2 (.inr fun cur hc => apart_T HG.out.1 hc (by decide) rfl)).trans HG.out.1
      have c1 : wz.cell? ⟨g, i, none⟩ = some (.pointer (some ⟨b, o, none⟩)) := ((blk_cells hgz).1 i).trans (by rw [List.getElem?_toArray, List.getElem?_map, hp]; rfl)
      have hbk : b ≠ k := by have := H.out.kB; omega
      have c2 : wz.cell? ⟨b, o, none⟩ = some (.int .i64 n) := (hR.out.2.cell (p := ⟨b, o, none⟩) (World.block_lt_of_cell? w _ n1) hbk (.inl n3)).trans n1
      have cN := wr_num B k b o _ n n2 wz hR.out.1 c2
      have e : (ns.take (i + 1)).map (fun n => uv (zz n)) = (ns.take i).map (fun n => uv (zz n)) ++ [uv (zz n)] := by rw [List.take_add_one, hn]; simp
      have HE := Lib.hid e
      have HW := Lib.hid hR.out.2
      clear hR hp hn n1 n2 n3 hgz hbk c2 e
      go_wp2_with fail
      refine cN.mono ?_
      rintro e w2 ⟨rfl, hp2, hw2⟩
      have HF : Hid (WrP w2 B k (wputs s ((ns.take (i + 1)).map fun n => uv (zz n))) ∧ Wrote B k w w2) := Lib.hid ⟨by rw [HE.out, wputs_snoc]; exact hp2, HW.out.trans hw2⟩
      clear hp2 hw2 cN c1
      go_wp2_with fail
      exact ⟨⟨i + 1, by go_num, hil, HF⟩, by simp [intOf]; omega⟩
    · have a1 : ¬ (i : Int) < (ps.length : Int) := by omega
      have e : ns.take i = ns := List.take_of_length_le (by rw [← HL.out]; omega)
      have HF := Lib.hid hR.out
      have HE := Lib.hid e
      clear hR e
      go_wp2_with fail
      go_end0
      exact ⟨rfl, by have := HF.out.1; rw [HE.out] at this; exact this, HF.out.2⟩
/-- where texts lie, and which -/
def TxtAt (w : World) (B : Nat) (p : Nat × Nat) (n : ByteArray) : Prop := w.cell? ⟨p.1, p.2, none⟩ = some (.string n) ∧ p.1 < B
set_option maxHeartbeats 4000000 in
set_option maxRecDepth 100000 in
/-- texts -/
theorem w_texts (B k g : Nat) (s : WS) (ps : List (Nat × Nat)) (ns : List ByteArray) (w : World) (h : WrP w B k s) (hl : ps.length = ns.length) (hl2 : ps.length ≤ 100)
    (hg : w.heap[g]? = some (.cells (ps.map fun p => Value.pointer (some ⟨p.1, p.2, none⟩)).toArray 136 (0, 0))) (hn : ∀ (i : Nat) (p : Nat × Nat) (n : ByteArray), ps[i]? = some p → ns[i]? = some n → TxtAt w B p n) :
    Calls Try.prog 90 #[.iface 72 (.pointer (some ⟨k, 0, none⟩)), .slice (some ⟨g, 0, none⟩) ps.length ps.length] w fun e w' => e = .returned (.tuple #[]) ∧ WrP w' B k (wputs s (ns.map fun n => tv n.data.toList)) ∧ Wrote B k w w' := by
  have hgk : g ≠ k := fun e => by
    subst e
    obtain ⟨v, hk, -⟩ := h.ex
    exact apart_T hg hk (by decide) rfl
  have H := Lib.hid h
  have HG := Lib.hid (And.intro hg hgk)
  have HN := Lib.hid hn
  have HL := Lib.hid hl
  have hm := metw_text
  have H0 : Hid (WrP w B k (wputs s ((ns.take 0).map fun n => tv n.data.toList)) ∧ Wrote B k w w) := Lib.hid ⟨h, Wrote.refl _ _ _⟩
  clear h hg hn hl hgk
  go_enter Try.func90, Try.ntmps90
  go_wp2_with fail
  go_loopw [5, 8] (fun _ s8 wr => ∃ i : Nat, s8 = .int .i64 (i : Int) ∧ i ≤ ps.length ∧ Hid (WrP wr B k (wputs s ((ns.take i).map fun n => tv n.data.toList)) ∧ Wrote B k w wr)) (fun _ s8 _ => ps.length - (intOf s8).toNat)
  case atStart => exact ⟨0, rfl, Nat.zero_le _, H0⟩
  case round =>
    clear H0
    obtain ⟨i, rfl, hi, hR⟩ := hrel
    obtain ⟨wz, hwz⟩ : ∃ wz : World, wz = wr := ⟨_, rfl⟩
    subst hwz
    by_cases hil : i < ps.length
    · have a1 : (i : Int) < (ps.length : Int) := by omega
      have a0 : (0 : Int) ≤ (i : Int) := by omega
      obtain ⟨⟨b, o⟩, hp⟩ : ∃ p, ps[i]? = some p := ⟨_, List.getElem?_eq_getElem hil⟩
      obtain ⟨n, hn⟩ : ∃ n, ns[i]? = some n := ⟨_, List.getElem?_eq_getElem (by rw [← HL.out]; exact hil)⟩
      obtain ⟨n1, n3⟩ := HN.out i _ n hp hn
      dsimp only at n1 n3
      have hgz := (hR.out.2.block g (lt_of_heap HG.out.1) HG.out.2 (.inr fun cur hc => apart_T HG.out.1 hc (by decide) rfl)).trans HG.out.1
      have c1 : wz.cell? ⟨g, i, none⟩ = some (.pointer (some ⟨b, o, none⟩)) := ((blk_cells hgz).1 i).trans (by rw [List.getElem?_toArray, List.getElem?_map, hp]; rfl)
      have hbk : b ≠ k := by have := H.out.kB; omega
      have c2 : wz.cell? ⟨b, o, none⟩ = some (.string n) := (hR.out.2.cell (p := ⟨b, o, none⟩) (World.block_lt_of_cell? w _ n1) hbk (.inl n3)).trans n1
      have cN := wr_text B k b o _ n wz hR.out.1 c2
      have e : (ns.take (i + 1)).map (fun n => tv n.data.toList) = (ns.take i).map (fun n => tv n.data.toList) ++ [tv n.data.toList] := by rw [List.take_add_one, hn]; simp
      have HE := Lib.hid e
      have HW := Lib.hid hR.out.2
      clear hR hp hn n1 n3 hgz hbk c2 e
      go_wp2_with fail
      refine cN.mono ?_
      rintro e w2 ⟨rfl, hp2, hw2⟩
      have HF : Hid (WrP w2 B k (wputs s ((ns.take (i + 1)).map fun n => tv n.data.toList)) ∧ Wrote B k w w2) := Lib.hid ⟨by rw [HE.out, wputs_snoc]; exact hp2, HW.out.trans hw2⟩
      clear hp2 hw2 cN c1
      go_wp2_with fail
      exact ⟨⟨i + 1, by go_num, hil, HF⟩, by simp [intOf]; omega⟩
    · have a1 : ¬ (i : Int) < (ps.length : Int) := by omega
      have e : ns.take i = ns := List.take_of_length_le (by rw [← HL.out]; omega)
      have HF := Lib.hid hR.out
      have HE := Lib.hid e
      clear hR e
      go_wp2_with fail
      go_end0
      exact ⟨rfl, by have := HF.out.1; rw [HE.out] at this; exact this, HF.out.2⟩
theorem wputs_nil (s : WS) : wputs s [] = s := rfl
theorem wputs_app (s : WS) (xs ys : List (List UInt8)) : wputs s (xs ++ ys) = wputs (wputs s xs) ys := by simp [wputs]
theorem wputs_cons (s : WS) (x : List UInt8) (xs : List (List UInt8)) : wputs s (x :: xs) = wputs (wput s x) xs := rfl
/-- a struct's cells, below the writer -/
structure CellsAt (w : World) (B b o : Nat) (vs : List Value) : Prop where
  lt : b < B
  lw : b < w.heap.size
  cell : ∀ (j : Nat) (v : Value), vs[j]? = some v → w.cell? ⟨b, o + j, none⟩ = some v
theorem CellsAt.wrote {w w' : World} {B k b o : Nat} {vs : List Value} (h : CellsAt w B b o vs) (hw : Wrote B k w w') (hk : B ≤ k) : CellsAt w' B b o vs :=
  ⟨h.lt, Nat.lt_of_lt_of_le h.lw hw.size, fun j v hv => (hw.cell (p := ⟨b, o + j, none⟩) h.lw (by have := h.lt; dsimp only; omega) (.inl h.lt)).trans (h.cell j v hv)⟩
theorem CellsAt.below {w w' : World} {B b o : Nat} {vs : List Value} (h : CellsAt w B b o vs) (hw : Below w.heap.size w w') : CellsAt w' B b o vs :=
  ⟨h.lt, Nat.lt_of_lt_of_le h.lw hw.size, fun j v hv => (hw.cell (p := ⟨b, o + j, none⟩) h.lw).trans (h.cell j v hv)⟩
end Go.Proofs.Ytblbcoknefgcaaa
