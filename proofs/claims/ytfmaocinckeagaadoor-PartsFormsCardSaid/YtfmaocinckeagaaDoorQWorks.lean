/-
  New and Len; the laws' first question. No statement is proved here. Condition: the table reads as the program lays it.
-/
import Derived.Test.YtfmaocinckeagaaDoorQPart
import Derived.Carry
namespace Go.Proofs.YtfmaocinckeagaaDoor
open Go.RowKit

set_option maxHeartbeats 1000000 in
set_option maxRecDepth 100000 in
theorem pnew_any (w : World) : Calls Tryd.prog 12 #[] w fun r w' => ∃ j mb, r = .returned (.pointer (some ⟨j, 0, none⟩)) ∧ JAt w' (fun b => w.heap.size ≤ b) j mb (.slice none 0 0) 0 [] ∧ Below w.heap.size w w' := by
  obtain ⟨w1, hw1⟩ : ∃ w1, w1 = w.alloc (.map #[] 0) := ⟨_, rfl⟩
  have hb1 : Below w.heap.size w w1 := by rw [hw1]; exact (Below.refl _ _).alloc (Nat.le_refl _) _
  have hm1 : MapJ w1 w.heap.size 0 [] := by rw [hw1]; exact MapJ.made w
  have hs1 : w1.heap.size = w.heap.size + 1 := by rw [hw1]; simp
  obtain ⟨w2, hw2⟩ : ∃ w2, w2 = w1.alloc (.cells #[.map (some w.heap.size), .slice none 0 0] 63) := ⟨_, rfl⟩
  have hb2 : Below w1.heap.size w1 w2 := by rw [hw2]; exact (Below.refl _ _).alloc (Nat.le_refl _) _
  have hx2 : w2.heap[w1.heap.size]? = some (.cells #[.map (some w.heap.size), .slice none 0 0] 63 (0, 0)) := by rw [hw2]; exact heap_alloc_new w1 _
  have hJ : JAt w2 (fun b => w.heap.size ≤ b) w1.heap.size w.heap.size (.slice none 0 0) 0 [] :=
    ⟨hx2, Rec.Own.none _ _ _ _, hm1.same (hb2.block _ (by omega)), (fun e he => by cases he), (fun e he => by cases he), by simp, by simp, by simp, by show w.heap.size ≤ w1.heap.size; omega, Nat.le_refl _, (fun b hb => by cases hb), (fun e he => by cases he)⟩
  rw [hs1] at hJ
  have HJ := Lib.hid hJ
  have HB := Lib.hid (hb1.trans (Joins.below_le hb2 (by omega)))
  have HW1 := Lib.hid hw1
  have HW2 := Lib.hid hw2
  have hmm := run_makeMap (P := Tryd.prog) 60 w
  clear hJ hb1 hb2 hm1 hx2 hw1 hw2 hs1
  go_enter Tryd.func12, Tryd.ntmps12
  go_wp2_with fail
  rw [← HW1.out, ← HW2.out]
  go_ret
  exact ⟨_, _, rfl, HJ.out, HB.out⟩
set_option maxHeartbeats 1000000 in
set_option maxRecDepth 100000 in
theorem plen_any {w : World} {G : Nat → Prop} {j mb n : Nat} {rv : Value} {L : List KE} (h : JAt w G j mb rv n L) : Calls Tryd.prog 14 #[.pointer (some ⟨j, 0, none⟩)] w fun r w' => r = .returned (.int .i64 (L.length : Int)) ∧ w' = w := by
  obtain ⟨A, c, hrv⟩ := h.row.slice
  rw [List.length_map] at hrv
  subst hrv
  have c1 : w.cell? ⟨j, 1, none⟩ = some (.slice A L.length c) := (blk_cells h.obj).1 1
  clear h
  go_enter Tryd.func14, Tryd.ntmps14
  go_wp2_with fail
  go_ret
  exact ⟨rfl, rfl⟩
/-- packets that lie in blocks below C -/
def Pks (w : World) (C : Nat) (v : Value) (ls : List (List UInt8)) : Prop := ∃ ss : List Sl, slR.N w (fun b => b < C) v ss ∧ ss.length = ls.length ∧ ∀ (i : Nat) (s : Sl) (l : List UInt8), ss[i]? = some s → ls[i]? = some l → Rd w C s.v l
section
variable {w w' : World} {C : Nat} {v : Value} {ls : List (List UInt8)}
theorem Pks.of {B : Nat} {ss : List Sl} (h : Cuts w B v ls ss) : Pks w w.heap.size v ls := ⟨ss, RowN.of_own h.row fun b hb => (h.row.lt b hb).2, h.len, fun _ _ _ hs hl => h.rd hs hl⟩
theorem Pks.kept {G : Nat → Prop} (h : Pks w C v ls) (hK : Kept w w' G) (hG : ∀ b, b < C → ¬ G b) (hC : C ≤ w.heap.size) : Pks w' C v ls := by
  obtain ⟨ss, h1, h2, h3⟩ := h
  exact ⟨ss, h1.kept (fun _ hb _ => hb) hK.size (fun b hb hs => hK.block b hs (hG b hb)), h2, fun i s l hs hl => (h3 i s l hs hl).keep (Nat.le_refl _) fun p hp => hK.cell (by omega) (hG _ hp)⟩
theorem Pks.below (h : Pks w C v ls) (hb : Below w.heap.size w w') (hC : C ≤ w.heap.size) : Pks w' C v ls := h.kept (G := fun b => w.heap.size ≤ b) ⟨hb.os, hb.tape, hb.output, hb.size, fun b hb' _ => hb.block b hb'⟩ (fun b hb' => by omega) hC
theorem Pks.wider {D : Nat} (h : Pks w C v ls) (hD : C ≤ D) : Pks w D v ls := by
  obtain ⟨ss, h1, h2, h3⟩ := h
  exact ⟨ss, h1.mono fun b hb _ => Nat.lt_of_lt_of_le hb hD, h2, fun i s l hs hl => (h3 i s l hs hl).keep hD fun _ _ => rfl⟩
theorem Pks.slice (h : Pks w C v ls) : ∃ A c, v = .slice A ls.length c := by
  obtain ⟨ss, h1, h2, -⟩ := h
  obtain ⟨A, c, hv, -⟩ := h1.slice
  exact ⟨A, c, by rw [hv, h2]⟩
/-- the packet at a place: its head's cell, and its bytes -/
theorem Pks.at_ (h : Pks w C v ls) {i : Nat} {l : List UInt8} (hl : ls[i]? = some l) : ∃ b o n k A c, v = .slice (some ⟨b, o, none⟩) n k ∧ w.cell? ⟨b, o + i, none⟩ = some (.slice A l.length c) ∧ Rd w C (.slice A l.length c) l := by
  obtain ⟨ss, h1, h2, h3⟩ := h
  obtain ⟨s, hs⟩ : ∃ s, ss[i]? = some s := ⟨_, List.getElem?_eq_getElem (by rw [h2]; exact (List.getElem?_eq_some_iff.1 hl).1)⟩
  obtain ⟨b, o, n, k, hv, -, -, hc⟩ := h1.cell hs
  have hr := h3 i s l hs hl
  have hc0 := hc 0 _ rfl
  rw [show o + i * slR.size + 0 = o + i by show o + i * 1 + 0 = o + i; omega] at hc0
  obtain ⟨sa, sn, sc⟩ := s
  have hsn : sn = l.length := by
    obtain ⟨A0, c0, he, -⟩ := hr
    unfold Sl.v at he
    injection he
  subst hsn
  exact ⟨b, o, n, k, sa, sc, hv, hc0, hr⟩
theorem Tab.kept {G : Nat → Prop} (h : Tab w) (hK : Kept w w' G) (h0 : ¬ G 0) : Tab w' := ⟨Nat.lt_of_lt_of_le h.1 hK.size, fun i hi => (hK.cell (p := ⟨0, i, none⟩) h.1 h0).trans (h.2 i hi)⟩
theorem keys_k (L : List KE) : (L.map KE.k).map KP.key = L.map KE.key := by rw [List.map_map]; rfl
end
/-- a joiner as the laws have it -/
structure JHas (w : World) (G : Nat → Prop) (j mb n : Nat) (J : List KP) : Prop where
  is : ∃ rv L, JAt w G j mb rv n L ∧ L.map KE.k = J
  ok : okJ J
theorem JHas.nodup {w : World} {G : Nat → Prop} {j mb n : Nat} {J : List KP} (h : JHas w G j mb n J) : (J.map KP.key).Nodup := by
  obtain ⟨rv, L, hJ, rfl⟩ := h.is
  rw [keys_k]
  exact hJ.keys
theorem JHas.kept {w w' : World} {G F : Nat → Prop} {j mb n : Nat} {J : List KP} (h : JHas w G j mb n J) (hk : Kept w w' F) (hF : ∀ b, G b → ¬ F b) : JHas w' G j mb n J := by
  obtain ⟨rv, L, hJ, e⟩ := h.is
  exact ⟨⟨rv, L, hJ.kept hk hF, e⟩, h.ok⟩
theorem JHas.grow {w w' : World} {G : Nat → Prop} {j mb n : Nat} {J : List KP} (h : JHas w G j mb n J) (hb : Below w.heap.size w w') : JHas w' G j mb n J := by
  obtain ⟨rv, L, hJ, e⟩ := h.is
  exact ⟨⟨rv, L, hJ.grow hb, e⟩, h.ok⟩
theorem JHas.mono {w : World} {G G' : Nat → Prop} {j mb n : Nat} {J : List KP} (h : JHas w G j mb n J) (hG : ∀ b, b < w.heap.size → G b → G' b) : JHas w G' j mb n J := by
  obtain ⟨rv, L, hJ, e⟩ := h.is
  exact ⟨⟨rv, L, hJ.mono hG, e⟩, h.ok⟩
theorem jnew_any (w : World) : Calls Tryd.prog 12 #[] w fun r w' => ∃ j mb, r = .returned (.pointer (some ⟨j, 0, none⟩)) ∧ JHas w' (fun b => w.heap.size ≤ b) j mb 0 [] ∧ Below w.heap.size w w' :=
  (pnew_any w).mono fun _ _ ⟨j, mb, h1, h2, h3⟩ => ⟨j, mb, h1, ⟨⟨_, [], h2, rfl⟩, ⟨(fun k hk => by cases hk), Nat.zero_le _⟩⟩, h3⟩
theorem jlen_any {w : World} {G : Nat → Prop} {j mb n : Nat} {J : List KP} (h : JHas w G j mb n J) : Calls Tryd.prog 14 #[.pointer (some ⟨j, 0, none⟩)] w fun r w' => r = .returned (.int .i64 (J.length : Int)) ∧ w' = w := by
  obtain ⟨rv, L, hJ, rfl⟩ := h.is
  rw [List.length_map]
  exact plen_any hJ
/-- a Take of any packet that is read -/
theorem jtake_any {w : World} {G : Nat → Prop} {j mb n : Nat} {J : List KP} (h : JHas w G j mb n J) (l : List UInt8) (v : Value) (frm : Int) (hf : I64 frm) (p : Part) (ht : Tab w) (hv : Rd w w.heap.size v l) (hl : l.length ≤ 140737488355328) (hr : readP l = (0, some p)) (hn : n < maxLen) (hfr : ∀ b, w.heap.size ≤ b → G b) :
    Calls Tryd.prog 13 #[.pointer (some ⟨j, 0, none⟩), .int .i64 frm, v] w fun r w' => ∃ v' k, r = .returned (.tuple #[v', .bool (stepJ J (frm, (p.number : Int)) p).1.isSome, .int .i64 0]) ∧ w'.ownsRow w.heap.size 5 1 v' k (BS ((stepJ J (frm, (p.number : Int)) p).1.getD [])) ∧ JHas w' G j mb (n + 1) (stepJ J (frm, (p.number : Int)) p).2 ∧ Kept w w' G := by
  obtain ⟨rv, L, hJ, rfl⟩ := h.is
  refine (ptake_any hJ h.ok l v frm hf p ht hv hl hr hn hfr).mono fun r w' hpost => ?_
  obtain ⟨v', k, rv', n', L', e1, e2, e3, e4, e5, e6⟩ := hpost
  refine ⟨v', k, e2, e3, ⟨⟨rv', L', ?_, e1⟩, okJ_step h.ok (readP_ok hr).2⟩, e6⟩
  exact ⟨e4.obj, e4.row, e4.map.mono e5, e4.msg, e4.good, e4.keys, e4.ps, e4.ss, e4.gj, e4.gm, e4.gr, e4.ge⟩
/-- a Take of a packet of a message -/
theorem jtake_cut {w : World} {G : Nat → Prop} {j mb n : Nat} {J : List KP} (h : JHas w G j mb n J) (hJ : J.length < 16) {l : List UInt8} {t : Nat → Bool} {f : Int} {nr i : Nat} (hf : I64 f) (hnr : nr ≤ 2147483647) (hlk : look J (f, (nr : Int)) = hasP (f, (nr : Int)) l t) (hi : i < many l) (hall : allT (many l) t = false) (hl : l.length ≤ 8192)
    (v : Value) (ht : Tab w) (hv : Rd w w.heap.size v (pkt nr i (many l) (piece l i))) (hn : n < maxLen) (hfr : ∀ b, w.heap.size ≤ b → G b) :
    Calls Tryd.prog 13 #[.pointer (some ⟨j, 0, none⟩), .int .i64 f, v] w fun r w' => ∃ v' k J', r = .returned (.tuple #[v', .bool (allT (many l) (addT t i)), .int .i64 0]) ∧ w'.ownsRow w.heap.size 5 1 v' k (BS (if allT (many l) (addT t i) then l else [])) ∧ JHas w' G j mb (n + 1) J' ∧ Kept w w' G ∧
      ∀ q, look J' q = if (f, (nr : Int)) = q then (if allT (many l) (addT t i) then none else hasP (f, (nr : Int)) l (addT t i)) else look J q := by
  have hm := many_small hl
  have hr := read_cut (n := nr) hnr hl hi
  obtain ⟨s1, s2⟩ := step_msg hJ h.nodup hlk hi hall
  have hpl := pkt_small hnr (show i ≤ 22 by omega) hm (piece_length l i)
  refine (jtake_any h _ v f hf _ ht hv (by omega) hr hn hfr).mono fun r w' hpost => ?_
  obtain ⟨v', k, e1, e2, e3, e4⟩ := hpost
  dsimp only at e1 e2 e3 s1 s2
  rw [s1] at e1 e2
  refine ⟨v', k, _, ?_, ?_, e3, e4, s2⟩
  · rw [e1]; cases allT (many l) (addT t i) <;> rfl
  · cases hA : allT (many l) (addT t i) <;> (rw [hA] at e2; exact e2)
end Go.Proofs.YtfmaocinckeagaaDoor
