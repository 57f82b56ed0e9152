/-
  The program's ring: a piece is written. No statement is proved here. No condition.
-/
import Derived.Test.YtplpfhgdanclhaaRCut
namespace Go.Proofs.Ytplpfhgdanclhaa
open Go.RowKit

set_option maxHeartbeats 2000000 in
set_option maxRecDepth 100000 in
theorem pwrite_any {w : World} {G S : Nat → Prop} {r q : Nat} {R : RG} {D : DS} (h : RgAt w r q R) (hR : R.fine) (hD : PD w G S q D) (hF : Fine D) (hG : ∀ b, G b → b < w.heap.size ∧ b ≠ r) (p : Pc) (u : Value) (hp : p.fine) (hu : Rd w w.heap.size u p.data) :
    Calls Try.prog 41 #[.pointer (some ⟨r, 0, none⟩), pcv p u] w fun e w' => e = .returned (.int .i64 (D.write ((R.first + p.n % R.count : Nat) : Int) p.sec).1) ∧ Kept w w' (Mut G w) ∧ PD w' (More G w w') (More S w w') q (D.write ((R.first + p.n % R.count : Nat) : Int) p.sec).2 := by
  have hsec : ∀ W, Below w.heap.size w W → Calls Try.prog 57 #[pcv p u] W fun e w' => e = .returned (.agg (sec p.sec)) ∧ Below W.heap.size W w' := fun W hW => psector_any p u W hp (hu.below hW hW.size)
  have hsl := p.sec_length hp.2.2.1
  have hzero := rsec_zero
  obtain ⟨Z, hZ⟩ : ∃ Z, Z = sec (List.replicate 512 0) := ⟨_, rfl⟩
  have hZs : Z.size = 512 := by rw [hZ, sec_size, List.length_replicate]
  simp only [← hZ] at hzero
  have hmod : (p.n : Int).tmod (R.count : Int) = ((p.n % R.count : Nat) : Int) := by rw [Int.tmod_eq_emod_of_nonneg (by omega)]; exact (Int.natCast_emod _ _).symm
  have hcz : ¬ R.count = 0 := by have := hR.pos; omega
  have hml : p.n % R.count < R.count := Nat.mod_lt _ hR.pos
  have hroom := hR.room
  obtain ⟨m, hm⟩ : ∃ m, m = p.n % R.count := ⟨_, rfl⟩
  rw [← hm] at hmod hml ⊢
  obtain ⟨T, hT⟩ : ∃ T, T = p.sec := ⟨_, rfl⟩
  rw [← hT] at hsec hsl ⊢
  have hto := sec_one T
  have hts : (sec T).size = 512 := by rw [sec_size, hsl]
  obtain ⟨X, hX⟩ : ∃ X, X = sec T := ⟨_, rfl⟩
  rw [← hX] at hts hto
  simp only [← hX] at hsec
  have HX := Lib.hid hX
  have H := Lib.hid h
  have HD := Lib.hid hD
  obtain ⟨n, last, data⟩ := p
  unfold pcv at hsec ⊢
  have hb0 : Below w.heap.size w (w.alloc (.cells #[.int .i64 (n : Int), .bool last, u] 81)) := (Below.refl _ _).alloc (Nat.le_refl _) _
  have hs := hsec _ hb0
  have HB0 := Lib.hid hb0
  have lr := h.lt
  have hp0 : (w.alloc (.cells #[.int .i64 (n : Int), .bool last, u] 81)).heap[w.heap.size]? = some (.cells #[.int .i64 (n : Int), .bool last, u] 81 (0, 0)) := heap_alloc_new _ _
  have HP0 := Lib.hid hp0
  clear h hD hX hT hm hZ hsec hu hb0 hp0 hR
  go_enter Try.func41, Try.ntmps41
  go_wp2_with fail
  refine hs.mono ?_
  rintro e w1 ⟨rfl, hb1⟩
  clear hs
  have hnewb := heap_alloc_new w1 (.cells Z 102)
  go_wp2_with (first
      | (refine wpList_store_row rfl 102 (.tmp 5) (.tmp 7) rfl w1.heap.size X rfl rfl 102 Z hnewb (by rw [hts]; exact rsec_info) (by rw [hts]; exact hZs) hto ?_))
  have hfin := setRow_heap (w1.alloc (.cells Z 102)) w1.heap.size Z X _ _ hnewb
  have hbl : Below w.heap.size w ((w1.alloc (.cells Z 102)).setRow w1.heap.size X) := by
    have h1 := HB0.out.trans (Joins.below_le hb1 HB0.out.size)
    exact below_setRow (h1.alloc h1.size _) h1.size _
  have hz1 : w.heap.size < w1.heap.size := by have := hb1.size; simp at this; omega
  have hpp : ((w1.alloc (.cells Z 102)).setRow w1.heap.size X).heap[w.heap.size]? = some (.cells #[.int .i64 (n : Int), .bool last, u] 81 (0, 0)) := by
    rw [setRow_other _ _ _ _ (by omega), Below.heap_alloc _ _ _ hz1, hb1.block _ (by simp)]
    exact HP0.out
  obtain ⟨g, hg⟩ : ∃ g, g = w1.heap.size := ⟨_, rfl⟩
  obtain ⟨w2, hw2⟩ : ∃ w2, w2 = (w1.alloc (.cells Z 102)).setRow w1.heap.size X := ⟨_, rfl⟩
  rw [← hw2] at hfin hbl hpp
  rw [← hw2, ← hg]
  rw [← hg] at hfin
  have hgl : g < w2.heap.size := (Array.getElem?_eq_some_iff.1 hfin).1
  have hr2 : RgAt w2 r q R := H.out.kept (hbl.block r lr)
  have hD2 : PD w2.drew G S q D := HD.out.kept (fun _ h => h) (fun _ h => h) (fun b hb _ => hbl.block b hb) (fun b _ _ hb => hbl.block b hb)
  have hrd : Rd w2.drew w2.drew.heap.size (.slice (some ⟨g, 0, none⟩) 512 512) T := by
    refine ⟨some ⟨g, 0, none⟩, 512, by rw [hsl], by omega, by unfold maxLen; omega, (fun h => by cases h), fun _ => ⟨g, 0, rfl, hgl, fun i x hx => ?_⟩⟩
    have := (row7 hfin).1 i
    rw [HX.out] at this
    have hil : i < T.length := (List.getElem?_eq_some_iff.1 hx).1
    rw [sec_getD T hil, List.getD_eq_getElem?_getD, hx] at this
    rw [Nat.zero_add]
    exact this
  have cw := pWrite_any G S q D ((R.first + m : Nat) : Int) _ T w2.drew hD2 hrd hF
  obtain ⟨R1, hR1⟩ : ∃ R1, R1 = D.write ((R.first + m : Nat) : Int) T := ⟨_, rfl⟩
  rw [← hR1, show ((R.first + m : Nat) : Int) = (R.first : Int) + (m : Int) from rfl] at cw
  have HR1 := Lib.hid hR1
  have HBL := Lib.hid hbl
  have c0 := hr2.c0
  have c1 := hr2.c1
  have c2 := hr2.c2
  have p0 : w2.cell? ⟨w.heap.size, 0, none⟩ = some (.int .i64 (n : Int)) := (row7 hpp).1 0
  have hpl : w.heap.size < w2.heap.size := (Array.getElem?_eq_some_iff.1 hpp).1
  clear hr2 hD2 hrd hpp hfin hw2 hbl hR1 hnewb hg hb1 HB0 HP0
  have CW := Lib.hid cw
  clear cw
  have hst : w2.drew.cell? ⟨r, 0, none⟩ = some (.pointer (some ⟨q, 0, none⟩)) ∧ w2.drew.cell? ⟨r, 1, none⟩ = some (.int .i64 (R.first : Int)) ∧ w2.drew.cell? ⟨r, 2, none⟩ = some (.int .i64 (R.count : Int)) ∧ w2.drew.cell? ⟨w.heap.size, 0, none⟩ = some (.int .i64 (n : Int)) := ⟨c0, c1, c2, p0⟩
  have hwl : w.heap.size < w2.drew.heap.size := hpl
  have hrl : r < w2.drew.heap.size := by omega
  have hkeep : ∀ w3, Kept w2.drew w3 (Mut G w2.drew) → w3.cell? ⟨r, 0, none⟩ = some (.pointer (some ⟨q, 0, none⟩)) ∧ w3.cell? ⟨r, 1, none⟩ = some (.int .i64 (R.first : Int)) ∧ w3.cell? ⟨r, 2, none⟩ = some (.int .i64 (R.count : Int)) ∧ w3.cell? ⟨w.heap.size, 0, none⟩ = some (.int .i64 (n : Int)) := fun w3 hk => by
    have n1 : ¬ Mut G w2.drew r := fun hm => (hG r hm.1).2 rfl
    have n2 : ¬ Mut G w2.drew w.heap.size := fun hm => absurd (hG _ hm.1).1 (by omega)
    exact ⟨(hk.cell (p := ⟨r, 0, none⟩) hrl n1).trans hst.1, (hk.cell (p := ⟨r, 1, none⟩) hrl n1).trans hst.2.1, (hk.cell (p := ⟨r, 2, none⟩) hrl n1).trans hst.2.2.1, (hk.cell (p := ⟨w.heap.size, 0, none⟩) hwl n2).trans hst.2.2.2⟩
  have HKEEP := Lib.hid hkeep
  have hwr : IntKind.i64.wrap ((R.first : Int) + (m : Int)) = (R.first : Int) + (m : Int) := by rw [IntKind.wrap_i64]; omega
  clear hkeep
  simp only [Act.put]
  go_region_held3 (fun w' => w'.cell? ⟨r, 0, none⟩ = some (.pointer (some ⟨q, 0, none⟩)) ∧ w'.cell? ⟨r, 1, none⟩ = some (.int .i64 (R.first : Int)) ∧ w'.cell? ⟨r, 2, none⟩ = some (.int .i64 (R.count : Int)) ∧ w'.cell? ⟨w.heap.size, 0, none⟩ = some (.int .i64 (n : Int))) (first | exact hst | exact hst3)
    (first
      | (go_at_call 21; refine CW.out.mono ?_; rintro e w3 ⟨rfl, hk3, hd3⟩; have hst3 := HKEEP.out w3 hk3))
  go_wp2_with fail
  go_ret
  rw [show ((R.first + m : Nat) : Int) = (R.first : Int) + (m : Int) from rfl] at HR1 ⊢
  rw [← HR1.out]
  have h1 : Kept w w2.drew (Mut G w) := Kept.ofBelow (F := Mut G w) HBL.out.drew
  have hsz : w.heap.size ≤ w2.drew.heap.size := h1.size
  have hs3 := hk3.size
  exact ⟨rfl, h1.transM hk3 (fun _ h _ => h), hd3.mono (fun b h => h.elim .inl fun h => .inr ⟨by omega, h.2⟩) (fun b h => h.elim .inl fun h => .inr ⟨by omega, h.2⟩)⟩
end Go.Proofs.Ytplpfhgdanclhaa
