/-
  The program's Do. No statement is proved here. No condition.
-/
import Derived.Test.YtlgjidoehnhnoaaEPutP
import Derived.Test.YtlgjidoehnhnoaaEDel
import Derived.Test.YtlgjidoehnhnoaaEClone
namespace Go.Proofs.Ytlgjidoehnhnoaa
open Go.RowKit

theorem own_far {α : Type} {R : Rec α} {w w' : World} {B : Nat} {T : TypeId} {v : Value} {l : List α} (h : R.Own w B T v l) (hk : ∀ b, v.ownBlock = some b → w'.heap[b]? = w.heap[b]?) : R.Own w' B T v l := row_same h fun p hp => hk p hp
theorem heap_setCell_far (w : World) (g o : Nat) (x : Value) {b : Nat} (hb : b ≠ g) : (w.setCell ⟨g, o, none⟩ x).heap[b]? = w.heap[b]? := by
  unfold World.setCell
  rw [Array.getElem?_modify, if_neg (fun e => hb e.symm)]
theorem res_set1 {w : World} {g : Nat} {T : TypeId} {a b c x : Value} (h : w.heap[g]? = some (.cells #[a, b, c] T (0, 0))) : (w.setCell ⟨g, 1, none⟩ x).heap[g]? = some (.cells #[a, x, c] T (0, 0)) := by
  rw [setCell_eq_setRow w g 1 _ T (0, 0) x h]
  exact setRow_heap w g _ _ T _ h
theorem res_set2 {w : World} {g : Nat} {T : TypeId} {a b c x y : Value} (h : w.heap[g]? = some (.cells #[a, b, c] T (0, 0))) : ((w.setCell ⟨g, 1, none⟩ x).setCell ⟨g, 2, none⟩ y).heap[g]? = some (.cells #[a, x, y] T (0, 0)) := by
  have h1 := res_set1 (x := x) h
  rw [setCell_eq_setRow _ g 2 _ T (0, 0) y h1]
  exact setRow_heap _ g _ _ T _ h1

set_option maxHeartbeats 8000000 in
set_option maxRecDepth 100000 in
theorem pdo_any (l : List PP) (o : PO) (v : Value) (w : World) (h : pairR.N w Any v l) (hl : l.length ≤ 4398046511000) (hk : 0 ≤ o.kind ∧ o.kind ≤ 255) :
    Calls Try.prog 11 #[v, o.agg] w fun e w' => ∃ v', e = .returned (.tuple #[v', (doE l o).2.agg, .int .i64 o.err]) ∧ pairR.Own w' w.heap.size 24 v' (doE l o).1 ∧ Below w.heap.size w w' := by
  obtain ⟨A, c, rfl, hlc, hcm⟩ := h.slice
  obtain ⟨w1, hw1⟩ : ∃ w1, w1 = w.alloc (.cells #[.int .u8 o.kind, .string o.key, .string o.val, .string o.old, .bool o.had] 32) := ⟨_, rfl⟩
  have hb1 : Below w.heap.size w w1 := by rw [hw1]; exact (Below.refl _ _).alloc (Nat.le_refl _) _
  have hx1 : w1.heap[w.heap.size]? = some (.cells #[.int .u8 o.kind, .string o.key, .string o.val, .string o.old, .bool o.had] 32 (0, 0)) := by rw [hw1]; exact heap_alloc_new w _
  have hs1 : w1.heap.size = w.heap.size + 1 := by rw [hw1]; simp
  obtain ⟨w2, hw2⟩ : ∃ w2, w2 = w1.alloc (.cells #[.int .u8 0, .bool false, .string ⟨#[]⟩] 27) := ⟨_, rfl⟩
  have hb2 : Below w1.heap.size w1 w2 := by rw [hw2]; exact (Below.refl _ _).alloc (Nat.le_refl _) _
  have hx2 := (hb2.block _ (by omega)).trans hx1
  have hy2 : w2.heap[w.heap.size + 1]? = some (.cells #[.int .u8 0, .bool false, .string ⟨#[]⟩] 27 (0, 0)) := by rw [hw2, ← hs1]; exact heap_alloc_new w1 _
  have hs2 : w2.heap.size = w.heap.size + 2 := by rw [hw2]; simp [hs1]
  have hbw : Below w.heap.size w w2 := hb1.trans (Joins.below_le hb2 (by omega))
  have hz := zero_res
  have hzp : ∀ W, (zeroValue 24).run Try.prog W = .ok (.agg #[.string ⟨#[]⟩, .string ⟨#[]⟩]) W := fun W => by kernel_rfl
  have hfin : ∀ (W : World) (a : Int) (b : Bool) (s : ByteArray), Below w2.heap.size w2 W →
      (W.cell? ⟨w.heap.size + 1, 0, none⟩ = some (.int .u8 0) ∧ W.cell? ⟨w.heap.size + 1, 1, none⟩ = some (.bool false) ∧ W.cell? ⟨w.heap.size + 1, 2, none⟩ = some (.string ⟨#[]⟩) ∧ W.frozen? ⟨w.heap.size + 1, 0, none⟩ = false ∧ W.frozen? ⟨w.heap.size + 1, 1, none⟩ = false ∧ W.frozen? ⟨w.heap.size + 1, 2, none⟩ = false) ∧
      ∃ wf, wf = ((W.setCell ⟨w.heap.size + 1, 0, none⟩ (.int .u8 a)).setCell ⟨w.heap.size + 1, 1, none⟩ (.bool b)).setCell ⟨w.heap.size + 1, 2, none⟩ (.string s) ∧
        (wf.cell? ⟨w.heap.size + 1, 0, none⟩ = some (.int .u8 a) ∧ wf.cell? ⟨w.heap.size + 1, 1, none⟩ = some (.bool b) ∧ wf.cell? ⟨w.heap.size + 1, 2, none⟩ = some (.string s)) ∧ Below w.heap.size w wf ∧ (∀ b, b ≠ w.heap.size + 1 → wf.heap[b]? = W.heap[b]?) := fun W a b s hW => by
    have e := (hW.block _ (by omega)).trans hy2
    have e2 := set3_at (x := .int .u8 a) (y := .bool b) (z := .string s) e
    exact ⟨⟨(blk_cells e).1 0, (blk_cells e).1 1, (blk_cells e).1 2, (blk_cells e).2 0, (blk_cells e).2 1, (blk_cells e).2 2⟩, _, rfl, ⟨(blk_cells e2).1 0, (blk_cells e2).1 1, (blk_cells e2).1 2⟩, set3_below (hbw.trans (Joins.below_le hW (by omega))) (by omega), fun b hb => set3_far hb⟩
  have cC := pcheck_any o w2 hk
  obtain ⟨er, her⟩ : ∃ er, er = o.err := ⟨_, rfl⟩
  rw [← her] at cC ⊢
  obtain ⟨D, hDD⟩ : ∃ D, D = doE l o := ⟨_, rfl⟩
  rw [← hDD]
  have HDD := Lib.hid hDD
  clear hDD
  have HER := Lib.hid her
  have HN := Lib.hid (h.grow hbw)
  have HFIN := Lib.hid hfin
  have HX2 := Lib.hid hx2
  have HS2 := Lib.hid hs2
  have HW1 := Lib.hid hw1
  have HW2 := Lib.hid hw2
  obtain ⟨p0, p1, p2, p3, p4⟩ : w2.cell? ⟨w.heap.size, 0, none⟩ = some (.int .u8 o.kind) ∧ w2.cell? ⟨w.heap.size, 1, none⟩ = some (.string o.key) ∧ w2.cell? ⟨w.heap.size, 2, none⟩ = some (.string o.val) ∧ w2.cell? ⟨w.heap.size, 3, none⟩ = some (.string o.old) ∧ w2.cell? ⟨w.heap.size, 4, none⟩ = some (.bool o.had) := ⟨(blk_cells hx2).1 0, (blk_cells hx2).1 1, (blk_cells hx2).1 2, (blk_cells hx2).1 3, (blk_cells hx2).1 4⟩
  unfold maxLen at hcm
  obtain ⟨hk0, hk1⟩ := hk
  clear h hw1 hw2 hb1 hb2 hx1 hx2 hy2 hs1 hs2 hbw hfin her
  unfold PO.agg at cC ⊢
  go_enter Try.func11, Try.ntmps11
  go_upto_region 1 with fail
  rw [← HW1.out, ← HW2.out]
  go_wp2_with fail
  refine cC.mono ?_
  rintro e w3 ⟨rfl, hb3⟩
  clear cC p0 p1 p2 p3 p4
  by_cases he : er = 0
  · subst he
    have hdo : D = doP l o := by rw [HDD.out]; unfold doE; rw [if_neg (by rw [← HER.out]; simp)]
    have HDO := Lib.hid hdo
    have hop : w3.heap[w.heap.size]? = some (.cells #[.int .u8 o.kind, .string o.key, .string o.val, .string o.old, .bool o.had] 32 (0, 0)) := (hb3.block _ (by have := HS2.out; omega)).trans HX2.out
    obtain ⟨p30, p31, p32, p33, p34⟩ : w3.cell? ⟨w.heap.size, 0, none⟩ = some (.int .u8 o.kind) ∧ w3.cell? ⟨w.heap.size, 1, none⟩ = some (.string o.key) ∧ w3.cell? ⟨w.heap.size, 2, none⟩ = some (.string o.val) ∧ w3.cell? ⟨w.heap.size, 3, none⟩ = some (.string o.old) ∧ w3.cell? ⟨w.heap.size, 4, none⟩ = some (.bool o.had) := ⟨(blk_cells hop).1 0, (blk_cells hop).1 1, (blk_cells hop).1 2, (blk_cells hop).1 3, (blk_cells hop).1 4⟩
    clear hop
    have cF := pfind_any l o.key _ w3 (HN.out.grow hb3)
    obtain ⟨fb, hfb⟩ : ∃ fb, fb = (findP l o.key).isSome := ⟨_, rfl⟩
    obtain ⟨fv, hfv⟩ : ∃ fv, fv = (findP l o.key).getD ⟨#[]⟩ := ⟨_, rfl⟩
    rw [← hfb, ← hfv] at cF
    have HFB := Lib.hid hfb
    have HFV := Lib.hid hfv
    clear hfb hfv hdo
    go_wp2_with fail
    refine cF.mono ?_
    rintro e w4 ⟨rfl, hb4'⟩
    have hb4 := hb3.trans (Joins.below_le hb4' hb3.size)
    have cCl := clonePair_any l _ w4 (HN.out.grow hb4) hl
    clear cF p30 p31 p32 p33 p34 hb4' hb3
    go_wp2_with fail
    refine cCl.mono ?_
    rintro e w5 ⟨v5, rfl, ho5, hb5'⟩
    have hb5 := hb4.trans (Joins.below_le hb5' hb4.size)
    have hs4 := hb4.size
    obtain ⟨A5, c5, rfl⟩ := ho5.slice
    obtain ⟨w6, hw6⟩ : ∃ w6, w6 = w5.alloc (.cells #[.int .u8 1, .bool false, .string ⟨#[]⟩] 27) := ⟨_, rfl⟩
    have hb56 : Below w5.heap.size w5 w6 := by rw [hw6]; exact (Below.refl _ _).alloc (Nat.le_refl _) _
    have hx6 : w6.heap[w5.heap.size]? = some (.cells #[.int .u8 1, .bool false, .string ⟨#[]⟩] 27 (0, 0)) := by rw [hw6]; exact heap_alloc_new w5 _
    have hb6 := hb5.trans (Joins.below_le hb56 hb5.size)
    have ho6 := Rec.Own.below ho5 hb56
    have hs6 : w6.heap.size = w5.heap.size + 1 := by rw [hw6]; simp
    have hs5 := hb5'.size
    have hfr : ∀ b, (Value.slice A5 l.length c5).ownBlock = some b → w4.heap.size ≤ b ∧ b < w5.heap.size := fun b hb => ho5.lt b hb
    have HFR := Lib.hid hfr
    have HS4 := Lib.hid hs4
    have HS5 := Lib.hid hs5
    have HS6 := Lib.hid hs6
    have HW6 := Lib.hid hw6
    have HX6 := Lib.hid hx6
    have HO6 := Lib.hid ho6
    have HB6 := Lib.hid hb6
    have hop : w6.heap[w.heap.size]? = some (.cells #[.int .u8 o.kind, .string o.key, .string o.val, .string o.old, .bool o.had] 32 (0, 0)) := (hb6.block _ (by have := HS2.out; omega)).trans HX2.out
    obtain ⟨p60, p61, p62, p63, p64⟩ : w6.cell? ⟨w.heap.size, 0, none⟩ = some (.int .u8 o.kind) ∧ w6.cell? ⟨w.heap.size, 1, none⟩ = some (.string o.key) ∧ w6.cell? ⟨w.heap.size, 2, none⟩ = some (.string o.val) ∧ w6.cell? ⟨w.heap.size, 3, none⟩ = some (.string o.old) ∧ w6.cell? ⟨w.heap.size, 4, none⟩ = some (.bool o.had) := ⟨(blk_cells hop).1 0, (blk_cells hop).1 1, (blk_cells hop).1 2, (blk_cells hop).1 3, (blk_cells hop).1 4⟩
    clear hop
    obtain ⟨q60, q61, q62, q63, q64, q65⟩ : w6.cell? ⟨w5.heap.size, 0, none⟩ = some (.int .u8 1) ∧ w6.cell? ⟨w5.heap.size, 1, none⟩ = some (.bool false) ∧ w6.cell? ⟨w5.heap.size, 2, none⟩ = some (.string ⟨#[]⟩) ∧ w6.frozen? ⟨w5.heap.size, 0, none⟩ = false ∧ w6.frozen? ⟨w5.heap.size, 1, none⟩ = false ∧ w6.frozen? ⟨w5.heap.size, 2, none⟩ = false := ⟨(blk_cells hx6).1 0, (blk_cells hx6).1 1, (blk_cells hx6).1 2, (blk_cells hx6).2 0, (blk_cells hx6).2 1, (blk_cells hx6).2 2⟩
    have hP2 : w.heap.size < w5.heap.size := by have := HS2.out; omega
    clear cCl hw6 hx6 hb56 ho5 hb5 hb5' hb4 ho6 hb6 hfr hs4 hs6 hs5
    go_upto_region 7 with fail
    rw [← HW6.out]
    by_cases h1 : o.kind = 1
    · have hd : D = (l, ⟨1, fb, fv⟩) := by rw [HDO.out]; unfold doP; rw [if_pos h1, HFB.out, HFV.out]
      have HD := Lib.hid hd
      obtain ⟨w7, hw7⟩ : ∃ w7, w7 = (w6.setCell ⟨w5.heap.size, 1, none⟩ (.bool fb)).setCell ⟨w5.heap.size, 2, none⟩ (.string fv) := ⟨_, rfl⟩
      have hx7 : w7.heap[w5.heap.size]? = some (.cells #[.int .u8 1, .bool fb, .string fv] 27 (0, 0)) := by rw [hw7]; exact res_set2 HX6.out
      have hb7 : Below w2.heap.size w2 w7 := by rw [hw7]; exact (HB6.out.setCell (p := ⟨w5.heap.size, 1, none⟩) (by show w2.heap.size ≤ w5.heap.size; have := HS4.out; have := HS5.out; omega) _).setCell (p := ⟨w5.heap.size, 2, none⟩) (by show w2.heap.size ≤ w5.heap.size; have := HS4.out; have := HS5.out; omega) _
      have ho7 : pairR.Own w7 w4.heap.size 24 (.slice A5 l.length c5) l := by
        rw [hw7]
        refine own_far HO6.out fun b hb => ?_
        have h1 := HFR.out b hb
        exact (heap_setCell_far _ _ _ _ (by omega)).trans (heap_setCell_far _ _ _ _ (by omega))
      have HW7 := Lib.hid hw7
      clear hd hw7
      go_upto_region 18 with fail
      rw [← HW7.out]
      obtain ⟨⟨r0, r1, r2, r3, r4, r5⟩, wf, hwf, ⟨g0, g1, g2⟩, hbf, hfar⟩ := HFIN.out w7 (1) (fb) (fv) hb7
      have hof := (Rec.Own.same (Rec.Own.same ho7 (w' := wf) fun b h1 _ => hfar b (by have := HS2.out; have := HS4.out; omega)) (w' := wf.drew) fun b _ _ => rfl).base (show w.heap.size ≤ w4.heap.size by have := HS2.out; have := HS4.out; omega)
      have hrd : w7.heap[w5.heap.size]? = some (.cells #[.int .u8 (1), .bool (fb), .string (fv)] 27 (0, 0)) := hx7
      obtain ⟨q0, q1, q2⟩ : w7.cell? ⟨w5.heap.size, 0, none⟩ = some (.int .u8 (1)) ∧ w7.cell? ⟨w5.heap.size, 1, none⟩ = some (.bool (fb)) ∧ w7.cell? ⟨w5.heap.size, 2, none⟩ = some (.string (fv)) := ⟨(blk_cells hrd).1 0, (blk_cells hrd).1 1, (blk_cells hrd).1 2⟩
      have HWF := Lib.hid hwf
      have HOF := Lib.hid hof
      have HBF := Lib.hid hbf.drew
      clear hwf hof hbf hfar hrd hx7 hb7 ho7 q60 q61 q62 q63 q64 q65 p60 p61 p62 p63 p64
      go_region
      rw [← HWF.out]
      go_wp2_with fail
      refine bodyPost_ret (v := .tuple #[.slice A5 l.length c5, .agg #[.int .u8 (1), .bool (fb), .string (fv)], .int .i64 0]) (by clear r0 r1 r2 r3 r4 r5 q0 q1 q2; rw [results_tct rfl]; go_simp; try rfl) rfl ?_
      rw [HD.out]
      exact ⟨_, rfl, HOF.out, HBF.out⟩
    · by_cases h3 : o.kind = 3
      · have hd : D = (delP l o.key, ⟨1, fb, ⟨#[]⟩⟩) := by rw [HDO.out]; unfold doP; rw [if_neg h1, if_neg (by omega), if_neg (by omega), HFB.out]
        have HD := Lib.hid hd
        obtain ⟨w7, hw7⟩ : ∃ w7, w7 = w6.setCell ⟨w5.heap.size, 1, none⟩ (.bool fb) := ⟨_, rfl⟩
        have hx7 : w7.heap[w5.heap.size]? = some (.cells #[.int .u8 1, .bool fb, .string ⟨#[]⟩] 27 (0, 0)) := by rw [hw7]; exact res_set1 HX6.out
        have hb7 : Below w2.heap.size w2 w7 := by rw [hw7]; exact HB6.out.setCell (p := ⟨w5.heap.size, 1, none⟩) (by show w2.heap.size ≤ w5.heap.size; have := HS4.out; have := HS5.out; omega) _
        have hs7 : w7.heap.size = w5.heap.size + 1 := by rw [hw7, World.size_setCell]; exact HS6.out
        have ho7 : pairR.Own w7 w4.heap.size 24 (.slice A5 l.length c5) l := by
          rw [hw7]
          refine own_far HO6.out fun b hb => ?_
          have h1 := HFR.out b hb
          exact heap_setCell_far _ _ _ _ (by omega)
        have hop : w7.heap[w.heap.size]? = some (.cells #[.int .u8 o.kind, .string o.key, .string o.val, .string o.old, .bool o.had] 32 (0, 0)) := (hb7.block _ (by have := HS2.out; omega)).trans HX2.out
        obtain ⟨p70, p71, p72, p73, p74⟩ : w7.cell? ⟨w.heap.size, 0, none⟩ = some (.int .u8 o.kind) ∧ w7.cell? ⟨w.heap.size, 1, none⟩ = some (.string o.key) ∧ w7.cell? ⟨w.heap.size, 2, none⟩ = some (.string o.val) ∧ w7.cell? ⟨w.heap.size, 3, none⟩ = some (.string o.old) ∧ w7.cell? ⟨w.heap.size, 4, none⟩ = some (.bool o.had) := ⟨(blk_cells hop).1 0, (blk_cells hop).1 1, (blk_cells hop).1 2, (blk_cells hop).1 3, (blk_cells hop).1 4⟩
        clear hop
        have cP := delf_any l o.key w.heap.size _ w4.heap.size w7 ho7 (by have := HS5.out; omega) (by have := HS2.out; have := HS4.out; omega) p71 hl
        have HW7 := Lib.hid hw7
        have HX7 := Lib.hid hx7
        have HB7 := Lib.hid hb7
        have HS7 := Lib.hid hs7
        clear hd hw7 hx7 hb7 hs7 ho7
        go_upto_region 14 with fail
        rw [← HW7.out]
        clear p60 p61 p62 p63 p64 q60 q61 q62 q63 q64 q65
        go_wp2_with fail
        refine cP.mono ?_
        rintro e w8 ⟨v8, rfl, ho8, hb8', hn8⟩
        have hb8 : Below w2.heap.size w2 w8 := HB7.out.trans (Joins.below_le hb8' HS4.out)
        have hx8 := (hn8 w5.heap.size (by have := HS7.out; omega) (fun e => by have := HFR.out _ e; omega)).trans HX7.out
        clear cP p70 p71 p72 p73 p74 hb8' hn8
        obtain ⟨⟨r0, r1, r2, r3, r4, r5⟩, wf, hwf, ⟨g0, g1, g2⟩, hbf, hfar⟩ := HFIN.out w8 (1) (fb) (⟨#[]⟩) hb8
        have hof := (Rec.Own.same (Rec.Own.same ho8 (w' := wf) fun b h1 _ => hfar b (by have := HS2.out; have := HS4.out; omega)) (w' := wf.drew) fun b _ _ => rfl).base (show w.heap.size ≤ w4.heap.size by have := HS2.out; have := HS4.out; omega)
        have hrd : w8.heap[w5.heap.size]? = some (.cells #[.int .u8 (1), .bool (fb), .string (⟨#[]⟩)] 27 (0, 0)) := hx8
        obtain ⟨q0, q1, q2⟩ : w8.cell? ⟨w5.heap.size, 0, none⟩ = some (.int .u8 (1)) ∧ w8.cell? ⟨w5.heap.size, 1, none⟩ = some (.bool (fb)) ∧ w8.cell? ⟨w5.heap.size, 2, none⟩ = some (.string (⟨#[]⟩)) := ⟨(blk_cells hrd).1 0, (blk_cells hrd).1 1, (blk_cells hrd).1 2⟩
        have HWF := Lib.hid hwf
        have HOF := Lib.hid hof
        have HBF := Lib.hid hbf.drew
        clear hwf hof hbf hfar hrd hx8 hb8 ho8
        go_upto_region 18 with fail
        go_region
        rw [← HWF.out]
        go_wp2_with fail
        refine bodyPost_ret (v := .tuple #[v8, .agg #[.int .u8 (1), .bool (fb), .string (⟨#[]⟩)], .int .i64 0]) (by clear r0 r1 r2 r3 r4 r5 q0 q1 q2; rw [results_tct rfl]; go_simp; try rfl) rfl ?_
        rw [HD.out]
        exact ⟨_, rfl, HOF.out, HBF.out⟩
      · by_cases h4 : o.kind = 4
        · have hft := fitsV_eq l o
          rw [← HFB.out, ← HFV.out] at hft
          have cFit := pfits_any o fv fb w6
          obtain ⟨ft, hftv⟩ : ∃ ft, ft = fitsV o fv fb := ⟨_, rfl⟩
          rw [← hftv] at cFit hft
          have HFT := Lib.hid hft
          unfold PO.agg at cFit
          have hd : D = if fits l o then (putP l ⟨o.key, o.val⟩, ⟨1, true, ⟨#[]⟩⟩) else (l, ⟨1, false, ⟨#[]⟩⟩) := by rw [HDO.out]; unfold doP; rw [if_neg h1, if_neg (by omega), if_pos h4]
          have HD0 := Lib.hid hd
          clear hftv hft hd
          go_upto_region 15 with fail
          clear h1 h3 h4
          go_wp2_with fail
          refine cFit.mono ?_
          rintro e w7 ⟨rfl, hb7'⟩
          have hb7 := HB6.out.trans (Joins.below_le hb7' HB6.out.size)
          have hx7 := (hb7'.block _ (by have := HS6.out; omega)).trans HX6.out
          have ho7 := Rec.Own.below HO6.out hb7'
          have hs7 := hb7'.size
          obtain ⟨w8, hw8⟩ : ∃ w8, w8 = w7.setCell ⟨w5.heap.size, 1, none⟩ (.bool ft) := ⟨_, rfl⟩
          have hx8 : w8.heap[w5.heap.size]? = some (.cells #[.int .u8 1, .bool ft, .string ⟨#[]⟩] 27 (0, 0)) := by rw [hw8]; exact res_set1 hx7
          have hb8 : Below w2.heap.size w2 w8 := by rw [hw8]; exact hb7.setCell (p := ⟨w5.heap.size, 1, none⟩) (by show w2.heap.size ≤ w5.heap.size; have := HS4.out; have := HS5.out; omega) _
          have hs8 : w5.heap.size < w8.heap.size := by rw [hw8, World.size_setCell]; have := HS6.out; omega
          have ho8 : pairR.Own w8 w4.heap.size 24 (.slice A5 l.length c5) l := by
            rw [hw8]
            refine own_far ho7 fun b hb => ?_
            have h1 := HFR.out b hb
            exact heap_setCell_far _ _ _ _ (by omega)
          have hop : w8.heap[w.heap.size]? = some (.cells #[.int .u8 o.kind, .string o.key, .string o.val, .string o.old, .bool o.had] 32 (0, 0)) := (hb8.block _ (by have := HS2.out; omega)).trans HX2.out
          obtain ⟨p80, p81, p82, p83, p84⟩ : w8.cell? ⟨w.heap.size, 0, none⟩ = some (.int .u8 o.kind) ∧ w8.cell? ⟨w.heap.size, 1, none⟩ = some (.string o.key) ∧ w8.cell? ⟨w.heap.size, 2, none⟩ = some (.string o.val) ∧ w8.cell? ⟨w.heap.size, 3, none⟩ = some (.string o.old) ∧ w8.cell? ⟨w.heap.size, 4, none⟩ = some (.bool o.had) := ⟨(blk_cells hop).1 0, (blk_cells hop).1 1, (blk_cells hop).1 2, (blk_cells hop).1 3, (blk_cells hop).1 4⟩
          clear hop
          obtain ⟨q70, q71, q72, q73, q74, q75⟩ : w7.cell? ⟨w5.heap.size, 0, none⟩ = some (.int .u8 1) ∧ w7.cell? ⟨w5.heap.size, 1, none⟩ = some (.bool false) ∧ w7.cell? ⟨w5.heap.size, 2, none⟩ = some (.string ⟨#[]⟩) ∧ w7.frozen? ⟨w5.heap.size, 0, none⟩ = false ∧ w7.frozen? ⟨w5.heap.size, 1, none⟩ = false ∧ w7.frozen? ⟨w5.heap.size, 2, none⟩ = false := ⟨(blk_cells hx7).1 0, (blk_cells hx7).1 1, (blk_cells hx7).1 2, (blk_cells hx7).2 0, (blk_cells hx7).2 1, (blk_cells hx7).2 2⟩
          have q81 : w8.cell? ⟨w5.heap.size, 1, none⟩ = some (.bool ft) := (blk_cells hx8).1 1
          have HW8 := Lib.hid hw8
          have HX8 := Lib.hid hx8
          have HB8 := Lib.hid hb8
          have HS8 := Lib.hid hs8
          have HO8 := Lib.hid ho8
          clear cFit p60 p61 p62 p63 p64 q60 q61 q62 q63 q64 q65 hb7' hb7 hx7 ho7 hs7 hw8 hx8 hb8 hs8 ho8
          go_upto_region 16 with fail
          rw [← HW8.out]
          clear q70 q71 q72 q73 q74 q75
          cases ft with
          | true =>
            have hd : D = (putP l ⟨o.key, o.val⟩, ⟨1, true, ⟨#[]⟩⟩) := by rw [HD0.out, if_pos HFT.out.symm]
            have HD := Lib.hid hd
            have cP := putPair_any l ⟨o.key, o.val⟩ w.heap.size _ w4.heap.size w8 HO8.out (by have := HS5.out; have := HS8.out; omega) p81 hl
            unfold PP.agg at cP
            clear hd
            go_wp2_with fail
            refine cP.mono ?_
            rintro e w9 ⟨v9, rfl, ho9, hb9', hn9⟩
            have hb9 : Below w2.heap.size w2 w9 := HB8.out.trans (Joins.below_le hb9' HS4.out)
            have hx9 := (hn9 w5.heap.size HS8.out (fun e => by have := HFR.out _ e; omega)).trans HX8.out
            clear cP p80 p81 p82 p83 p84 q81 hb9' hn9
            obtain ⟨⟨r0, r1, r2, r3, r4, r5⟩, wf, hwf, ⟨g0, g1, g2⟩, hbf, hfar⟩ := HFIN.out w9 (1) (true) (⟨#[]⟩) hb9
            have hof := (Rec.Own.same (Rec.Own.same ho9 (w' := wf) fun b h1 _ => hfar b (by have := HS2.out; have := HS4.out; omega)) (w' := wf.drew) fun b _ _ => rfl).base (show w.heap.size ≤ w4.heap.size by have := HS2.out; have := HS4.out; omega)
            have hrd : w9.heap[w5.heap.size]? = some (.cells #[.int .u8 (1), .bool (true), .string (⟨#[]⟩)] 27 (0, 0)) := hx9
            obtain ⟨q0, q1, q2⟩ : w9.cell? ⟨w5.heap.size, 0, none⟩ = some (.int .u8 (1)) ∧ w9.cell? ⟨w5.heap.size, 1, none⟩ = some (.bool (true)) ∧ w9.cell? ⟨w5.heap.size, 2, none⟩ = some (.string (⟨#[]⟩)) := ⟨(blk_cells hrd).1 0, (blk_cells hrd).1 1, (blk_cells hrd).1 2⟩
            have HWF := Lib.hid hwf
            have HOF := Lib.hid hof
            have HBF := Lib.hid hbf.drew
            clear hwf hof hbf hfar hrd hx9 hb9 ho9
            go_upto_region 18 with fail
            go_region
            rw [← HWF.out]
            go_wp2_with fail
            refine bodyPost_ret (v := .tuple #[v9, .agg #[.int .u8 (1), .bool (true), .string (⟨#[]⟩)], .int .i64 0]) (by clear r0 r1 r2 r3 r4 r5 q0 q1 q2; rw [results_tct rfl]; go_simp; try rfl) rfl ?_
            rw [HD.out]
            exact ⟨_, rfl, HOF.out, HBF.out⟩
          | false =>
            have hd : D = (l, ⟨1, false, ⟨#[]⟩⟩) := by rw [HD0.out, if_neg (by rw [← HFT.out]; exact Bool.noConfusion)]
            have HD := Lib.hid hd
            have hb8 := HB8.out
            have hx8 := HX8.out
            have ho8 := HO8.out
            clear hd
            go_upto_region 18 with fail
            obtain ⟨⟨r0, r1, r2, r3, r4, r5⟩, wf, hwf, ⟨g0, g1, g2⟩, hbf, hfar⟩ := HFIN.out w8 (1) (false) (⟨#[]⟩) hb8
            have hof := (Rec.Own.same (Rec.Own.same ho8 (w' := wf) fun b h1 _ => hfar b (by have := HS2.out; have := HS4.out; omega)) (w' := wf.drew) fun b _ _ => rfl).base (show w.heap.size ≤ w4.heap.size by have := HS2.out; have := HS4.out; omega)
            have hrd : w8.heap[w5.heap.size]? = some (.cells #[.int .u8 (1), .bool (false), .string (⟨#[]⟩)] 27 (0, 0)) := hx8
            obtain ⟨q0, q1, q2⟩ : w8.cell? ⟨w5.heap.size, 0, none⟩ = some (.int .u8 (1)) ∧ w8.cell? ⟨w5.heap.size, 1, none⟩ = some (.bool (false)) ∧ w8.cell? ⟨w5.heap.size, 2, none⟩ = some (.string (⟨#[]⟩)) := ⟨(blk_cells hrd).1 0, (blk_cells hrd).1 1, (blk_cells hrd).1 2⟩
            have HWF := Lib.hid hwf
            have HOF := Lib.hid hof
            have HBF := Lib.hid hbf.drew
            clear hwf hof hbf hfar hrd hx8 hb8 ho8 p80 p81 p82 p83 p84 q81
            go_region
            rw [← HWF.out]
            go_wp2_with fail
            refine bodyPost_ret (v := .tuple #[.slice A5 l.length c5, .agg #[.int .u8 (1), .bool (false), .string (⟨#[]⟩)], .int .i64 0]) (by clear r0 r1 r2 r3 r4 r5 q0 q1 q2; rw [results_tct rfl]; go_simp; try rfl) rfl ?_
            rw [HD.out]
            exact ⟨_, rfl, HOF.out, HBF.out⟩
        · have h2 : o.kind = 2 := by
            have he := HER.out
            unfold PO.err at he
            by_cases hb : o.kind = 0 ∨ 4 < o.kind
            · rw [if_pos hb] at he
              exact absurd he (by decide)
            · omega
          have hd : D = (putP l ⟨o.key, o.val⟩, ⟨1, false, ⟨#[]⟩⟩) := by rw [HDO.out]; unfold doP; rw [if_neg h1, if_pos h2]
          have HD := Lib.hid hd
          have cP := putPair_any l ⟨o.key, o.val⟩ w.heap.size _ w4.heap.size w6 HO6.out (by have := HS5.out; have := HS6.out; omega) p61 hl
          unfold PP.agg at cP
          clear hd
          go_wp2_with fail
          refine cP.mono ?_
          rintro e w9 ⟨v9, rfl, ho9, hb9', hn9⟩
          have hb9 : Below w2.heap.size w2 w9 := HB6.out.trans (Joins.below_le hb9' HS4.out)
          have hx9 := (hn9 w5.heap.size (by have := HS6.out; omega) (fun e => by have := HFR.out _ e; omega)).trans HX6.out
          clear cP p60 p61 p62 p63 p64 q60 q61 q62 q63 q64 q65 hb9' hn9
          obtain ⟨⟨r0, r1, r2, r3, r4, r5⟩, wf, hwf, ⟨g0, g1, g2⟩, hbf, hfar⟩ := HFIN.out w9 (1) (false) (⟨#[]⟩) hb9
          have hof := (Rec.Own.same (Rec.Own.same ho9 (w' := wf) fun b h1 _ => hfar b (by have := HS2.out; have := HS4.out; omega)) (w' := wf.drew) fun b _ _ => rfl).base (show w.heap.size ≤ w4.heap.size by have := HS2.out; have := HS4.out; omega)
          have hrd : w9.heap[w5.heap.size]? = some (.cells #[.int .u8 (1), .bool (false), .string (⟨#[]⟩)] 27 (0, 0)) := hx9
          obtain ⟨q0, q1, q2⟩ : w9.cell? ⟨w5.heap.size, 0, none⟩ = some (.int .u8 (1)) ∧ w9.cell? ⟨w5.heap.size, 1, none⟩ = some (.bool (false)) ∧ w9.cell? ⟨w5.heap.size, 2, none⟩ = some (.string (⟨#[]⟩)) := ⟨(blk_cells hrd).1 0, (blk_cells hrd).1 1, (blk_cells hrd).1 2⟩
          have HWF := Lib.hid hwf
          have HOF := Lib.hid hof
          have HBF := Lib.hid hbf.drew
          clear hwf hof hbf hfar hrd hx9 hb9 ho9
          go_upto_region 18 with fail
          go_region
          rw [← HWF.out]
          go_wp2_with fail
          refine bodyPost_ret (v := .tuple #[v9, .agg #[.int .u8 (1), .bool (false), .string (⟨#[]⟩)], .int .i64 0]) (by clear r0 r1 r2 r3 r4 r5 q0 q1 q2; rw [results_tct rfl]; go_simp; try rfl) rfl ?_
          rw [HD.out]
          exact ⟨_, rfl, HOF.out, HBF.out⟩
  · have hdo : D = ([], zR) := by rw [HDD.out]; unfold doE; rw [if_pos (by rw [← HER.out]; exact he)]
    have HD := Lib.hid hdo
    have ho3 := Rec.Own.none pairR w3 w2.heap.size 24
    clear hdo
    obtain ⟨⟨r0, r1, r2, r3, r4, r5⟩, wf, hwf, ⟨g0, g1, g2⟩, hbf, hfar⟩ := HFIN.out w3 (0) (false) (⟨#[]⟩) hb3
    have hof := (Rec.Own.same ho3 (w' := wf) fun b h1 _ => hfar b (by have := HS2.out; omega)).base (show w.heap.size ≤ w2.heap.size by have := HS2.out; omega)
    have HWF := Lib.hid hwf
    have HOF := Lib.hid hof
    have HBF := Lib.hid hbf
    clear hwf hof hbf hfar
    go_wp2_with fail
    rw [← HWF.out]
    refine bodyPost_ret (v := .tuple #[.slice none 0 0, .agg #[.int .u8 (0), .bool (false), .string (⟨#[]⟩)], .int .i64 er]) (by clear r0 r1 r2 r3 r4 r5; rw [results_tct rfl]; go_simp; try rfl) rfl ?_
    rw [HD.out]
    exact ⟨_, rfl, HOF.out, HBF.out⟩
end Go.Proofs.Ytlgjidoehnhnoaa
