/-
  DedupDoes, walked. No statement is proved here. No condition.
-/
import Derived.Test.YtlgjidoehnhnoaaEOwnX
namespace Go.Proofs.Ytlgjidoehnhnoaa
open Go.RowKit

set_option maxHeartbeats 16000000 in
set_option maxRecDepth 1000000 in
theorem does_walk (m : List PP) (o : PO) (s : Int) (v : Value) (w : World) (h : pairR.N w Any v m) (hm : m.length ≤ 4398046510976) (hk : 0 ≤ o.kind ∧ o.kind ≤ 255) (hkey : o.key.size ≤ 140737488355328) (hs : s ≤ 9223372036854775807) :
    Calls Try.prog 4 #[v, o.agg, .int .i64 s] w fun e w' => e = .returned (.bool true) ∧ Below w.heap.size w w' := by
  obtain ⟨A, c, rfl, hlc, hcm⟩ := h.slice
  obtain ⟨w1, hw1⟩ : ∃ w1, w1 = w.alloc (.cells #[.int .u8 o.kind, .string o.key, .string o.val, .string o.old, .bool o.had] 32) := ⟨_, rfl⟩
  have hb1 : Below w.heap.size w w1 := by rw [hw1]; exact (Below.refl _ _).alloc (Nat.le_refl _) _
  have hx1 : w1.heap[w.heap.size]? = some (.cells #[.int .u8 o.kind, .string o.key, .string o.val, .string o.old, .bool o.had] 32 (0, 0)) := by rw [hw1]; exact heap_alloc_new w _
  have hlt1 : w.heap.size < w1.heap.size := (Array.getElem?_eq_some_iff.1 hx1).1
  -- the copy
  have o0 := Own.lit pairR w1 24 (Nat.le_refl w1.heap.size)
  have hba : Below w1.heap.size w1 (w1.alloc (.cells #[] 24)) := (Below.refl _ _).alloc (Nat.le_refl _) _
  obtain ⟨vin, w2, hr2, ho2, hg2, -⟩ := app_pairs o0 ((h.grow hb1).grow hba) (by simp; omega) hba.size
  rw [List.nil_append] at ho2
  have hb12 : Below w1.heap.size w1 w2 := hba.trans (Own.grow_below o0 hg2 hba.size)
  obtain ⟨A2, c2, rfl⟩ := ho2.slice
  have hlt2 := hb12.size
  have hx2 := (hb12.block _ hlt1).trans hx1
  -- what stands, wherever the blocks below w2's size do
  have hat : ∀ W, Below w2.heap.size w2 W → (W.cell? ⟨w.heap.size, 0, none⟩ = some (.int .u8 o.kind) ∧ W.cell? ⟨w.heap.size, 1, none⟩ = some (.string o.key) ∧ W.cell? ⟨w.heap.size, 2, none⟩ = some (.string o.val) ∧ W.cell? ⟨w.heap.size, 3, none⟩ = some (.string o.old) ∧ W.cell? ⟨w.heap.size, 4, none⟩ = some (.bool o.had)) ∧ pairR.N W Any (.slice A m.length c) m ∧ pairR.N W Any (.slice A2 m.length c2) m ∧ Below w.heap.size w W := fun W hW => by
    have e := (hW.block _ (by omega)).trans hx2
    have hbw := (hb1.trans (Joins.below_le hb12 hb1.size)).trans (Joins.below_le hW (by omega))
    exact ⟨⟨(blk_cells e).1 0, (blk_cells e).1 1, (blk_cells e).1 2, (blk_cells e).1 3, (blk_cells e).1 4⟩, h.grow hbw, (ho2.n.any).grow hW, hbw⟩
  have HAT := Lib.hid hat
  have HR2 := Lib.hid hr2
  have HW1 := Lib.hid hw1
  obtain ⟨p0, p1, p2, p3, p4⟩ : (w1.cell? ⟨w.heap.size, 0, none⟩ = some (.int .u8 o.kind) ∧ w1.cell? ⟨w.heap.size, 1, none⟩ = some (.string o.key) ∧ w1.cell? ⟨w.heap.size, 2, none⟩ = some (.string o.val) ∧ w1.cell? ⟨w.heap.size, 3, none⟩ = some (.string o.old) ∧ w1.cell? ⟨w.heap.size, 4, none⟩ = some (.bool o.had)) := ⟨(blk_cells hx1).1 0, (blk_cells hx1).1 1, (blk_cells hx1).1 2, (blk_cells hx1).1 3, (blk_cells hx1).1 4⟩
  have hz := zero_res
  have hzp : ∀ W, (zeroValue 24).run Try.prog W = .ok (.agg #[.string ⟨#[]⟩, .string ⟨#[]⟩]) W := fun W => by kernel_rfl
  unfold maxLen at hcm
  obtain ⟨fv, hfv⟩ : ∃ fv, fv = (findP m o.key).getD ⟨#[]⟩ := ⟨_, rfl⟩
  obtain ⟨fb, hfb⟩ : ∃ fb, fb = (findP m o.key).isSome := ⟨_, rfl⟩
  obtain ⟨pl, hpl⟩ : ∃ pl, pl = placeP o.key s := ⟨_, rfl⟩
  obtain ⟨er, her⟩ : ∃ er, er = o.err := ⟨_, rfl⟩
  obtain ⟨dl, dr, hdd⟩ : ∃ dl dr, doE m o = (dl, dr) := ⟨_, _, rfl⟩
  have hdl : dl.length ≤ m.length + 1 := by
    have : (doE m o).1.length ≤ m.length + 1 := by
      unfold doE
      split
      · simp
      · exact doP_length m o
    rw [hdd] at this
    exact this
  -- the calls
  have c1 : ∀ W, Below w2.heap.size w2 W → Calls Try.prog 15 #[.slice A2 m.length c2, .string o.key] W fun e w' => e = .returned (.tuple #[.string fv, .bool fb]) ∧ Below W.heap.size W w' := fun W hW => by rw [hfv, hfb]; exact pfind_any m o.key _ W (hat W hW).2.2.1
  have c2' : ∀ W, Below w2.heap.size w2 W → Calls Try.prog 16 #[.slice A m.length c, .string o.key] W fun e w' => e = .returned (.tuple #[.string fv, .bool fb]) ∧ Below W.heap.size W w' := fun W hW => by rw [hfv, hfb]; exact rfind_any m o.key _ W (hat W hW).2.1
  have c3 : ∀ W, Calls Try.prog 13 #[o.agg] W fun e w' => e = .returned (.int .i64 er) ∧ Below W.heap.size W w' := fun W => by rw [her]; exact pcheck_any o W hk
  have c4 : ∀ W, Calls Try.prog 17 #[o.agg] W fun e w' => e = .returned (.int .i64 er) ∧ Below W.heap.size W w' := fun W => by rw [her]; exact rcheck_any o W hk
  have c5 : ∀ W, Calls Try.prog 14 #[.string o.key, .int .i64 s] W fun e w' => e = .returned (.int .i64 pl) ∧ Below W.heap.size W w' := fun W => by rw [hpl]; exact pplace_any o.key s W (by omega) hs
  have c6 : ∀ W, Calls Try.prog 18 #[.string o.key, .int .i64 s] W fun e w' => e = .returned (.int .i64 pl) ∧ Below W.heap.size W w' := fun W => by rw [hpl]; exact rplace_any o.key s W (by omega) hs
  have c7 : ∀ W, Below w2.heap.size w2 W → Calls Try.prog 11 #[.slice A2 m.length c2, o.agg] W fun e w' => ∃ v', e = .returned (.tuple #[v', .agg #[.int .u8 dr.kind, .bool dr.found, .string dr.val], .int .i64 er]) ∧ pairR.Own w' W.heap.size 24 v' dl ∧ Below W.heap.size W w' := fun W hW => by
    have := pdo_any m o _ W (hat W hW).2.2.1 (by omega) hk
    rw [hdd, ← her] at this
    exact this
  have c8 : ∀ W, Below w2.heap.size w2 W → Calls Try.prog 19 #[.slice A m.length c, o.agg] W fun e w' => ∃ v', e = .returned (.tuple #[v', .agg #[.int .u8 dr.kind, .bool dr.found, .string dr.val], .int .i64 er]) ∧ pairR.Own w' W.heap.size 24 v' dl ∧ Below W.heap.size W w' := fun W hW => by
    have := rdo_any m o _ W (hat W hW).2.1 (by omega) hk
    rw [hdd, ← her] at this
    exact this
  unfold PO.agg at c3 c4 c7 c8 ⊢
  have C1 := Lib.hid c1
  have C2 := Lib.hid c2'
  have C3 := Lib.hid c3
  have C4 := Lib.hid c4
  have C5 := Lib.hid c5
  have C6 := Lib.hid c6
  have C7 := Lib.hid c7
  have C8 := Lib.hid c8
  have hfe := eqS_yes (rfl : fv = fv)
  have hve := eqS_yes (rfl : dr.val = dr.val)
  clear c1 c2' c3 c4 c5 c6 c7 c8 hat hr2 hw1 h hb1 hx1 o0 hba ho2 hg2 hb12 hx2 hlt1 hlt2 hfv hfb hpl her hdd
  go_enter Try.func4, Try.ntmps4
  go_upto_region 1 with fail
  rw [← HW1.out]
  go_upto_region 2 with (at_builtin; go_must (refine Lib.wpList_append_run _ rfl (.tmp 20) (.tmp 21) 25 25 rfl _ _ rfl rfl _ _ HR2.out ?_))
  clear p0 p1 p2 p3 p4
  have hbe : Below w2.heap.size w2 w2 := Below.refl _ _
  obtain ⟨⟨p0, p1, p2, p3, p4⟩, -⟩ := HAT.out w2 hbe
  go_wp2_with fail
  refine (C1.out w2 hbe).mono ?_
  rintro e w3 ⟨rfl, hb3⟩
  replace hbe := hbe.trans (Joins.below_le hb3 hbe.size)
  clear p0 p1 p2 p3 p4 hb3
  obtain ⟨⟨p0, p1, p2, p3, p4⟩, -⟩ := HAT.out w3 hbe
  go_wp2_with fail
  refine (C2.out w3 hbe).mono ?_
  rintro e w4 ⟨rfl, hb4⟩
  replace hbe := hbe.trans (Joins.below_le hb4 hbe.size)
  clear p0 p1 p2 p3 p4 hb4 C1 C2
  go_upto_region 4 with fail
  replace hbe := hbe.drew
  have hst := (HAT.out _ hbe).1
  go_region_held3 (fun W => (W.cell? ⟨w.heap.size, 0, none⟩ = some (.int .u8 o.kind) ∧ W.cell? ⟨w.heap.size, 1, none⟩ = some (.string o.key) ∧ W.cell? ⟨w.heap.size, 2, none⟩ = some (.string o.val) ∧ W.cell? ⟨w.heap.size, 3, none⟩ = some (.string o.old) ∧ W.cell? ⟨w.heap.size, 4, none⟩ = some (.bool o.had))) (first | with_reducible exact hst | exact (HAT.out _ hbe).1)
    (first
      | (go_at_call 13; refine (C3.out _).mono ?_; rintro e wy ⟨rfl, hby⟩; replace hbe := hbe.trans (Joins.below_le hby hbe.size); clear hby)
      | (go_at_call 17; refine (C4.out _).mono ?_; rintro e wy ⟨rfl, hby⟩; replace hbe := hbe.trans (Joins.below_le hby hbe.size); clear hby)
      | (go_at_call 14; refine (C5.out _).mono ?_; rintro e wy ⟨rfl, hby⟩; replace hbe := hbe.trans (Joins.below_le hby hbe.size); clear hby)
      | (go_at_call 18; refine (C6.out _).mono ?_; rintro e wy ⟨rfl, hby⟩; replace hbe := hbe.trans (Joins.below_le hby hbe.size); clear hby))
  have HBE := Lib.hid hbe
  clear hbe hst C3 C4 C5 C6
  go_wp2_with fail
  go_loopw [12] (fun s12 wr => ∃ k : Nat, s12 = .int .i64 (k : Int) ∧ k ≤ 2 ∧ Hid (Below w2.heap.size w2 wr)) (fun s12 _ => 2 - (intOf s12).toNat)
  case atStart => exact ⟨0, rfl, by omega, HBE⟩
  case round =>
    clear HBE
    obtain ⟨k, rfl, hk2, hB⟩ := hrel
    obtain ⟨wz, hwz⟩ : ∃ wz : World, wz = wr := ⟨_, rfl⟩
    subst hwz
    by_cases hkl : k < 2
    · have a1 : (k : Int) < 2 := by omega
      obtain ⟨⟨p0, p1, p2, p3, p4⟩, -⟩ := HAT.out wz hB.out
      go_wp2_with fail
      refine (C7.out wz hB.out).mono ?_
      rintro e u1 ⟨va, rfl, oa, hb1⟩
      obtain ⟨Aa, ca, rfl⟩ := oa.slice
      obtain ⟨u2, hu2⟩ : ∃ u2, u2 = u1.alloc (.cells #[.int .u8 dr.kind, .bool dr.found, .string dr.val] 27) := ⟨_, rfl⟩
      have hb12 : Below u1.heap.size u1 u2 := by rw [hu2]; exact (Below.refl _ _).alloc (Nat.le_refl _) _
      have x2 : u2.heap[u1.heap.size]? = some (.cells #[.int .u8 dr.kind, .bool dr.found, .string dr.val] 27 (0, 0)) := by rw [hu2]; exact heap_alloc_new u1 _
      have hbz2 := hb1.trans (Joins.below_le hb12 hb1.size)
      have hbe2 := hB.out.trans (Joins.below_le hbz2 hB.out.size)
      have HU2 := Lib.hid hu2
      clear p0 p1 p2 p3 p4 hu2
      go_upto_region 10 with fail
      rw [← HU2.out]
      obtain ⟨⟨p0, p1, p2, p3, p4⟩, -⟩ := HAT.out u2 hbe2
      go_wp2_with fail
      refine (C8.out u2 hbe2).mono ?_
      rintro e u3 ⟨vb, rfl, ob, hb3⟩
      obtain ⟨Ab, cb, rfl⟩ := ob.slice
      obtain ⟨u4, hu4⟩ : ∃ u4, u4 = u3.alloc (.cells #[.int .u8 dr.kind, .bool dr.found, .string dr.val] 27) := ⟨_, rfl⟩
      have hb34 : Below u3.heap.size u3 u4 := by rw [hu4]; exact (Below.refl _ _).alloc (Nat.le_refl _) _
      have x4 : u4.heap[u3.heap.size]? = some (.cells #[.int .u8 dr.kind, .bool dr.found, .string dr.val] 27 (0, 0)) := by rw [hu4]; exact heap_alloc_new u3 _
      have hb24 := hb3.trans (Joins.below_le hb34 hb3.size)
      have hb14 := hb12.trans (Joins.below_le hb24 hb12.size)
      have x24 := (hb24.block _ (Array.getElem?_eq_some_iff.1 x2).1).trans x2
      have hbe4 := hbe2.trans (Joins.below_le hb24 hbe2.size)
      have HU4 := Lib.hid hu4
      clear p0 p1 p2 p3 p4 hu4
      go_upto_region 11 with fail
      rw [← HU4.out]
      obtain ⟨q0, q1, q2⟩ : (u4.cell? ⟨u1.heap.size, 0, none⟩ = some (.int .u8 dr.kind) ∧ u4.cell? ⟨u1.heap.size, 1, none⟩ = some (.bool dr.found) ∧ u4.cell? ⟨u1.heap.size, 2, none⟩ = some (.string dr.val)) := ⟨(blk_cells x24).1 0, (blk_cells x24).1 1, (blk_cells x24).1 2⟩
      obtain ⟨r0, r1, r2⟩ : (u4.cell? ⟨u3.heap.size, 0, none⟩ = some (.int .u8 dr.kind) ∧ u4.cell? ⟨u3.heap.size, 1, none⟩ = some (.bool dr.found) ∧ u4.cell? ⟨u3.heap.size, 2, none⟩ = some (.string dr.val)) := ⟨(blk_cells x4).1 0, (blk_cells x4).1 1, (blk_cells x4).1 2⟩
      have oa4 := oa.below hb14
      have cS := rsame_yes dl _ _ u4 oa4.n.any ((ob.below hb34).n.any)
      go_wp2_with fail
      refine cS.mono ?_
      rintro e u5 ⟨rfl, hb45⟩
      have oa5 := (oa4.below hb45).x
      have hbz5 : Below wz.heap.size wz u5 := (hb1.trans (Joins.below_le hb14 hb1.size)).trans (Joins.below_le hb45 (by have := hb1.size; have := hb14.size; omega))
      have OA5 := Lib.hid oa5
      have HBZ5 := Lib.hid hbz5
      clear cS q0 q1 q2 r0 r1 r2 x2 x4 x24 oa ob oa4 hb1 hb12 hbz2 hbe2 hb3 hb34 hb24 hb14 hbe4 hb45 oa5 hbz5
      go_wp2_with fail
      go_loopw [19] (fun s19 wr => ∃ i : Nat, s19 = .int .i64 (i : Int) ∧ i ≤ dl.length ∧ Hid (OwnX wr wz.heap.size 24 2 (.slice Aa dl.length ca) dl.length) ∧ Hid (Below wz.heap.size wz wr)) (fun s19 _ => dl.length - (intOf s19).toNat)
      case atStart => exact ⟨0, rfl, Nat.zero_le _, OA5, HBZ5⟩
      case round =>
        clear OA5 HBZ5
        obtain ⟨i, rfl, hi, hO, hBz⟩ := hrel
        obtain ⟨wv, hwv⟩ : ∃ wv : World, wv = wr := ⟨_, rfl⟩
        subst hwv
        by_cases hil : i < dl.length
        · have b1 : (i : Int) < (dl.length : Int) := by omega
          have b0 : (0 : Int) ≤ (i : Int) := by omega
          obtain ⟨g, u, hA, -, -, q0, q1, hnext⟩ := hO.out.poke (j := i * 2) (by omega)
          have hgB := (hO.out.lt g (by rw [hA]; rfl)).1
          subst hA
          have HN := Lib.hid (hnext (.string ⟨#[63]⟩))
          have HBN := Lib.hid (hBz.out.setCell (p := ⟨g, i * 2, none⟩) (show wz.heap.size ≤ g from hgB) (.string ⟨#[63]⟩))
          have q0' : wv.cell? ⟨g, 0 + i * 2, none⟩ = some u := by rw [Nat.zero_add]; exact q0
          have q1' : wv.frozen? ⟨g, 0 + i * 2, none⟩ = false := by rw [Nat.zero_add]; exact q1
          clear hnext hO hBz
          go_wp2_with fail
          exact ⟨⟨i + 1, by go_num, hil, HN, HBN⟩, by simp [intOf]; omega⟩
        · have b1 : ¬ (i : Int) < (dl.length : Int) := by omega
          obtain ⟨A9, c9, w9, hr9, hb9⟩ := hO.out.pair ⟨⟨#[109, 111, 114, 101]⟩, ⟨#[]⟩⟩ (by omega) hBz.out.size
          have hbz9 := hBz.out.trans hb9
          have hbe9 := hB.out.trans (Joins.below_le hbz9 hB.out.size)
          obtain ⟨-, n1, n2, -⟩ := HAT.out w9 hbe9
          have cS := rsame_yes m _ _ w9 n2 n1
          have HR9 := Lib.hid hr9
          have HBE9 := Lib.hid hbe9
          have hl9 : ¬ ((dl.length + 1 : Nat) : Int) < 1 := by omega
          clear hr9 hb9 hbz9 hbe9 n1 n2 hO hBz
          go_upto_region 18 with (at_builtin; go_must (refine Lib.wpList_append_run _ rfl (.tmp 105) (.tmp 107) 25 25 rfl _ _ rfl rfl _ _ HR9.out ?_))
          go_wp2_with fail
          refine cS.mono ?_
          rintro e w10 ⟨rfl, hb10⟩
          have HBE10 := Lib.hid (HBE9.out.trans (Joins.below_le hb10 HBE9.out.size))
          clear cS hb10 b1 hl9
          go_wp2_with fail
          exact ⟨⟨k + 1, by go_num, by omega, HBE10⟩, by simp [intOf]; omega⟩
    · have a1 : ¬ (k : Int) < 2 := by omega
      have HF := Lib.hid (HAT.out wz hB.out).2.2.2
      go_wp2_with fail
      go_ret
      exact ⟨rfl, HF.out⟩
end Go.Proofs.Ytlgjidoehnhnoaa
