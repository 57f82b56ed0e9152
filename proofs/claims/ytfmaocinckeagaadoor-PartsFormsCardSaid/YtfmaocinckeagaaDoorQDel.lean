/-
  slices.IndexFunc and slices.DeleteFunc with the program's closure, on an owned row of keys. No statement is proved here. No condition.
-/
import Derived.Test.YtfmaocinckeagaaDoorQKey
namespace Go.Proofs.YtfmaocinckeagaaDoor
open Go.RowKit

def delK (l : List Key) (k : Key) : List Key := l.filter fun q => decide (q ≠ k)
theorem delK_snoc {l : List Key} {i : Nat} {q : Key} (h : l[i]? = some q) (k : Key) : delK (l.take (i + 1)) k = delK (l.take i) k ++ (if q = k then [] else [q]) := by
  unfold delK
  rw [List.take_add_one, h, List.filter_append]
  congr 1
  by_cases hk : q = k
  · simp [hk]
  · simp [hk]
theorem drop_step {α : Type} {l : List α} {j : Nat} {p : α} (h : l[j]? = some p) : l.drop j = p :: l.drop (j + 1) := by
  obtain ⟨hl, he⟩ := List.getElem?_eq_some_iff.1 h
  rw [List.drop_eq_getElem_cons hl, he]
set_option maxHeartbeats 1000000 in
set_option maxRecDepth 100000 in
theorem idxKey_any (l : List Key) (k : Key) (q : Nat) (v : Value) (w : World) (h : keyR.N w Any v l) (hq : KAt w q k) :
    Calls Tryd.prog 64 #[v, .func (.func 42) #[] #[.pointer (some ⟨q, 0, none⟩)]] w fun e w' => ∃ r : Int, e = .returned (.int .i64 r) ∧
      ((∃ (i : Nat) (a : Key), l[i]? = some a ∧ r = (i : Int) ∧ a = k ∧ (l.take i).any (fun y => decide (y = k)) = false) ∨ (r = -1 ∧ l.any (fun y => decide (y = k)) = false)) ∧ Below w.heap.size w w' := by
  obtain ⟨A, c, rfl, hlc, hcm⟩ := h.slice
  have hql := hq.lt
  have hcl : ∀ (y : Key) W, Below w.heap.size w W → Calls Tryd.prog 42 #[y.v, .pointer (some ⟨q, 0, none⟩)] W fun e w' => e = .returned (.bool (decide (y = k))) ∧ Below W.heap.size W w' := fun y W hW => drop1_any y k q W (hq.below hW hql)
  have HN := Lib.hid h
  have HC := Lib.hid hcl
  unfold maxLen at hcm
  clear h hcl hq
  go_enter Tryd.func64, Tryd.ntmps64
  go_wp2_with fail
  go_loopw [5, 8] (fun _ s8 wr => ∃ i : Nat, s8 = .int .i64 (i : Int) ∧ i ≤ l.length ∧ Hid ((l.take i).any (fun y => decide (y = k)) = false) ∧ Hid (Below w.heap.size w wr)) (fun _ s8 _ => l.length - (intOf s8).toNat)
  case atStart => exact ⟨0, rfl, Nat.zero_le _, Lib.hid rfl, Lib.hid (Below.refl _ _)⟩
  case round =>
    obtain ⟨i, rfl, hi, hp, hB⟩ := hrel
    obtain ⟨wz, hwz⟩ : ∃ wz : World, wz = wr := ⟨_, rfl⟩
    subst hwz
    by_cases hil : i < l.length
    · have a1 : (i : Int) < (l.length : Int) := by omega
      have a0 : (0 : Int) ≤ (i : Int) := by omega
      obtain ⟨p, hpi⟩ : ∃ p, l[i]? = some p := ⟨_, List.getElem?_eq_getElem hil⟩
      have hstep : (l.take (i + 1)).any (fun y => decide (y = k)) = decide (p = k) := by
        rw [List.take_add_one, hpi, List.any_append, hp.out]
        simp
      have HPI := Lib.hid hpi
      obtain ⟨b, o, n', k', hv, -, hbs, c0, c1⟩ := keyc_cell (HN.out.grow hB.out) hpi
      injection hv with e1 e2 e3
      subst e1 e2 e3
      have cc := HC.out p wz hB.out
      unfold Key.v at cc
      by_cases hk : p = k
      · rw [decide_eq_true hk] at cc
        have HK := Lib.hid hk
        clear hstep hpi hk
        go_wp2_with fail
        refine cc.mono ?_
        rintro e w2 ⟨rfl, hb2⟩
        have HB2 := Lib.hid (hB.out.trans (Joins.below_le hb2 hB.out.size))
        clear cc hb2
        go_wp2_with fail
        go_ret
        exact ⟨_, rfl, .inl ⟨i, p, HPI.out, rfl, HK.out, hp.out⟩, HB2.out⟩
      · rw [decide_eq_false hk] at cc hstep
        have HST := Lib.hid hstep
        clear hstep hpi hk
        go_wp2_with fail
        refine cc.mono ?_
        rintro e w2 ⟨rfl, hb2⟩
        have HB2 := Lib.hid (hB.out.trans (Joins.below_le hb2 hB.out.size))
        clear cc hb2
        go_wp2_with fail
        exact ⟨⟨i + 1, by go_num, hil, HST, HB2⟩, by simp [intOf]; omega⟩
    · have a1 : ¬ (i : Int) < (l.length : Int) := by omega
      have hall : l.take i = l := List.take_of_length_le (by omega)
      rw [hall] at hp
      clear hall
      go_wp2_with fail
      go_ret
      exact ⟨_, rfl, .inr ⟨rfl, by first | exact hp.out | simpa using hp.out⟩, hB.out⟩

theorem delK_none {l : List Key} {k : Key} (h : l.any (fun y => decide (y = k)) = false) : delK l k = l := by
  unfold delK
  rw [List.filter_eq_self]
  intro a ha
  have := List.any_eq_false.1 h a ha
  simpa using this
theorem delK_first {l : List Key} {k : Key} {i : Nat} {a : Key} (h : l[i]? = some a) (ha : a = k) (hp : (l.take i).any (fun y => decide (y = k)) = false) : delK (l.take (i + 1)) k = l.take i := by
  rw [delK_snoc h, if_pos ha, List.append_nil, delK_none hp]
set_option maxHeartbeats 4000000 in
set_option maxRecDepth 100000 in
theorem delf_any (l : List Key) (k : Key) (q : Nat) (v : Value) (B : Nat) (w : World) (h : keyR.Own w B 67 v l) (hB0 : B ≤ w.heap.size) (hqB : v.ownBlock ≠ some q) (hq : KAt w q k) (hl : l.length ≤ 4398046511000) :
    Calls Tryd.prog 41 #[v, .func (.func 42) #[] #[.pointer (some ⟨q, 0, none⟩)]] w fun e w' => ∃ v', e = .returned v' ∧ keyR.Own w' B 67 v' (delK l k) ∧ Below B w w' ∧ Near v w w' ∧ v'.ownBlock = v.ownBlock := by
  obtain ⟨iu, hiu, z0, z1, z2⟩ := info_parts info_Key
  have hcl : ∀ (y : Key) W, Near v w W → Calls Tryd.prog 42 #[y.v, .pointer (some ⟨q, 0, none⟩)] W fun e w' => e = .returned (.bool (decide (y = k))) ∧ Below W.heap.size W w' := fun y W hW =>
    drop1_any y k q W (hq.near hW hqB)
  have cI := idxKey_any l k q v w h.n.any hq
  obtain ⟨A, c, rfl⟩ := h.slice
  have hlc : l.length ≤ 9223372036854775807 := by omega
  have HC := Lib.hid hcl
  have HO := Lib.hid h
  obtain ⟨D0, hD0⟩ : ∃ D0, D0 = delK l k := ⟨_, rfl⟩
  rw [← hD0]
  have HD0 := Lib.hid hD0
  have HIU := Lib.hid hiu
  have HZ0 := Lib.hid z0
  clear hcl hq h hD0 hiu z0 z1 z2
  go_enter Tryd.func41, Tryd.ntmps41
  go_wp2_with fail
  refine cI.mono ?_
  rintro e w1 ⟨r, rfl, hr, hb1⟩
  have HB1 := Lib.hid hb1
  have HO1 := Lib.hid (HO.out.below hb1)
  clear cI hb1 HO
  rcases hr with ⟨i0, a, hia, rfl, hak, hp⟩ | ⟨rfl, hp⟩
  · have hil0 := (List.getElem?_eq_some_iff.1 hia).1
    have hn1 : ¬ ((i0 : Int) = -1) := by omega
    have hn2 : ((i0 : Int) == -1) = false := by rw [beq_eq_false_iff_ne]; exact hn1
    have hd1 : delK (l.take (i0 + 1)) k = l.take i0 := delK_first hia hak hp
    have hsplit : l = l.take i0 ++ [a] ++ l.drop (i0 + 1) := by
      have h1 : l.take (i0 + 1) = l.take i0 ++ [a] := by rw [List.take_add_one, hia]; rfl
      rw [← h1, List.take_append_drop]
    have hst : ∃ X : List Key, 1 ≤ X.length ∧ i0 + X.length = i0 + 1 ∧ (delK (l.take (i0 + 1)) k).length = i0 ∧ keyR.Own w1 B 67 (.slice A l.length c) (delK (l.take (i0 + 1)) k ++ X ++ l.drop (i0 + 1)) := ⟨[a], Nat.le_refl _, rfl, by rw [hd1, List.length_take, Nat.min_eq_left (by omega)], by rw [hd1, ← hsplit]; exact HO1.out⟩
    have HST := Lib.hid hst
    have HB1' := Lib.hid (Joins.below_le HB1.out hB0)
    have HN1 := Lib.hid (Near.below (v := .slice A l.length c) HB1.out)
    clear hst hsplit hd1 hp hak hia
    go_wp2_with fail
    go_loopw [5, 6, 7] (fun s5 s6 _ wr => ∃ i j : Nat, s5 = .int .i64 (i : Int) ∧ s6 = .int .i64 (j : Int) ∧ j ≤ l.length ∧ i < j ∧ Hid (∃ X : List Key, 1 ≤ X.length ∧ i + X.length = j ∧ (delK (l.take j) k).length = i ∧ keyR.Own wr B 67 (.slice A l.length c) (delK (l.take j) k ++ X ++ l.drop j)) ∧ Hid (Below B w wr) ∧ Hid (Near (.slice A l.length c) w wr)) (fun _ s6 _ _ => l.length - (intOf s6).toNat)
    case atStart => exact ⟨i0, i0 + 1, rfl, by go_num, hil0, Nat.lt_succ_self _, HST, HB1', HN1⟩
    case round =>
      clear HST
      obtain ⟨i, j, rfl, rfl, hj, hij, hX, hB, hN⟩ := hrel
      obtain ⟨wz, hwz⟩ : ∃ wz : World, wz = wr := ⟨_, rfl⟩
      subst hwz
      obtain ⟨X, hX1, hX2, hDl, hO⟩ := hX.out
      by_cases hjl : j < l.length
      · have a1 : (j : Int) < (l.length : Int) := by omega
        have a0 : (0 : Int) ≤ (j : Int) := by omega
        obtain ⟨p, hpj⟩ : ∃ p, l[j]? = some p := ⟨_, List.getElem?_eq_getElem hjl⟩
        have hMl : (delK (l.take j) k ++ X ++ l.drop j).length = l.length := by simp only [List.length_append, List.length_drop]; omega
        have hMj : (delK (l.take j) k ++ X ++ l.drop j)[j]? = some p := by
          rw [List.getElem?_append_right (by rw [List.length_append]; omega), List.length_append, List.getElem?_drop, show j + (j - ((delK (l.take j) k).length + X.length)) = j by omega]
          exact hpj
        have HM := Lib.hid hO
        obtain ⟨bb, o, n', k', hv, -, hbs, c0, c1⟩ := keyc_cell hO.n hMj
        injection hv with e1 e2 e3
        subst e1 e2 e3
        obtain ⟨w2, hw2⟩ : ∃ w2, w2 = wz.alloc (.cells #[.int .i64 p.1, .int .i64 p.2] 67) := ⟨_, rfl⟩
        have hbz : Below wz.heap.size wz w2 := by rw [hw2]; exact (Below.refl _ _).alloc (Nat.le_refl _) _
        have hb2 : Below B w w2 := hB.out.trans (Joins.below_le hbz (Nat.le_trans hB0 hB.out.size))
        have hx2 : w2.heap[wz.heap.size]? = some (.cells #[.int .i64 p.1, .int .i64 p.2] 67 (0, 0)) := by rw [hw2]; exact heap_alloc_new wz _
        have d0 : w2.cell? ⟨wz.heap.size, 0, none⟩ = some (.int .i64 p.1) := (blk_cells hx2).1 0
        have d1 : w2.cell? ⟨wz.heap.size, 1, none⟩ = some (.int .i64 p.2) := (blk_cells hx2).1 1
        have cc := HC.out p w2 (hN.out.trans (Near.below hbz) hB.out.size)
        unfold Key.v at cc
        have hsn := delK_snoc hpj k
        have HW2 := Lib.hid hw2
        have HB2 := Lib.hid hb2
        have HBZ := Lib.hid hbz
        have HN2 := Lib.hid (hN.out.trans (Near.below hbz) hB.out.size)
        have HX2 := Lib.hid hx2
        have HPJ := Lib.hid hpj
        have HML := Lib.hid hMl
        have HSN := Lib.hid hsn
        clear hw2 hb2 hbz hx2 hpj hMl hMj hO hsn
        go_upto_region 8 with fail
        rw [← HW2.out]
        by_cases hk : p = k
        · have hD2 : delK (l.take (j + 1)) k = delK (l.take j) k := by rw [HSN.out, if_pos hk, List.append_nil]
          rw [decide_eq_true hk] at cc
          have HD2 := Lib.hid hD2
          clear hD2 hk
          go_wp2_with fail
          refine cc.mono ?_
          rintro e w3 ⟨rfl, hb3⟩
          have HB3 := Lib.hid (HB2.out.trans (Joins.below_le hb3 (Nat.le_trans hB0 HB2.out.size)))
          have HN3 := Lib.hid (HN2.out.trans (Near.below hb3) HB2.out.size)
          have hX3 : ∃ X : List Key, 1 ≤ X.length ∧ i + X.length = j + 1 ∧ (delK (l.take (j + 1)) k).length = i ∧ keyR.Own w3 B 67 (.slice (some ⟨bb, o, none⟩) l.length c) (delK (l.take (j + 1)) k ++ X ++ l.drop (j + 1)) := by
            refine ⟨X ++ [p], by simp, by simp; omega, by rw [HD2.out]; exact hDl, ?_⟩
            have e : delK (l.take (j + 1)) k ++ (X ++ [p]) ++ l.drop (j + 1) = delK (l.take j) k ++ X ++ l.drop j := by rw [HD2.out, drop_step HPJ.out]; simp
            rw [e]
            exact (HM.out.below HBZ.out).below hb3
          have HX3 := Lib.hid hX3
          clear cc hb3 hX3 d0 d1 c0 c1
          go_wp2_with fail
          exact ⟨⟨i, j + 1, rfl, by go_num, hjl, by omega, HX3, HB3, HN3⟩, by simp [intOf]; omega⟩
        · have hD2 : delK (l.take (j + 1)) k = delK (l.take j) k ++ [p] := by rw [HSN.out, if_neg hk]
          rw [decide_eq_false hk] at cc
          have HD2 := Lib.hid hD2
          clear hD2 hk
          go_wp2_with fail
          refine cc.mono ?_
          rintro e w3 ⟨rfl, hb3⟩
          have hx3 := (hb3.block _ (Array.getElem?_eq_some_iff.1 HX2.out).1).trans HX2.out
          have y0 : w3.cell? ⟨wz.heap.size, 0, none⟩ = some (.int .i64 p.1) := (blk_cells hx3).1 0
          have y1 : w3.cell? ⟨wz.heap.size, 1, none⟩ = some (.int .i64 p.2) := (blk_cells hx3).1 1
          have HB3 := Lib.hid (HB2.out.trans (Joins.below_le hb3 (Nat.le_trans hB0 HB2.out.size)))
          have HN3 := Lib.hid (HN2.out.trans (Near.below hb3) HB2.out.size)
          have hi2 : i < (delK (l.take j) k ++ X ++ l.drop j).length := by rw [HML.out]; omega
          obtain ⟨g, cap, hvg, hgB, hgl, hcap, hcm, hcells, hfz, hupd⟩ := own_upd ((HM.out.below HBZ.out).below hb3) hi2
          injection hvg with g1 g2 g3
          injection g1 with g1
          injection g1 with g0 g1
          subst g0 g1 g3
          obtain ⟨s0, f0⟩ : ∃ s, w3.cell? ⟨bb, i * 2, none⟩ = some (.int .i64 s) := ⟨_, hcells 0 _ rfl⟩
          obtain ⟨s1, f1⟩ : ∃ s, w3.cell? ⟨bb, i * 2 + 1, none⟩ = some (.int .i64 s) := ⟨_, hcells 1 _ rfl⟩
          obtain ⟨q0, q1⟩ : w3.frozen? ⟨bb, i * 2, none⟩ = false ∧ w3.frozen? ⟨bb, i * 2 + 1, none⟩ = false := ⟨hfz _, hfz _⟩
          have hup := hupd p
          have hX3 : ∃ Y : List Key, 1 ≤ Y.length ∧ (i + 1) + Y.length = j + 1 ∧ (delK (l.take (j + 1)) k).length = i + 1 ∧ keyR.Own (w3.setCells bb (i * keyR.size) (keyR.vals p)) B 67 (.slice (some ⟨bb, 0, none⟩) l.length c) (delK (l.take (j + 1)) k ++ Y ++ l.drop (j + 1)) := by
            cases X with
            | nil => simp at hX1
            | cons x X =>
              refine ⟨X ++ [p], by simp, by simp at hX2 ⊢; omega, by rw [HD2.out]; simp [hDl], ?_⟩
              have e : delK (l.take (j + 1)) k ++ (X ++ [p]) ++ l.drop (j + 1) = (delK (l.take j) k ++ x :: X ++ l.drop j).set i p := by
                rw [HD2.out, drop_step HPJ.out, List.append_assoc (delK (l.take j) k) (x :: X), List.set_append_right _ _ (by omega), show i - (delK (l.take j) k).length = 0 by omega]
                simp
              rw [e]
              exact hup.1
          have HX3 := Lib.hid hX3
          have HB4 := Lib.hid (HB3.out.trans hup.2)
          have HN4 := Lib.hid (HN3.out.trans (Near.setCells (keyR.vals p) (i * keyR.size)) HB3.out.size)
          have b1 : (i : Int) < (l.length : Int) := by omega
          have b0 : (0 : Int) ≤ (i : Int) := by omega
          clear cc hb3 hX3 d0 d1 c0 c1 hup hupd hcells hfz hx3 hcap hcm hgB hgl hX1 hX2 hDl hX g2 hi2
          go_wp2_with fail
          exact ⟨⟨i + 1, j + 1, by go_num, by go_num, hjl, by omega, HX3, HB4, HN4⟩, by simp [intOf]; omega⟩
      · have a1 : ¬ (j : Int) < (l.length : Int) := by omega
        have hall : l.take j = l := List.take_of_length_le (by omega)
        have hnil : l.drop j = [] := List.drop_of_length_le (by omega)
        rw [hall] at hDl hO
        rw [hnil, List.append_nil, ← HD0.out] at hO
        rw [← HD0.out] at hDl
        have hln : D0.length + X.length = l.length := by omega
        rcases own_opened hO with ⟨-, h0⟩ | ⟨g, cap, rest, hvg, hgB, hg, hcap, hcm, hrl⟩
        · have := congrArg List.length h0
          rw [List.length_append] at this
          simp only [List.length_nil] at this
          omega
        · injection hvg with g1 g2 g3
          subst g1 g3
          rw [List.length_append] at hcap
          have hg2 : wz.heap[g]? = some (.cells (keyR.row D0 ++ keyR.row X ++ rest).toArray 67 (0, 0)) := by rw [← keyR.row_append]; exact hg
          have hil2 : i < l.length := by omega
          have hcl := fun ty (c' : Nat) => run_clearK (P := Tryd.prog) (w := wz) (t := 61) (ty := ty) (elem := 67) (m := l.length - i) (c := c') Tryd.underlying61 HIU.out HZ0.out (by omega) hg2 (show (keyR.row D0).length = i * 2 by rw [keyR.row_length, hDl]; rfl) (by rw [keyR.row_length, show X.length = l.length - i by omega]; rfl) (by first | rfl | kernel_rfl | simp [Value.cells, Value.oneCell'])
          obtain ⟨ZZ, hZZ⟩ : ∃ ZZ, ZZ = (Builtin.zeroCells (Value.agg #[.int .i64 0, .int .i64 0]).cells (l.length - i)).toList := ⟨_, rfl⟩
          have hZl : ZZ.length = (l.length - i) * 2 := by rw [hZZ]; exact size_zeroCells _ _
          rw [← hZZ] at hcl
          have hfin : keyR.Own (wz.setRow g (keyR.row D0 ++ ZZ ++ rest).toArray) B 67 (.slice (some ⟨g, 0, none⟩) i c) D0 ∧ Below B w (wz.setRow g (keyR.row D0 ++ ZZ ++ rest).toArray) ∧ Near (.slice (some ⟨g, 0, none⟩) l.length c) w (wz.setRow g (keyR.row D0 ++ ZZ ++ rest).toArray) := by
            refine ⟨?_, below_setRow hB.out hgB _, hN.out.trans (Near.setRow _) hB.out.size⟩
            have e := setRow_heap wz g _ (keyR.row D0 ++ ZZ ++ rest).toArray _ _ hg2
            rw [List.append_assoc] at e ⊢
            have := Rec.own_closed (R := keyR) (B := B) (l := D0) (cap := c) hgB e (by omega) hcm (by
              have q1 : keyR.size = 2 := rfl
              rw [List.length_append] at hrl
              rw [List.length_append, hZl, q1]
              rw [q1] at hrl
              omega)
            rw [hDl] at this
            exact this
          obtain ⟨CC, hCC⟩ : ∃ CC, CC = (keyR.row D0 ++ ZZ ++ rest).toArray := ⟨_, rfl⟩
          rw [← hCC] at hcl hfin
          have HF := Lib.hid hfin
          have b1 : (i : Int) ≤ (l.length : Int) := by omega
          have b0 : (0 : Int) ≤ (i : Int) := by omega
          have b2 : ¬ (c = i) := by omega
          have b3 : i ≤ l.length := by omega
          have b4 : (i : Int) ≤ (c : Int) := by omega
          clear hCC hfin hZl hZZ hg hg2 hO hX hln g2 hX1 hX2 hDl hcap hrl hall hnil hij
          go_wp2_with fail
          go_ret
          exact ⟨_, rfl, HF.out.1, HF.out.2.1, HF.out.2.2, rfl⟩
  · have hd : D0 = l := by rw [HD0.out]; exact delK_none hp
    have HD := Lib.hid hd
    clear hd hp
    go_wp2_with fail
    go_ret
    exact ⟨_, rfl, by rw [HD.out]; exact HO1.out, Joins.below_le HB1.out hB0, Near.below HB1.out, rfl⟩
end Go.Proofs.YtfmaocinckeagaaDoor
