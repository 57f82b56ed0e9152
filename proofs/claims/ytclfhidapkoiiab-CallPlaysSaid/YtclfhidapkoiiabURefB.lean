/-
  The document's Ask, Mark, Due. No statement is proved here. No condition.
-/
import Derived.Test.YtclfhidapkoiiabURef
namespace Go.Proofs.Ytclfhidapkoiiab
open Go.RowKit Go.Maps

/-- how one is turned, told or not -/
def turnW (ask : WT → Option WT) (x : WT) : WT := (ask x).getD x
def midL (ask : WT → Option WT) (L : List WT) (i : Nat) : List WT := (L.take i).map (turnW ask) ++ L.drop i
theorem midL_zero (ask : WT → Option WT) (L : List WT) : midL ask L 0 = L := by simp [midL]
theorem midL_end (ask : WT → Option WT) (L : List WT) : midL ask L L.length = L.map (turnW ask) := by simp [midL]
theorem midL_length (ask : WT → Option WT) (L : List WT) (i : Nat) : (midL ask L i).length = L.length := by
  unfold midL
  rw [List.length_append, List.length_map, List.length_take, List.length_drop]
  omega
theorem midL_at {ask : WT → Option WT} {L : List WT} {i : Nat} {x : WT} (h : L[i]? = some x) : (midL ask L i)[i]? = some x := by
  have hl := (List.getElem?_eq_some_iff.1 h).1
  unfold midL
  rw [List.getElem?_append_right (by rw [List.length_map, List.length_take]; omega), List.length_map, List.length_take, Nat.min_eq_left (by omega), Nat.sub_self, List.getElem?_drop]
  exact h
theorem midL_succ {ask : WT → Option WT} {L : List WT} {i : Nat} {x : WT} (h : L[i]? = some x) : midL ask L (i + 1) = (midL ask L i).set i (turnW ask x) := by
  have hl := (List.getElem?_eq_some_iff.1 h).1
  unfold midL
  rw [List.take_add_one, h, List.map_append, drop_at h, List.set_append_right _ _ (by rw [List.length_map, List.length_take]; omega), List.length_map, List.length_take, Nat.min_eq_left (by omega), Nat.sub_self]
  simp
theorem midL_stay {ask : WT → Option WT} {L : List WT} {i : Nat} {x : WT} (h : L[i]? = some x) (hx : ask x = none) : midL ask L (i + 1) = midL ask L i := by
  rw [midL_succ h]
  have e : turnW ask x = x := by unfold turnW; rw [hx]; rfl
  rw [e]
  have := midL_at (ask := ask) h
  refine List.ext_getElem? fun n => ?_
  rw [List.getElem?_set]
  split
  · rename_i hn
    subst hn
    rw [if_pos (List.getElem?_eq_some_iff.1 this).1, this]
  · rfl
theorem leftW_turn (ask : WT → Option WT) (L : List WT) : L.filterMap (leftW false ask) = L.map (turnW ask) := by
  have : leftW false ask = some ∘ turnW ask := by
    funext x
    unfold leftW turnW
    simp only [Function.comp]
    cases ask x <;> rfl
  rw [this, List.filterMap_eq_map]
/-- what was told of the first i -/
def toldL (ask : WT → Option WT) (L : List WT) (i : Nat) : List WT := (L.take i).filterMap ask
theorem toldL_zero (ask : WT → Option WT) (L : List WT) : toldL ask L 0 = [] := by simp [toldL]
theorem toldL_end (ask : WT → Option WT) (L : List WT) : toldL ask L L.length = L.filterMap ask := by simp [toldL]
theorem toldL_succ {ask : WT → Option WT} {L : List WT} {i : Nat} {x : WT} (h : L[i]? = some x) : toldL ask L (i + 1) = toldL ask L i ++ (ask x).toList := by
  unfold toldL
  rw [List.take_add_one, h, List.filterMap_append]
  congr 1
theorem toldL_length (ask : WT → Option WT) (L : List WT) (i : Nat) : (toldL ask L i).length ≤ L.length := by
  unfold toldL
  refine Nat.le_trans (List.length_filterMap_le _ _) ?_
  rw [List.length_take]
  omega
theorem ask_sums {life given : Int} (h1 : 1 ≤ life) (h2 : life ≤ 2047) (h3 : 0 ≤ given) (h4 : given < 1048575) : wrap64 (given + 1) = given + 1 ∧ IntKind.i64.wrap (given + 1) = given + 1 ∧ wrap64 (life * 1048576) = life * 1048576 ∧ IntKind.i64.wrap (life * 1048576) = life * 1048576 ∧ wrap64 (life * 1048576 + (given + 1)) = life * 1048576 + given + 1 ∧ IntKind.i64.wrap (life * 1048576 + (given + 1)) = life * 1048576 + given + 1 := by
  refine ⟨by unfold wrap64; omega, by rw [IntKind.wrap_i64]; omega, by unfold wrap64; omega, by rw [IntKind.wrap_i64]; omega, by unfold wrap64; omega, by rw [IntKind.wrap_i64]; omega⟩
section
variable {w w' : World} {B p : Nat} {life given : Int} {v : Value} {L : List WT}
theorem RC.slice (h : RC w B p life given v L) : ∃ A c, v = .slice A L.length c := own_slice h.row
/-- one cell of the row written -/
theorem RC.poke {i j : Nat} {x y : WT} {u : Value} (h : RC w B p life given v L) (hx : L[i]? = some x) (hy : wtR.vals y = (wtR.vals x).set j u) (hj : j < 7) :
    ∃ g c, v = .slice (some ⟨g, 0, none⟩) L.length c ∧ (∀ q t, (wtR.vals x)[q]? = some t → w.cell? ⟨g, i * 7 + q, none⟩ = some t) ∧ (∀ q, w.frozen? ⟨g, q, none⟩ = false) ∧ RC (w.setCell ⟨g, i * 7 + j, none⟩ u) B p life given v (L.set i y) ∧ Kept w (w.setCell ⟨g, i * 7 + j, none⟩ u) (TR p v) := by
  obtain ⟨g, c, rfl, h1, h2, h3, h4, h5⟩ := own_poke h.row hx hy hj
  have hne : p ≠ g := fun e => h.far (by rw [e]; rfl)
  exact ⟨g, c, rfl, h3, h4, ⟨(set_far hne).trans h.obj, h5, h.pB⟩, Kept.setCell _ _ _ _ (.inr rfl)⟩
set_option maxHeartbeats 1000000 in
set_option maxRecDepth 100000 in
theorem rask_yes (h : RC w B p life given v L) (hB : B ≤ w.heap.size) (hl : 1 ≤ life ∧ life ≤ 2047) (hgv : 0 ≤ given) (key : ByteArray) (client id now : Int) (hn : 0 ≤ now) (hf : L.length < 64) (hg : given < 1048575) :
    Calls Try.prog 7 #[.pointer (some ⟨p, 0, none⟩), .string key, .int .i64 client, .int .i64 id, .int .i64 now] w fun e w' => e = .returned (.tuple #[.int .i64 (life * 1048576 + given + 1), .int .i64 0]) ∧ ∃ v', RC w' B p life (given + 1) v' (L ++ [⟨life * 1048576 + given + 1, key, client, id, now, now, false⟩]) ∧ Kept w w' (TR p v) ∧ (∀ q, v'.ownBlock = some q → v.ownBlock = some q ∨ w.heap.size ≤ q) := by
  have hz := zero_rwt
  have a1 : ¬ now < 0 := by omega
  have a2 : ¬ (64 : Int) ≤ (L.length : Int) := by omega
  have a3 : ¬ (1048575 : Int) ≤ given := by omega
  obtain ⟨A, c, rfl⟩ := h.slice
  obtain ⟨c0, c1, c2⟩ : w.cell? ⟨p, 0, none⟩ = some (.int .i64 life) ∧ w.cell? ⟨p, 1, none⟩ = some (.int .i64 given) ∧ w.cell? ⟨p, 2, none⟩ = some (.slice A L.length c) := ⟨(blk_cells h.obj).1 0, (blk_cells h.obj).1 1, (blk_cells h.obj).1 2⟩
  have f1 : w.frozen? ⟨p, 1, none⟩ = false := (blk_cells h.obj).2 1
  obtain ⟨w1, hw1⟩ : ∃ w1, w1 = w.setCell ⟨p, 1, none⟩ (.int .i64 (given + 1)) := ⟨_, rfl⟩
  have ho1 : w1.heap[p]? = some (.cells #[.int .i64 life, .int .i64 (given + 1), .slice A L.length c] 51 (0, 0)) := by
    rw [hw1, Joins.block_setCell h.obj _]
    rfl
  have hr1 : wtR.Own w1 B 40 (.slice A L.length c) L := row_same h.row fun n hn => by rw [hw1]; exact set_far fun e => h.far (by rw [← e]; exact hn)
  have hs1 : w1.heap.size = w.heap.size := by rw [hw1]; simp [World.setCell]
  have hK1 : Kept w w1 (TR p (.slice A L.length c)) := by rw [hw1]; exact Kept.setCell _ _ _ _ (.inl rfl)
  obtain ⟨d0, d1, d2⟩ : w1.cell? ⟨p, 0, none⟩ = some (.int .i64 life) ∧ w1.cell? ⟨p, 1, none⟩ = some (.int .i64 (given + 1)) ∧ w1.cell? ⟨p, 2, none⟩ = some (.slice A L.length c) := ⟨(blk_cells ho1).1 0, (blk_cells ho1).1 1, (blk_cells ho1).1 2⟩
  have H := Lib.hid h
  have HW1 := Lib.hid hw1
  have HO1 := Lib.hid ho1
  have HR1 := Lib.hid hr1
  have HS1 := Lib.hid hs1
  have HK1 := Lib.hid hK1
  obtain ⟨b1, b2, b3, b4, b5, b6⟩ := ask_sums hl.1 hl.2 hgv hg
  clear h hw1 ho1 hr1 hs1 hK1 hg hl hgv
  go_enter Try.func7, Try.ntmps7
  go_upto_region 8 with fail
  rw [← HW1.out]
  go_quiet (fail)
  clear b1 b2 b3 b4 b5 b6
  obtain ⟨w2, hw2⟩ : ∃ w2, w2 = w1.drewN nq := ⟨_, rfl⟩
  rw [← hw2]
  have hce : ∀ r, w2.cell? r = w1.cell? r := fun r => by rw [hw2]; rfl
  have hfe : ∀ r, w2.frozen? r = w1.frozen? r := fun r => by rw [hw2]; rfl
  rw [← hce] at d0 d1 d2
  have hh2 : w2.heap = w1.heap := by rw [hw2]; rfl
  have hsz2 : w2.heap.size = w.heap.size := by rw [hh2]; exact HS1.out
  have hr2 : wtR.Own w2 B 40 (.slice A L.length c) L := row_same HR1.out fun n _ => by rw [hh2]
  obtain ⟨A3, c3, w3, hap, hown, hb3, hn3, hat⟩ := rwt_app (x := ⟨life * 1048576 + given + 1, key, client, id, now, now, false⟩) hr2 (by omega) (by omega)
  have ho3 : w3.heap[p]? = some (.cells #[.int .i64 life, .int .i64 (given + 1), .slice A L.length c] 51 (0, 0)) := (hn3 p (by have := H.out.ltp; omega) H.out.far).trans (by rw [hh2]; exact HO1.out)
  have hown' : wtR.Own w3 B 40 (.slice A3 (L.length + 1) c3) (L ++ [⟨life * 1048576 + given + 1, key, client, id, now, now, false⟩]) := hown
  have hfin : RC (w3.setCell ⟨p, 2, none⟩ (.slice A3 (L.length + 1) c3)) B p life (given + 1) (.slice A3 (L.length + 1) c3) (L ++ [⟨life * 1048576 + given + 1, key, client, id, now, now, false⟩]) := by
    refine ⟨by rw [Joins.block_setCell ho3 _]; rfl, row_same hown' fun n hn => set_far fun e => ?_, H.out.pB⟩
    obtain ⟨cur, hc⟩ := row_type hown' hn
    exact apart_T hc ho3 (by decide) e
  have hKf : Kept w (w3.setCell ⟨p, 2, none⟩ (.slice A3 (L.length + 1) c3)) (TR p (.slice A L.length c)) := by
    have k2 : Kept w w2 (TR p (.slice A L.length c)) := HK1.out.trans (by rw [hw2]; exact Kept.drewN w1 nq _ : Kept w1 w2 (TR p (.slice A L.length c))) fun n hn => .inl hn
    have k3 : Kept w2 w3 (TR p (.slice A L.length c)) := ⟨hb3.os, hb3.tape, hb3.output, hb3.size, fun n hn hF => hn3 n hn fun e => hF (.inr e)⟩
    exact (k2.trans k3 fun n hn => .inl hn).trans (Kept.setCell _ _ _ _ (.inl rfl)) fun n hn => .inl hn
  have hat' : ∀ q, (Value.slice A3 (L.length + 1) c3).ownBlock = some q → (Value.slice A L.length c).ownBlock = some q ∨ w.heap.size ≤ q := fun q hq => by
    rcases hat with e | ⟨n, hn, e⟩
    · exact .inl (by rw [← e]; exact hq)
    · rw [e] at hq
      have := Option.some.inj hq
      exact .inr (by omega)
  obtain ⟨e2, f2⟩ : w3.cell? ⟨p, 2, none⟩ = some (.slice A L.length c) ∧ w3.frozen? ⟨p, 2, none⟩ = false := ⟨(blk_cells ho3).1 2, (blk_cells ho3).2 2⟩
  have HF := Lib.hid (And.intro hfin (And.intro hKf hat'))
  unfold WT.cells at hap
  dsimp only at hap
  have HAP := Lib.hid hap
  clear hap hown hown' hb3 hn3 hat hat' hfin hKf ho3 hr2 hh2 hce hfe hw2 c0 c1 c2 f1 hsz2
  go_upto_region 10 with (at_builtin; go_must (refine Lib.wpList_append_run _ rfl (.tmp 47) (.tmp 55) 45 45 rfl _ _ rfl rfl _ _ HAP.out ?_))
  go_wp2_with fail
  go_ret2
  exact ⟨rfl, _, HF.out.1, HF.out.2.1, HF.out.2.2⟩
set_option maxRecDepth 100000 in
theorem rask_no (h : RC w B p life given v L) (key : ByteArray) (client id now : Int) (hn : now < 0 ∨ 64 ≤ L.length ∨ 1048575 ≤ given) :
    Calls Try.prog 7 #[.pointer (some ⟨p, 0, none⟩), .string key, .int .i64 client, .int .i64 id, .int .i64 now] w fun e w' => e = .returned (.tuple #[.int .i64 0, .int .i64 (if now < 0 then 1 else if 64 ≤ L.length then 3 else 70)]) ∧ w' = w := by
  obtain ⟨A, c, rfl⟩ := h.slice
  obtain ⟨c1, c2⟩ : w.cell? ⟨p, 1, none⟩ = some (.int .i64 given) ∧ w.cell? ⟨p, 2, none⟩ = some (.slice A L.length c) := ⟨(blk_cells h.obj).1 1, (blk_cells h.obj).1 2⟩
  clear h
  by_cases h1 : now < 0
  · rw [if_pos h1]
    clear hn
    go_enter Try.func7, Try.ntmps7
    go_wp2_with fail
    go_ret2
    exact ⟨rfl, rfl⟩
  · rw [if_neg h1]
    by_cases h2 : 64 ≤ L.length
    · rw [if_pos h2]
      have h3 : (64 : Int) ≤ (L.length : Int) := by omega
      clear hn
      go_enter Try.func7, Try.ntmps7
      go_wp2_with fail
      go_ret2
      exact ⟨rfl, rfl⟩
    · rw [if_neg h2]
      have h3 : ¬ (64 : Int) ≤ (L.length : Int) := by omega
      have h4 : (1048575 : Int) ≤ given := by omega
      clear hn
      go_enter Try.func7, Try.ntmps7
      go_wp2_with fail
      go_ret2
      exact ⟨rfl, rfl⟩
set_option maxHeartbeats 2000000 in
set_option maxRecDepth 100000 in
theorem rmark_any (h : RC w B p life given v L) (hl : L.length ≤ 64) (k : ByteArray) :
    Calls Try.prog 14 #[.pointer (some ⟨p, 0, none⟩), .string k] w fun e w' => e = .returned (.int .i64 (((L.filterMap (markA k)).length : Nat) : Int)) ∧ RC w' B p life given v (L.map (turnW (markA k))) ∧ Kept w w' (TR p v) := by
  obtain ⟨A, c, hv⟩ := h.slice
  obtain ⟨n, hn⟩ : ∃ n, n = (L.filterMap (markA k)).length := ⟨_, rfl⟩
  rw [← hn]
  have HN := Lib.hid hn
  have HR0 : Hid (RC w B p life given v (midL (markA k) L 0)) := Lib.hid (by rw [midL_zero]; exact h)
  have HK0 : Hid (Kept w w (TR p v)) := Lib.hid (Kept.refl _ _)
  clear hn h
  go_enter Try.func14, Try.ntmps14
  go_wp2_with fail
  go_loopw [5, 6] (fun s5 s6 wr => ∃ i : Nat, s6 = .int .i64 (i : Int) ∧ i ≤ L.length ∧ s5 = .int .i64 (((toldL (markA k) L i).length : Nat) : Int) ∧ Hid (RC wr B p life given v (midL (markA k) L i)) ∧ Hid (Kept w wr (TR p v))) (fun _ s6 _ => L.length - (intOf s6).toNat)
  case atStart => exact ⟨0, rfl, Nat.zero_le _, by rw [toldL_zero]; rfl, HR0, HK0⟩
  case round =>
    clear HR0 HK0
    obtain ⟨i, rfl, hi, rfl, hR, hK⟩ := hrel
    obtain ⟨wz, hwz⟩ : ∃ wz : World, wz = wr := ⟨_, rfl⟩
    subst hwz
    have c2 : wz.cell? ⟨p, 2, none⟩ = some v := (blk_cells hR.out.obj).1 2
    have htl := toldL_length (markA k) L i
    by_cases hil : i < L.length
    · have a1 : (i : Int) < (L.length : Int) := by omega
      have a0 : (0 : Int) ≤ (i : Int) := by omega
      obtain ⟨x, hx⟩ : ∃ x, L[i]? = some x := ⟨_, List.getElem?_eq_getElem hil⟩
      obtain ⟨g, cc, hv2, hcell, hfz, hR2, hK2⟩ := hR.out.poke (i := i) (j := 6) (x := x) (y := { x with marked := true }) (u := .bool true) (midL_at hx) rfl (by decide)
      rw [midL_length] at hv2
      subst hv2
      injection hv with v1 _ v3
      subst v1 v3
      have x1 : wz.cell? ⟨g, i * 7 + 1, none⟩ = some (.string x.key) := hcell 1 _ rfl
      have x6 : wz.cell? ⟨g, i * 7 + 6, none⟩ = some (.bool x.marked) := hcell 6 _ rfl
      have f6 := hfz (i * 7 + 6)
      by_cases hk : x.key = k
      · have hm : markA k x = some { x with marked := true } := by unfold markA; rw [if_pos hk]
        have ht : (toldL (markA k) L (i + 1)).length = (toldL (markA k) L i).length + 1 := by rw [toldL_succ hx, hm]; simp
        have HR2 : Hid (RC (wz.setCell ⟨g, i * 7 + 6, none⟩ (.bool true)) B p life given (.slice (some ⟨g, 0, none⟩) L.length cc) (midL (markA k) L (i + 1))) := Lib.hid (by rw [midL_succ hx]; unfold turnW; rw [hm]; exact hR2)
        have HK2 := Lib.hid (hK.out.trans hK2 fun n hn => .inl hn)
        have HT := Lib.hid ht
        subst hk
        clear hR2 hK2 hcell hfz hm ht hR hK hx
        go_wp2_with fail
        exact ⟨⟨i + 1, by go_num, by omega, by rw [HT.out]; go_num, HR2, HK2⟩, by simp [intOf]; omega⟩
      · have hm : markA k x = none := by unfold markA; rw [if_neg hk]
        have hk2 : (x.key.toList == k.toList) = false := by
          rw [beq_eq_false_iff_ne]
          exact fun e => hk (toList_inj e)
        have ht : toldL (markA k) L (i + 1) = toldL (markA k) L i := by rw [toldL_succ hx, hm]; simp
        have HR2 : Hid (RC wz B p life given (.slice (some ⟨g, 0, none⟩) L.length cc) (midL (markA k) L (i + 1))) := Lib.hid (by rw [midL_stay hx hm]; exact hR.out)
        have HT := Lib.hid ht
        clear hR2 hK2 hcell hfz hm ht hR hx
        go_wp2_with fail
        exact ⟨⟨i + 1, by go_num, by omega, by rw [HT.out], HR2, hK⟩, by simp [intOf]; omega⟩
    · have hie : i = L.length := by omega
      subst hie
      subst hv
      have a1 : ¬ (L.length : Int) < (L.length : Int) := by omega
      have he := midL_end (markA k) L
      rw [he] at hR
      have ht : (toldL (markA k) L L.length).length = n := by rw [toldL_end]; exact HN.out.symm
      rw [ht]
      clear he ht htl
      go_wp2_with fail
      go_ret
      exact ⟨rfl, hR.out, hK.out⟩
end
end Go.Proofs.Ytclfhidapkoiiab
