/-
  The document's Due and Old. No statement is proved here. No condition.
-/
import Derived.Test.YtclfhidapkoiiabURefB
namespace Go.Proofs.Ytclfhidapkoiiab
open Go.RowKit Go.Maps

theorem midL_now {ask : WT → Option WT} {L : List WT} {i : Nat} {x : WT} (h : L[i]? = some x) : (midL ask L (i + 1))[i]? = some (turnW ask x) := by
  rw [midL_succ h, List.getElem?_set]
  rw [if_pos rfl, if_pos (List.getElem?_eq_some_iff.1 (midL_at (ask := ask) h)).1]
section
variable {w w' : World} {B p : Nat} {life given : Int} {v : Value} {L : List WT}
/-- a row of one's own stays apart from the object -/
theorem RC.out {w2 w3 : World} {s : Value} {l : List WT} {C : Nat} (h : RC w2 B p life given v L) (ho : wtR.Own w2 C 40 s l) (hv : ∀ q, v.ownBlock = some q → s.ownBlock ≠ some q) (hk : ∀ n, n < w2.heap.size → s.ownBlock ≠ some n → w3.heap[n]? = w2.heap[n]?) : RC w3 B p life given v L :=
  ⟨(hk p h.ltp fun e => by
    obtain ⟨cur, hc⟩ := row_type ho e
    exact apart_T hc h.obj (by decide) rfl).trans h.obj, row_same h.row fun n hn => hk n (h.row.lt n hn).2 (hv n hn), h.pB⟩
set_option maxHeartbeats 4000000 in
set_option maxRecDepth 100000 in
theorem rdue_any (h : RC w B p life given v L) (hl : L.length ≤ 64) (now every : Int) :
    Calls Try.prog 17 #[.pointer (some ⟨p, 0, none⟩), .int .i64 now, .int .i64 every] w fun e w' => ∃ A c, e = .returned (.slice A (L.filterMap (dueA now every)).length c) ∧ wtR.Own w' w.heap.size 40 (.slice A (L.filterMap (dueA now every)).length c) (L.filterMap (dueA now every)) ∧ RC w' B p life given v (L.map (turnW (dueA now every))) ∧ Kept w w' (TR p v) := by
  obtain ⟨A, c, hv⟩ := h.slice
  obtain ⟨Y, hY⟩ : ∃ Y, Y = L.filterMap (dueA now every) := ⟨_, rfl⟩
  rw [← hY]
  have HY := Lib.hid hY
  have HVL : Hid (∀ q, v.ownBlock = some q → q < w.heap.size) := Lib.hid fun q hq => (h.row.lt q hq).2
  have HR0 : Hid (RC w B p life given v (midL (dueA now every) L 0)) := Lib.hid (by rw [midL_zero]; exact h)
  have HK0 : Hid (Kept w w (TR p v)) := Lib.hid (Kept.refl _ _)
  have HO0 : Hid (wtR.Own w w.heap.size 40 (.slice none 0 0) (toldL (dueA now every) L 0)) := Lib.hid (by rw [toldL_zero]; exact Rec.Own.none _ _ _ _)
  clear hY h
  go_enter Try.func17, Try.ntmps17
  go_wp2_with fail
  go_loopw [7, 8] (fun s7 s8 wr => ∃ (i : Nat) (A7 : Option Addr) (c7 : Nat), s8 = .int .i64 (i : Int) ∧ i ≤ L.length ∧ s7 = .slice A7 (toldL (dueA now every) L i).length c7 ∧ Hid (wtR.Own wr w.heap.size 40 s7 (toldL (dueA now every) L i)) ∧ Hid (RC wr B p life given v (midL (dueA now every) L i)) ∧ Hid (Kept w wr (TR p v))) (fun _ s8 _ => L.length - (intOf s8).toNat)
  case atStart => exact ⟨0, none, 0, rfl, Nat.zero_le _, by rw [toldL_zero]; rfl, HO0, HR0, HK0⟩
  case round =>
    clear HR0 HK0 HO0
    obtain ⟨i, A7, c7, rfl, hi, rfl, hO, hR, hK⟩ := hrel
    obtain ⟨wz, hwz⟩ : ∃ wz : World, wz = wr := ⟨_, rfl⟩
    subst hwz
    have c2 : wz.cell? ⟨p, 2, none⟩ = some v := (blk_cells hR.out.obj).1 2
    have htl := toldL_length (dueA now every) L i
    by_cases hil : i < L.length
    · have a1 : (i : Int) < (L.length : Int) := by omega
      have a0 : (0 : Int) ≤ (i : Int) := by omega
      obtain ⟨x, hx⟩ : ∃ x, L[i]? = some x := ⟨_, List.getElem?_eq_getElem hil⟩
      obtain ⟨g, cc, hv2, hcell, hfz, hR2, hK2⟩ := hR.out.poke (i := i) (j := 5) (x := x) (y := { x with last := now }) (u := .int .i64 now) (midL_at hx) rfl (by decide)
      rw [midL_length] at hv2
      subst hv2
      injection hv with v1 _ v3
      subst v1 v3
      have x5 : wz.cell? ⟨g, i * 7 + 5, none⟩ = some (.int .i64 x.last) := hcell 5 _ rfl
      have f5 := hfz (i * 7 + 5)
      have cG := rago_any x.last now every wz
      by_cases hk : agoB x.last every now = true
      · have hm : dueA now every x = some { x with last := now } := by unfold dueA; rw [if_pos hk]
        rw [hk] at cG
        have hmid : midL (dueA now every) L (i + 1) = (midL (dueA now every) L i).set i { x with last := now } := by rw [midL_succ hx]; unfold turnW; rw [hm]; rfl
        rw [← hmid] at hR2
        obtain ⟨w2, hw2⟩ : ∃ w2, w2 = wz.setCell ⟨g, i * 7 + 5, none⟩ (.int .i64 now) := ⟨_, rfl⟩
        rw [← hw2] at hR2 hK2
        have hnow : (midL (dueA now every) L (i + 1))[i]? = some { x with last := now } := by rw [midL_now hx]; unfold turnW; rw [hm]; rfl
        obtain ⟨yb, yo, yn, yk, hyv, -, -, hyc⟩ := (Rec.Own.n hR2.row).cell hnow
        injection hyv with y1 _ y3
        injection y1 with y1
        injection y1 with y1 y2
        subst y1 y2
        simp only [Nat.zero_add] at hyc
        obtain ⟨z0, z1, z2, z3, z4, z5, z6⟩ : w2.cell? ⟨g, i * 7, none⟩ = some (.int .i64 x.req) ∧ w2.cell? ⟨g, i * 7 + 1, none⟩ = some (.string x.key) ∧ w2.cell? ⟨g, i * 7 + 2, none⟩ = some (.int .i64 x.client) ∧ w2.cell? ⟨g, i * 7 + 3, none⟩ = some (.int .i64 x.id) ∧ w2.cell? ⟨g, i * 7 + 4, none⟩ = some (.int .i64 x.first) ∧ w2.cell? ⟨g, i * 7 + 5, none⟩ = some (.int .i64 now) ∧ w2.cell? ⟨g, i * 7 + 6, none⟩ = some (.bool x.marked) := ⟨hyc 0 _ rfl, hyc 1 _ rfl, hyc 2 _ rfl, hyc 3 _ rfl, hyc 4 _ rfl, hyc 5 _ rfl, hyc 6 _ rfl⟩
        have c3 : w2.cell? ⟨p, 2, none⟩ = some (.slice (some ⟨g, 0, none⟩) L.length cc) := (blk_cells hR2.obj).1 2
        have hgl : g < w.heap.size := HVL.out g rfl
        have hO2 : wtR.Own w2 w.heap.size 40 (.slice A7 (toldL (dueA now every) L i).length c7) (toldL (dueA now every) L i) := row_same hO.out fun n hn => by rw [hw2]; exact set_far fun e => by have := (hO.out.lt n hn).1; omega
        have hkz := hK.out.trans hK2 fun n hn => .inl hn
        obtain ⟨A3, c3', w3, hap, hown, hb3, hn3, -⟩ := rwt_app (x := { x with last := now }) hO2 hkz.size (by omega)
        have hR3 := hR2.out (w3 := w3) hO2 (fun q hq e => by have h1 := HVL.out q hq; have h2 := (hO2.lt q e).1; omega) hn3
        have hK3 : Kept w w3 (TR p (.slice (some ⟨g, 0, none⟩) L.length cc)) := hkz.trans (Kept.of_below hb3) fun n hn => .inr hn
        have ht : toldL (dueA now every) L (i + 1) = toldL (dueA now every) L i ++ [{ x with last := now }] := by rw [toldL_succ hx, hm]; rfl
        rw [← ht] at hown
        have hTl : (toldL (dueA now every) L (i + 1)).length = (toldL (dueA now every) L i).length + 1 := by rw [ht]; simp
        rw [← hTl] at hown
        have HF := Lib.hid (And.intro hown (And.intro hR3 hK3))
        have HT := Lib.hid hTl
        have HW2 := Lib.hid hw2
        unfold WT.cells at hap
        dsimp only at hap
        have HAP := Lib.hid hap
        clear hap hown hb3 hn3 hR3 hK3 ht hTl hkz hO2 hR2 hK2 hw2 hnow hyc hmid hm hcell hfz hO hR hK hx hgl
        go_wp2_with fail
        refine cG.mono ?_
        rintro e wq ⟨rfl, rfl⟩
        clear cG
        go_upto_region 7 with fail
        rw [← HW2.out]
        clear HW2 x5 f5 c2
        go_upto_region 4 with (at_builtin; go_must (refine Lib.wpList_append_run _ rfl (.tmp 37) (.tmp 45) 45 45 rfl _ _ rfl rfl _ _ HAP.out ?_))
        clear HAP z0 z1 z2 z3 z4 z5 z6 c3
        go_wp2_with fail
        exact ⟨⟨i + 1, A3, c3', by go_num, by omega, by rw [HT.out], Lib.hid (by rw [← HT.out]; exact HF.out.1), Lib.hid HF.out.2.1, Lib.hid HF.out.2.2⟩, by simp [intOf]; omega⟩
      · have hm : dueA now every x = none := by unfold dueA; rw [if_neg hk]
        have hk : agoB x.last every now = false := by simpa using hk
        rw [hk] at cG
        have ht : toldL (dueA now every) L (i + 1) = toldL (dueA now every) L i := by rw [toldL_succ hx, hm]; simp
        have HR2 : Hid (RC wz B p life given (.slice (some ⟨g, 0, none⟩) L.length cc) (midL (dueA now every) L (i + 1))) := Lib.hid (by rw [midL_stay hx hm]; exact hR.out)
        have HT := Lib.hid ht
        clear hR2 hK2 hcell hfz hm ht hR hx
        go_wp2_with fail
        refine cG.mono ?_
        rintro e wq ⟨rfl, rfl⟩
        clear cG
        go_wp2_with fail
        exact ⟨⟨i + 1, A7, c7, by go_num, by omega, by rw [HT.out], by rw [HT.out]; exact hO, HR2, hK⟩, by simp [intOf]; omega⟩
    · have hie : i = L.length := by omega
      subst hie
      subst hv
      have a1 : ¬ (L.length : Int) < (L.length : Int) := by omega
      have he := midL_end (dueA now every) L
      rw [he] at hR
      have ht : toldL (dueA now every) L L.length = Y := (toldL_end _ _).trans HY.out.symm
      rw [ht] at hO
      rw [ht]
      clear he ht htl
      go_wp2_with fail
      go_ret
      exact ⟨A7, c7, rfl, hO.out, hR.out, hK.out⟩
end
end Go.Proofs.Ytclfhidapkoiiab
