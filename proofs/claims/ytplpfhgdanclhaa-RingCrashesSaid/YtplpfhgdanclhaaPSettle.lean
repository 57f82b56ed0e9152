/-
  The program's own disk: settle. No statement is proved here. No condition.
-/
import Derived.Test.YtplpfhgdanclhaaPStep
namespace Go.Proofs.Ytplpfhgdanclhaa
open Go.RowKit Go.Maps

/-- One pointer of what lasts is written anew. -/
theorem PR.setLast {w : World} {G S : Nat → Prop} {q : Nat} {D : DS} {vw vm : Value} {st : Bool} {left : Int} {ks : ByteArray} {pl : List (Option Nat)} {pw : List (Nat × Nat)} {gl cl : Nat} (h : PR w G S q D (.slice (some ⟨gl, 0, none⟩) D.lasts.length cl) vw vm st left ks pl pw) (a : Nat) {o : Option Nat} {s : List UInt8} (hs : SecAt w S o s) :
    PR (w.setCell ⟨gl, a, none⟩ (ptr o)) G S q { D with lasts := D.lasts.set a s } (.slice (some ⟨gl, 0, none⟩) D.lasts.length cl) vw vm st left ks (pl.set a o) pw := by
  have hq : q ≠ gl := fun e => row_not h.cells h.lasts (by decide) gl rfl e.symm
  have hst := (h.lasts.stored a (ptr o)).1
  rw [← PS_set] at hst
  have hsec : ∀ b, S b → IsSec w b → b < w.heap.size → (w.setCell ⟨gl, a, none⟩ (ptr o)).heap[b]? = w.heap[b]? := fun b _ hi _ => set_other fun e => row_not_sec h.lasts (by decide) rfl (e ▸ hi)
  refine ⟨h.inG, (set_other hq).trans h.cells, h.fz, ?_, h.lastsG, row_same h.waits fun b hb => set_other (rows_apart h.waits h.lasts (by decide) hb rfl), h.waitsG, (h.secs.kept (fun _ h => h) hsec).set a (hs.kept (fun _ h => h) hsec), h.wts.kept (fun _ h => h) hsec⟩
  exact own_eq hst (by simp) rfl (Nat.le_refl _)

/-- What waits is forgotten. -/
theorem PR.settled {w w' : World} {G S : Nat → Prop} {q : Nat} {D : DS} {vl vw vm : Value} {st : Bool} {left : Int} {ks : ByteArray} {pl : List (Option Nat)} {pw : List (Nat × Nat)} (h : PR w G S q D vl vw vm st left ks pl pw) (hoth : ∀ b, b < w.heap.size → b ≠ q → w'.heap[b]? = w.heap[b]?) {D' : DS} {vm' : Value} {st' : Bool} {left' : Int} {ks' : ByteArray}
    (hcell : w'.heap[q]? = some (.cells #[vl, .slice none 0 0, vm', .int .i64 (D'.done : Int), .bool D'.dead, .bool st', .int .i64 left', .string ks'] 90 (0, 0))) (hf : FuseIs D' st' left' ks') (h1 : D'.lasts = D.lasts) (h2 : D'.waits = []) : PR w' G S q D' vl (.slice none 0 0) vm' st' left' ks' pl [] := by
  have hsec : ∀ b, S b → IsSec w b → b < w.heap.size → w'.heap[b]? = w.heap[b]? := fun b _ hi hb => hoth b hb fun e => not_sec h.cells (by decide) (e ▸ hi)
  refine ⟨h.inG, hcell, hf, by rw [h1]; exact row_same h.lasts fun b hb => hoth b (h.lasts.lt b hb).2 (row_not h.cells h.lasts (by decide) b hb), h.lastsG, by rw [h2]; exact World.ownsRow_nil _ _ _ _, (fun b hb => by cases hb), by rw [h1]; exact h.secs.kept (fun _ h => h) hsec, by rw [h2]; exact Wts.nil _ _⟩
theorem PR.mono {w : World} {G G' S S' : Nat → Prop} {q : Nat} {D : DS} {vl vw vm : Value} {st : Bool} {left : Int} {ks : ByteArray} {pl : List (Option Nat)} {pw : List (Nat × Nat)} (h : PR w G S q D vl vw vm st left ks pl pw) (hG : ∀ b, G b → G' b) (hS : ∀ b, S b → S' b) : PR w G' S' q D vl vw vm st left ks pl pw := h.kept hG hS (fun _ _ _ => rfl) (fun _ _ _ _ => rfl)
/-- the head block may be turned -/
theorem PR.headMut {w : World} {G S : Nat → Prop} {q : Nat} {D : DS} {vl vw vm : Value} {st : Bool} {left : Int} {ks : ByteArray} {pl : List (Option Nat)} {pw : List (Nat × Nat)} (h : PR w G S q D vl vw vm st left ks pl pw) : Mut G w q := ⟨h.inG, not_sec h.cells (by decide)⟩

set_option maxHeartbeats 2000000 in
theorem p_settle (G S : Nat → Prop) (q : Nat) (D : DS) (vl vw vm : Value) (st : Bool) (left : Int) (ks : ByteArray) (pl : List (Option Nat)) (pw : List (Nat × Nat)) (w : World) (h : PR w G S q D vl vw vm st left ks pl pw)
    (hin : ∀ x ∈ D.waits, x.1 < D.lasts.length) (hlen : D.waits.length ≤ 1000000) (hll : D.lasts.length ≤ 1000000) :
    Calls Try.prog 58 #[.pointer (some ⟨q, 0, none⟩)] w fun e w' => e = .returned (.tuple #[]) ∧ Kept w w' (Mut G w) ∧ PD w' (More G w w') S q D.flushed := by
  have hq := h.inG
  have hqs := h.lt
  have hc := (row7 h.cells).1
  have c1 : w.cell? ⟨q, 1, none⟩ = some vw := hc 1
  obtain ⟨_, _, hvw, -⟩ := RowAt.of_own h.waits
  have hvw' : ∃ Aw cw, vw = .slice Aw D.waits.length cw := ⟨_, _, hvw⟩
  clear hvw
  obtain ⟨Aw, cw, rfl⟩ := hvw'
  have H := Lib.hid h
  clear h hc
  go_enter Try.func58, Try.ntmps58
  go_wp2_with fail
  go_loopw [3, 9] (fun _ i wr => ∃ (j : Nat) (pl' : List (Option Nat)), i = .int .i64 j ∧ j ≤ D.waits.length ∧ Hid (PR wr G S q { D with lasts := setAll D.lasts (D.waits.take j) } vl (.slice Aw D.waits.length cw) vm st left ks pl' pw) ∧ Kept w wr (Mut G w)) (fun _ i _ => D.waits.length - (intOf i).toNat)
  case atStart => exact ⟨0, pl, rfl, by omega, H, Kept.refl _ _⟩
  case round =>
    obtain ⟨j, pl', rfl, hj1, hx, hkept⟩ := hrel
    have hcr := (row7 hx.out.cells).1
    have c0 : wr.cell? ⟨q, 0, none⟩ = some vl := hcr 0
    have hqr : wr.heap[q]? = _ := hx.out.cells
    have hqrs := hx.out.lt
    have hsz := hkept.size
    by_cases hin1 : j < D.waits.length
    · have i1 : (j : Int) < (D.waits.length : Int) := by omega
      have i0 : (0 : Int) ≤ (j : Int) := by omega
      have hpwl := H.out.wts.1
      have hxj : D.waits[j]? = some D.waits[j] := List.getElem?_eq_getElem hin1
      have hyj : pw[j]? = some (pw[j]'(by omega)) := List.getElem?_eq_getElem (by omega)
      have hsn := take_snoc hxj
      have hwhole := hin _ (List.getElem_mem hin1)
      obtain ⟨⟨a, sx⟩, hxx⟩ : ∃ x, x = D.waits[j] := ⟨_, rfl⟩
      obtain ⟨⟨a', gs⟩, hyy⟩ : ∃ y, y = pw[j]'(by omega) := ⟨_, rfl⟩
      rw [← hxx] at hxj hsn hwhole
      rw [← hyy] at hyj
      clear hxx hyy
      obtain ⟨haa, hsec⟩ := hx.out.wts.2 j _ _ hyj hxj
      have haa' : a' = a := haa
      subst haa'
      have hnew : setAll D.lasts (D.waits.take (j + 1)) = (setAll D.lasts (D.waits.take j)).set a' sx := by rw [hsn, setAll_snoc]
      have hL : (setAll D.lasts (D.waits.take j)).length = D.lasts.length := setAll_length _ _
      obtain ⟨L, hLL⟩ : ∃ L, L = setAll D.lasts (D.waits.take j) := ⟨_, rfl⟩
      rw [← hLL] at hL hnew hx
      have ha : a' < D.lasts.length := hwhole
      have hlr : wr.ownsRow 0 95 1 vl L.length (PS pl') := hx.out.lasts
      obtain ⟨gl, cl, hvl, -, hgl⟩ := hlr.form (by omega)
      have hwr : wr.ownsRow 0 105 2 (.slice Aw D.waits.length cw) D.waits.length (PW pw) := hx.out.waits
      obtain ⟨gw, cw', hvw, -, hgw⟩ := hwr.form (by omega)
      injection hvw with e1 _ e2
      subst e1
      subst e2
      rw [hL] at hvl
      subst hvl
      obtain ⟨w1, w2⟩ := PW_get hyj
      have k1 : wr.cell? ⟨gw, j * 2, none⟩ = some (.int .i64 (a' : Int)) := (hwr.cellAt (j * 2) (by omega)).trans w1
      have k2 : wr.cell? ⟨gw, j * 2 + 1, none⟩ = some (.pointer (some ⟨gs, 0, none⟩)) := (hwr.cellAt (j * 2 + 1) (by omega)).trans w2
      have hb1 := Below.alloc (Below.refl wr.heap.size wr) (Nat.le_refl _) (.cells #[.int .i64 (a' : Int), .pointer (some ⟨gs, 0, none⟩)] 105)
      have hnewb := heap_alloc_new wr (.cells #[.int .i64 (a' : Int), .pointer (some ⟨gs, 0, none⟩)] 105)
      go_upto_region 3 with fail
      obtain ⟨g3, hg3⟩ : ∃ g3, g3 = wr.heap.size := ⟨_, rfl⟩
      rw [← hg3] at hnewb ⊢
      obtain ⟨wa, hwa⟩ : ∃ wa, wa = wr.alloc (.cells #[.int .i64 (a' : Int), .pointer (some ⟨gs, 0, none⟩)] 105) := ⟨_, rfl⟩
      rw [← hwa] at hb1 hnewb ⊢
      clear hwa hg3
      have hxa : PR wa G S q { D with lasts := L } (.slice (some ⟨gl, 0, none⟩) D.lasts.length cl) (.slice (some ⟨gw, 0, none⟩) D.waits.length cw) vm st left ks pl' pw := hx.out.kept (fun _ h => h) (fun _ h => h) (fun b hb _ => hb1.block b hb) (fun b _ _ hb => hb1.block b hb)
      have hsa : SecAt wa S (some gs) sx := hsec.kept (fun _ h => h) (fun b _ _ hb => hb1.block b hb)
      have hka : Kept w wa (Mut G w) := hkept.trans (Kept.ofBelow (F := fun _ => False) hb1) (fun _ h => h.elim)
      have d0 : wa.cell? ⟨q, 0, none⟩ = some (.slice (some ⟨gl, 0, none⟩) D.lasts.length cl) := (row7 hxa.cells).1 0
      have d1 : wa.cell? ⟨g3, 0, none⟩ = some (.int .i64 (a' : Int)) := (row7 hnewb).1 0
      have d2 : wa.cell? ⟨g3, 1, none⟩ = some (.pointer (some ⟨gs, 0, none⟩)) := (row7 hnewb).1 1
      have hla : wa.ownsRow 0 95 1 (.slice (some ⟨gl, 0, none⟩) D.lasts.length cl) D.lasts.length (PS pl') := own_eq hxa.lasts hL rfl (Nat.le_refl _)
      obtain ⟨u, hu⟩ : ∃ u, wa.cell? ⟨gl, a', none⟩ = some u := by
        rw [hla.cellAt a' (by omega)]
        have := hla.1
        exact ⟨_, List.getElem?_eq_getElem (by omega)⟩
      have z3 : wa.frozen? ⟨gl, a', none⟩ = false := hla.frozenAt a'
      have a0 : (0 : Int) ≤ (a' : Int) := by omega
      have a1 : (a' : Int) < (D.lasts.length : Int) := by omega
      have hset : PR (wa.setCell ⟨gl, a', none⟩ (.pointer (some ⟨gs, 0, none⟩))) G S q { D with lasts := L.set a' sx } (.slice (some ⟨gl, 0, none⟩) D.lasts.length cl) (.slice (some ⟨gw, 0, none⟩) D.waits.length cw) vm st left ks (pl'.set a' (some gs)) pw := by
        have h0 : PR wa G S q { D with lasts := L } (.slice (some ⟨gl, 0, none⟩) ({ D with lasts := L } : DS).lasts.length cl) (.slice (some ⟨gw, 0, none⟩) D.waits.length cw) vm st left ks pl' pw := by
          rw [show ({ D with lasts := L } : DS).lasts.length = D.lasts.length from hL]
          exact hxa
        have h1 := PR.setLast h0 a' hsa
        rw [show ({ D with lasts := L } : DS).lasts.length = D.lasts.length from hL] at h1
        exact h1
      have hG : Mut G w gl ∨ w.heap.size ≤ gl := by
        by_cases hs : gl < w.heap.size
        · exact .inl ⟨hx.out.lastsG gl rfl, fun hi => row_not_sec hla (by decide) rfl ((hka.sec hi))⟩
        · exact .inr (by omega)
      have hkp2 := hka.trans (Kept.setCell wa ⟨gl, a', none⟩ (.pointer (some ⟨gs, 0, none⟩)) (fun b => b = gl) rfl) (fun b h => by subst h; exact hG)
      rw [← hnew] at hset
      have HSET := Lib.hid hset
      have HKP2 := Lib.hid hkp2
      clear hset hsn hnew hLL hlr hwr w1 w2 hx hkept hwhole hxa hsa hka hla hkp2 hG hb1 hnewb hsec hqr hcr hyj hxj
      go_region
      all_goals go_wp2_with fail
      all_goals exact ⟨⟨j + 1, _, by go_num, hin1, HSET.out.kept (fun _ h => h) (fun _ h => h) (fun _ _ _ => rfl) (fun _ _ _ _ => rfl), HKP2.out.trans (Kept.drew _ (fun _ => False)) (fun _ h => h.elim)⟩, by simp [intOf]; omega⟩
    · have i1 : ¬ (j : Int) < (D.waits.length : Int) := by omega
      rw [List.take_of_length_le (by omega)] at hx
      have hb1 := Below.alloc (Below.refl wr.heap.size wr) (Nat.le_refl _) (.map #[] 0)
      have hM := MapAt.made wr
      have hmm := run_makeMap (P := Try.prog) 85 wr
      obtain ⟨m, hm⟩ : ∃ m, m = wr.heap.size := ⟨_, rfl⟩
      obtain ⟨wm, hwm⟩ : ∃ wm, wm = wr.alloc (.map #[] 0) := ⟨_, rfl⟩
      rw [← hwm, ← hm] at hmm hM
      rw [← hwm] at hb1
      have hcm := (hb1.block q hqrs).trans hqr
      have hms : m < wm.heap.size := hM.lt
      have d1 : wm.cell? ⟨q, 1, none⟩ = some (.slice Aw D.waits.length cw) := (row7 hcm).1 1
      have d2 : wm.cell? ⟨q, 2, none⟩ = some vm := (row7 hcm).1 2
      have z1 : wm.frozen? ⟨q, 1, none⟩ = false := (row7 hcm).2 1
      have z2 : wm.frozen? ⟨q, 2, none⟩ = false := (row7 hcm).2 2
      have hcf := Joins.block_setCell (i := 2) (Joins.block_setCell (i := 1) hcm (.slice none 0 0)) (.map (some m))
      have hoth : ∀ b, b ≠ q → ((wm.setCell ⟨q, 1, none⟩ (.slice none 0 0)).setCell ⟨q, 2, none⟩ (.map (some m))).heap[b]? = wm.heap[b]? := fun b hb => (set_other hb).trans (set_other hb)
      have hfz : FuseIs D.flushed st left ks := H.out.fz
      have hqm : m ≠ q := by omega
      have hzz : ((wm.setCell ⟨q, 1, none⟩ (.slice none 0 0)).setCell ⟨q, 2, none⟩ (.map (some m))).heap.size = wm.heap.size := by simp
      have hfin : PR ((wm.setCell ⟨q, 1, none⟩ (.slice none 0 0)).setCell ⟨q, 2, none⟩ (.map (some m))) G S q D.flushed vl (.slice none 0 0) (.map (some m)) st left ks pl' [] :=
        hx.out.settled (fun b hb hbq => (hoth b hbq).trans (hb1.block b hb)) (by rw [hcf]; unfold DS.flushed; simp) hfz rfl rfl
      have hMf : MapAt ((wm.setCell ⟨q, 1, none⟩ (.slice none 0 0)).setCell ⟨q, 2, none⟩ (.map (some m))) m 0 [] := hM.same (hoth m hqm)
      have hkf : Kept w ((wm.setCell ⟨q, 1, none⟩ (.slice none 0 0)).setCell ⟨q, 2, none⟩ (.map (some m))) (Mut G w) :=
        ((hkept.trans (Kept.ofBelow (F := fun _ => False) hb1) (fun _ h => h.elim)).trans (Kept.setCell wm ⟨q, 1, none⟩ _ (Mut G w) H.out.headMut) (fun _ h => .inl h)).trans (Kept.setCell _ ⟨q, 2, none⟩ _ (Mut G w) H.out.headMut) (fun _ h => .inl h)
      have HFIN := Lib.hid hfin
      have HMF := Lib.hid hMf
      have HKF := Lib.hid hkf
      have HM := Lib.hid hm
      have HZZ := Lib.hid hzz
      have HB1 := Lib.hid hb1.size
      clear hfin hMf hkf hm hwm hzz hb1 hM hcm hcf hoth hfz hqr hcr hx hkept hin hqm
      go_wp2_with fail
      go_end0
      have hzz := HZZ.out
      have hb1 := HB1.out
      have hm := HM.out
      exact ⟨rfl, HKF.out, vl, .slice none 0 0, m, st, left, ks, pl', [], HFIN.out.mono More.here (fun _ h => h), .inr ⟨by omega, by rw [hzz]; omega⟩, HMF.out⟩
end Go.Proofs.Ytplpfhgdanclhaa
