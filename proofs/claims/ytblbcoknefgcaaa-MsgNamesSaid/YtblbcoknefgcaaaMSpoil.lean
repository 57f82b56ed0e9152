/-
  A message's lists are written over. No statement is proved here. No condition.
-/
import Derived.Test.YtblbcoknefgcaaaMTwinM
namespace Go.Proofs.Ytblbcoknefgcaaa
open Go.RowKit

/-- a row of one's own, of any content -/
def OwnX (w : World) (B : Nat) (T : TypeId) (s : Nat) (v : Value) (n : Nat) : Prop := ∃ xs, w.ownsRow B T s v n xs
theorem Rec.Own.x {α : Type} {R : Rec α} {w : World} {B : Nat} {T : TypeId} {v : Value} {l : List α} (h : R.Own w B T v l) : OwnX w B T R.size v l.length := ⟨_, h⟩
/-- a cell is written, wherever -/
theorem OwnX.touch {w : World} {B : Nat} {T : TypeId} {s : Nat} {v : Value} {n : Nat} (h : OwnX w B T s v n) (g k : Nat) (u : Value) : OwnX (w.setCell ⟨g, k, none⟩ u) B T s v n := by
  obtain ⟨xs, h1, h2⟩ := h
  rcases h2 with ⟨hv, hn⟩ | ⟨g', cap, cur, hv, hb, hg, hnc, hcm, hcs, htk⟩
  · exact ⟨xs, h1, .inl ⟨hv, hn⟩⟩
  · by_cases hgg : g' = g
    · subst hgg
      refine ⟨((cur.setIfInBounds k u).toList.take (n * s)), ?_, .inr ⟨g', cap, _, hv, hb, Joins.block_setCell hg _, hnc, hcm, by simpa using hcs, rfl⟩⟩
      have hl : cur.toList.length = cap * s := by simpa using hcs
      have hm := Nat.mul_le_mul_right s hnc
      rw [List.length_take, Array.length_toList, Array.size_setIfInBounds]
      omega
    · exact ⟨xs, h1, .inr ⟨g', cap, cur, hv, hb, (Below.heap_setCell w ⟨g, k, none⟩ u g' hgg).trans hg, hnc, hcm, hcs, htk⟩⟩
/-- a record's cells -/
theorem OwnX.cells {w : World} {B : Nat} {T : TypeId} {s : Nat} {v : Value} {n i : Nat} (h : OwnX w B T s v n) (hi : i < n) : ∃ g c cur, v = .slice (some ⟨g, 0, none⟩) n c ∧ B ≤ g ∧ w.heap[g]? = some (.cells cur T (0, 0)) ∧ (∀ j, j < s → ∃ t, w.cell? ⟨g, i * s + j, none⟩ = some t) ∧ (∀ q, w.frozen? ⟨g, q, none⟩ = false) := by
  obtain ⟨xs, h1, h2⟩ := h
  rcases h2 with ⟨hv, hn⟩ | ⟨g, cap, cur, hv, hb, hg, hnc, hcm, hcs, htk⟩
  · omega
  · refine ⟨g, cap, cur, hv, hb, hg, fun j hj => ?_, (blk_cells hg).2⟩
    have hm := Nat.mul_le_mul_right s (show i + 1 ≤ cap by omega)
    rw [Nat.succ_mul] at hm
    exact ⟨_, ((blk_cells hg).1 (i * s + j)).trans (Array.getElem?_eq_getElem (by omega))⟩
structure SpO (w : World) (B : Nat) (rs : List RE) (vE vL vP vX : Value) (nL nP nX : Nat) : Prop where
  e : entR.Own w B 79 vE rs
  ls : ∀ (i : Nat) (r : RE), rs[i]? = some r → OwnX w B 3 1 r.lv r.ln
  l : OwnX w B 3 1 vL nL
  p : OwnX w B 67 2 vP nP
  x : OwnX w B 88 5 vX nX
  lb : ∀ (i : Nat) (r : RE), rs[i]? = some r → r.ln ≤ 17592186044416
theorem SpO.other {w : World} {B : Nat} {rs : List RE} {vE vL vP vX : Value} {nL nP nX : Nat} (h : SpO w B rs vE vL vP vX nL nP nX) {g : Nat} {cur : Array Value} {T : TypeId} (hg : w.heap[g]? = some (.cells cur T (0, 0))) (hT : T ≠ 79) (k : Nat) (u : Value) : SpO (w.setCell ⟨g, k, none⟩ u) B rs vE vL vP vX nL nP nX :=
  ⟨row_same h.e fun b hb => Below.heap_setCell w ⟨g, k, none⟩ u b fun e => by
    have e : b = g := e
    subst e
    obtain ⟨c2, h2⟩ := row_type h.e hb
    exact apart_T hg h2 hT rfl, fun i r hr => (h.ls i r hr).touch g k u, h.l.touch g k u, h.p.touch g k u, h.x.touch g k u, h.lb⟩
theorem SpO.data {w : World} {B : Nat} {rs : List RE} {vE vL vP vX : Value} {nL nP nX : Nat} (h : SpO w B rs vE vL vP vX nL nP nX) {i : Nat} {r : RE} (hr : rs[i]? = some r) (d : ByteArray) :
    ∃ g c, vE = .slice (some ⟨g, 0, none⟩) rs.length c ∧ B ≤ g ∧ (∃ cur, w.heap[g]? = some (.cells cur 79 (0, 0))) ∧ w.cell? ⟨g, i * 4 + 2, none⟩ = some (.string r.data) ∧ w.cell? ⟨g, i * 4 + 3, none⟩ = some (.slice r.la r.ln r.lc) ∧ (∀ q, w.frozen? ⟨g, q, none⟩ = false) ∧ SpO (w.setCell ⟨g, i * 4 + 2, none⟩ (.string d)) B (rs.set i { r with data := d }) vE vL vP vX nL nP nX := by
  obtain ⟨g, c, hv, hB, hg, hc, hf, hn⟩ := rec_poke (y := { r with data := d }) (j := 2) (u := .string d) h.e hr rfl (by decide)
  have h4 : entR.size = 4 := rfl
  rw [h4] at hc hn
  refine ⟨g, c, hv, hB, row_type h.e (by rw [hv]; rfl), hc 2 _ rfl, hc 3 _ rfl, hf, hn, fun j r' hr' => ?_, h.l.touch _ _ _, h.p.touch _ _ _, h.x.touch _ _ _, fun j r' hr' => ?_⟩
  rotate_left
  · by_cases hji : j = i
    · subst hji
      have hil := (List.getElem?_eq_some_iff.1 hr).1
      rw [List.getElem?_set_self hil] at hr'
      have hr' := Option.some.inj hr'
      rw [← hr']
      exact h.lb j r hr
    · rw [List.getElem?_set_ne (Ne.symm hji)] at hr'
      exact h.lb j r' hr'
  by_cases hji : j = i
  · subst hji
    have hil := (List.getElem?_eq_some_iff.1 hr).1
    rw [List.getElem?_set_self hil] at hr'
    have hr' := Option.some.inj hr'
    rw [← hr']
    exact (h.ls j r hr).touch _ _ _
  · rw [List.getElem?_set_ne (Ne.symm hji)] at hr'
    exact (h.ls j r' hr').touch _ _ _
theorem MsgO.sp {w : World} {B : Nat} {m : MG} {vE vL vP vX : Value} (h : MsgO w B m vE vL vP vX) (hn : MsgS m) : ∃ rs, rs.length = m.entries.length ∧ SpO w B rs vE vL vP vX m.list.length m.pairs.length m.lasts.length := by
  obtain ⟨rs, he⟩ := h.e
  refine ⟨rs, he.len, he.row, fun i r hr => ?_, h.l.x, h.p.x, h.x.x, fun i r hr => ?_⟩
  rotate_left
  · obtain ⟨e, hee⟩ : ∃ e, m.entries[i]? = some e := ⟨_, List.getElem?_eq_getElem (by rw [← he.len]; exact (List.getElem?_eq_some_iff.1 hr).1)⟩
    rw [(he.ent i r e hr hee).1.ln]
    exact hn.es e (List.mem_of_getElem? hee)
  have hil := (List.getElem?_eq_some_iff.1 hr).1
  obtain ⟨e, hee⟩ : ∃ e, m.entries[i]? = some e := ⟨_, List.getElem?_eq_getElem (by rw [← he.len]; exact hil)⟩
  obtain ⟨h1, h2⟩ := he.ent i r e hr hee
  rw [h1.ln]
  exact h2.x
theorem SpO.below {w w' : World} {B : Nat} {rs : List RE} {vE vL vP vX : Value} {nL nP nX : Nat} (h : SpO w B rs vE vL vP vX nL nP nX) (hb : Below w.heap.size w w') : SpO w' B rs vE vL vP vX nL nP nX := by
  have ox : ∀ {T s v n}, OwnX w B T s v n → OwnX w' B T s v n := fun ⟨xs, hx⟩ => ⟨xs, row_same hx fun b hb' => hb.block b (hx.lt b hb').2⟩
  exact ⟨h.e.below hb, fun i r hr => ox (h.ls i r hr), ox h.l, ox h.p, ox h.x, h.lb⟩
set_option maxHeartbeats 40000000 in
set_option maxRecDepth 1000000 in
theorem spoil_any (a : MG) (vE vL vP vX : Value) (B : Nat) (w : World) (h : MsgO w B a vE vL vP vX) (hB : B ≤ w.heap.size) (hn : MsgS a) :
    Calls Try.prog 21 #[.agg (a.cells vE vL vP vX)] w fun e w' => e = .returned (.tuple #[]) ∧ Below B w w' := by
  obtain ⟨rs0, hrl0, hS⟩ := h.sp hn
  obtain ⟨AE, cE, rfl⟩ := hS.e.slice
  obtain ⟨AL, cL, rfl⟩ := h.l.slice
  obtain ⟨AP, cP, rfl⟩ := h.p.slice
  obtain ⟨AX, cX, rfl⟩ := h.x.slice
  obtain ⟨nE, hnE⟩ : ∃ nE, nE = rs0.length := ⟨_, rfl⟩
  obtain ⟨nL, hnL⟩ : ∃ nL, nL = a.list.length := ⟨_, rfl⟩
  obtain ⟨nP, hnP⟩ : ∃ nP, nP = a.pairs.length := ⟨_, rfl⟩
  obtain ⟨nX, hnX⟩ : ∃ nX, nX = a.lasts.length := ⟨_, rfl⟩
  have hbE : nE ≤ 2513169434916 := by rw [hnE, hrl0]; exact hn.e
  have hbL : nL ≤ 17592186044416 := by rw [hnL]; exact hn.l
  have hbP : nP ≤ 4398046511104 := by rw [hnP]; exact hn.p
  have hbX : nX ≤ 3518437208883 := by rw [hnX]; exact hn.x
  rw [← hnE, ← hnL, ← hnP, ← hnX]
  rw [← hnE, ← hnL, ← hnP, ← hnX] at hS
  obtain ⟨ca, hca⟩ : ∃ ca, ca = a.cells (.slice AE nE cE) (.slice AL nL cL) (.slice AP nP cP) (.slice AX nX cX) := ⟨_, rfl⟩
  rw [← hca]
  obtain ⟨w1, hw1⟩ : ∃ w1, w1 = w.alloc (.cells ca 38) := ⟨_, rfl⟩
  have hb1 : Below w.heap.size w w1 := by rw [hw1]; exact (Below.refl _ _).alloc (Nat.le_refl _) _
  have hx1 : w1.heap[w.heap.size]? = some (.cells ca 38 (0, 0)) := by rw [hw1]; exact heap_alloc_new w _
  obtain ⟨p, hp⟩ : ∃ p, p = w.heap.size := ⟨_, rfl⟩
  rw [← hp] at hx1
  rw [hca] at hx1
  have HS : Hid (∃ rs : List RE, rs.length = nE ∧ SpO w1 B rs (.slice AE nE cE) (.slice AL nL cL) (.slice AP nP cP) (.slice AX nX cX) nL nP nX ∧ w1.heap[p]? = some (.cells (a.cells (.slice AE nE cE) (.slice AL nL cL) (.slice AP nP cP) (.slice AX nX cX)) 38 (0, 0)) ∧ Below B w w1) := Lib.hid ⟨rs0, hnE.symm, hS.below hb1, hx1, Joins.below_le hb1 hB⟩
  have HW1 := Lib.hid hw1
  have HP := Lib.hid hp
  clear h hS hw1 hb1 hx1 hp hrl0 hnE hnL hnP hnX hca hn hB
  go_enter Try.func21, Try.ntmps21
  go_upto_region 1 with fail
  rw [← HW1.out, ← HP.out]
  clear HW1 HP
  go_wp2_with fail
  go_loopw [2, 3] (fun s2 _ wr => ∃ i : Nat, s2 = .int .i64 (i : Int) ∧ i ≤ nE ∧ Hid (∃ rs : List RE, rs.length = nE ∧ SpO wr B rs (.slice AE nE cE) (.slice AL nL cL) (.slice AP nP cP) (.slice AX nX cX) nL nP nX ∧ wr.heap[p]? = some (.cells (a.cells (.slice AE nE cE) (.slice AL nL cL) (.slice AP nP cP) (.slice AX nX cX)) 38 (0, 0)) ∧ Below B w wr)) (fun s2 _ _ => nE - (intOf s2).toNat)
  case atStart => exact ⟨0, rfl, Nat.zero_le _, HS⟩
  case round =>
    clear HS
    obtain ⟨i, rfl, hi, hR⟩ := hrel
    obtain ⟨wz, hwz⟩ : ∃ wz : World, wz = wr := ⟨_, rfl⟩
    subst hwz
    obtain ⟨rs, hrl, hS, hpz, hBz⟩ := hR.out
    have p22 : wz.cell? ⟨p, 22, none⟩ = some (.slice AE nE cE) := ((blk_cells hpz).1 22).trans (mc_22 _ _ _ _ _)
    by_cases hil : i < nE
    · have a1 : (i : Int) < (nE : Int) := by omega
      have a0 : (0 : Int) ≤ (i : Int) := by omega
      obtain ⟨r, hr⟩ : ∃ r, rs[i]? = some r := ⟨_, List.getElem?_eq_getElem (by omega)⟩
      obtain ⟨g, cx, hv, hBg, -, -, -, -, -⟩ := hS.data hr ⟨#[63]⟩
      injection hv with v1 v2 v3
      subst v1 v3
      clear v2
      have hln := hS.lb i r hr
      have HRR := Lib.hid (And.intro hr hrl)
      have HS2 : Hid (SpO wz B rs (.slice (some ⟨g, 0, none⟩) nE cE) (.slice AL nL cL) (.slice AP nP cP) (.slice AX nX cX) nL nP nX ∧ wz.heap[p]? = some (.cells (a.cells (.slice (some ⟨g, 0, none⟩) nE cE) (.slice AL nL cL) (.slice AP nP cP) (.slice AX nX cX)) 38 (0, 0)) ∧ Below B w wz) := Lib.hid ⟨hS, hpz, hBz⟩
      clear hR hS hpz hBz hr hrl
      go_wp2_with fail
      clear p22
      go_loopw [3] (fun s3 wr => ∃ k : Nat, s3 = .int .i64 (k : Int) ∧ k ≤ r.ln ∧ Hid (SpO wr B rs (.slice (some ⟨g, 0, none⟩) nE cE) (.slice AL nL cL) (.slice AP nP cP) (.slice AX nX cX) nL nP nX ∧ wr.heap[p]? = some (.cells (a.cells (.slice (some ⟨g, 0, none⟩) nE cE) (.slice AL nL cL) (.slice AP nP cP) (.slice AX nX cX)) 38 (0, 0)) ∧ Below B w wr)) (fun s3 _ => r.ln - (intOf s3).toNat)
      case atStart => exact ⟨0, rfl, Nat.zero_le _, HS2⟩
      case round =>
        clear HS2
        obtain ⟨k, rfl, hk, hR2⟩ := hrel
        obtain ⟨wy, hwy⟩ : ∃ wy : World, wy = wr := ⟨_, rfl⟩
        subst hwy
        obtain ⟨hS, hpz, hBz⟩ := hR2.out
        have p22 : wy.cell? ⟨p, 22, none⟩ = some (.slice (some ⟨g, 0, none⟩) nE cE) := ((blk_cells hpz).1 22).trans (mc_22 _ _ _ _ _)
        obtain ⟨g', cx', hv', hBg', ⟨cur, hcur⟩, z2, z3, hf, hD⟩ := hS.data HRR.out.1 ⟨#[63]⟩
        have hgg : g = g' := by
          injection hv' with e1
          injection e1 with e1
          injection e1 with e1
        subst hgg
        by_cases hkl : k < r.ln
        · have b1 : (k : Int) < (r.ln : Int) := by omega
          have b0 : (0 : Int) ≤ (k : Int) := by omega
          obtain ⟨gl, cl, cur2, hv2, hBl, hgl, hcell, hfz⟩ := (hS.ls i r HRR.out.1).cells hkl
          have hv3 : Value.slice r.la r.ln r.lc = .slice (some ⟨gl, 0, none⟩) r.ln cl := hv2
          rw [hv3] at z3
          obtain ⟨u, z0⟩ := hcell 0 (by decide)
          have f0 := hfz (k * 1 + 0)
          have hpg : p ≠ gl := apart_T hpz hgl (by decide)
          have HF : Hid (SpO (wy.setCell ⟨gl, k * 1 + 0, none⟩ (.int .i64 (-9))) B rs (.slice (some ⟨g, 0, none⟩) nE cE) (.slice AL nL cL) (.slice AP nP cP) (.slice AX nX cX) nL nP nX ∧ (wy.setCell ⟨gl, k * 1 + 0, none⟩ (.int .i64 (-9))).heap[p]? = some (.cells (a.cells (.slice (some ⟨g, 0, none⟩) nE cE) (.slice AL nL cL) (.slice AP nP cP) (.slice AX nX cX)) 38 (0, 0)) ∧ Below B w (wy.setCell ⟨gl, k * 1 + 0, none⟩ (.int .i64 (-9)))) := Lib.hid ⟨hS.other hgl (by decide) _ _, (Below.heap_setCell wy ⟨gl, k * 1 + 0, none⟩ _ p hpg).trans hpz, hBz.setCell (p := ⟨gl, k * 1 + 0, none⟩) hBl _⟩
          clear hR2 hS hpz hBz hgl hcell hfz hpg hv2 hv3 hv' hcur hf hD z2
          simp only [Nat.mul_one, Nat.add_zero] at z0 f0 HF
          go_wp2_with fail
          exact ⟨⟨k + 1, by go_num, hkl, HF⟩, by simp [intOf]; omega⟩
        · have b1 : ¬ (k : Int) < (r.ln : Int) := by omega
          have f0 := hf (i * 4 + 2)
          have hpg : p ≠ g := apart_T hpz hcur (by decide)
          have HF : Hid (∃ rs : List RE, rs.length = nE ∧ SpO (wy.setCell ⟨g, i * 4 + 2, none⟩ (.string ⟨#[63]⟩)) B rs (.slice (some ⟨g, 0, none⟩) nE cE) (.slice AL nL cL) (.slice AP nP cP) (.slice AX nX cX) nL nP nX ∧ (wy.setCell ⟨g, i * 4 + 2, none⟩ (.string ⟨#[63]⟩)).heap[p]? = some (.cells (a.cells (.slice (some ⟨g, 0, none⟩) nE cE) (.slice AL nL cL) (.slice AP nP cP) (.slice AX nX cX)) 38 (0, 0)) ∧ Below B w (wy.setCell ⟨g, i * 4 + 2, none⟩ (.string ⟨#[63]⟩))) := Lib.hid ⟨_, by simpa using HRR.out.2, hD, (Below.heap_setCell wy ⟨g, i * 4 + 2, none⟩ _ p hpg).trans hpz, hBz.setCell (p := ⟨g, i * 4 + 2, none⟩) hBg _⟩
          clear hR2 hS hpz hBz hpg hv' hcur hf hD
          go_wp2_with fail
          exact ⟨⟨i + 1, by go_num, hil, HF⟩, by simp [intOf]; omega⟩
    · have a1 : ¬ (i : Int) < (nE : Int) := by omega
      have HS : Hid (∃ rs : List RE, rs.length = nE ∧ SpO wz B rs (.slice AE nE cE) (.slice AL nL cL) (.slice AP nP cP) (.slice AX nX cX) nL nP nX ∧ wz.heap[p]? = some (.cells (a.cells (.slice AE nE cE) (.slice AL nL cL) (.slice AP nP cP) (.slice AX nX cX)) 38 (0, 0)) ∧ Below B w wz) := Lib.hid ⟨rs, hrl, hS, hpz, hBz⟩
      clear hR hS hpz hBz hrl hil hi
      go_wp2_with fail
      clear p22
      go_loopw [4] (fun s4 wr => ∃ i : Nat, s4 = .int .i64 (i : Int) ∧ i ≤ nL ∧ Hid (∃ rs : List RE, rs.length = nE ∧ SpO wr B rs (.slice AE nE cE) (.slice AL nL cL) (.slice AP nP cP) (.slice AX nX cX) nL nP nX ∧ wr.heap[p]? = some (.cells (a.cells (.slice AE nE cE) (.slice AL nL cL) (.slice AP nP cP) (.slice AX nX cX)) 38 (0, 0)) ∧ Below B w wr)) (fun s4 _ => nL - (intOf s4).toNat)
      case atStart => exact ⟨0, rfl, Nat.zero_le _, HS⟩
      case round =>
        clear HS
        obtain ⟨i, rfl, hi, hR⟩ := hrel
        obtain ⟨wz, hwz⟩ : ∃ wz : World, wz = wr := ⟨_, rfl⟩
        subst hwz
        obtain ⟨rs, hrl, hS, hpz, hBz⟩ := hR.out
        have p23 : wz.cell? ⟨p, 23, none⟩ = some (.slice AL nL cL) := ((blk_cells hpz).1 23).trans (mc_23 _ _ _ _ _)
        by_cases hil : i < nL
        · have a1 : (i : Int) < (nL : Int) := by omega
          have a0 : (0 : Int) ≤ (i : Int) := by omega
          obtain ⟨g, cx, cur, hv, hBg, hg, hcell, hfz⟩ := hS.l.cells hil
          injection hv with v1 v2 v3
          subst v1 v3
          clear v2
          obtain ⟨u, z0⟩ := hcell 0 (by decide)
          have f0 := hfz (i * 1 + 0)
          have hpg : p ≠ g := apart_T hpz hg (by decide)
          have HF : Hid (∃ rs : List RE, rs.length = nE ∧ SpO (wz.setCell ⟨g, i * 1 + 0, none⟩ (.int .i64 (-9))) B rs (.slice AE nE cE) (.slice (some ⟨g, 0, none⟩) nL cL) (.slice AP nP cP) (.slice AX nX cX) nL nP nX ∧ (wz.setCell ⟨g, i * 1 + 0, none⟩ (.int .i64 (-9))).heap[p]? = some (.cells (a.cells (.slice AE nE cE) (.slice (some ⟨g, 0, none⟩) nL cL) (.slice AP nP cP) (.slice AX nX cX)) 38 (0, 0)) ∧ Below B w (wz.setCell ⟨g, i * 1 + 0, none⟩ (.int .i64 (-9)))) := Lib.hid ⟨rs, hrl, hS.other hg (by decide) _ _, (Below.heap_setCell wz ⟨g, i * 1 + 0, none⟩ _ p hpg).trans hpz, hBz.setCell (p := ⟨g, i * 1 + 0, none⟩) hBg _⟩
          clear hR hS hpz hBz hg hcell hfz hrl hpg
          simp only [Nat.mul_one, Nat.add_zero] at z0 f0 HF
          go_wp2_with fail
          exact ⟨⟨i + 1, by go_num, hil, HF⟩, by simp [intOf]; omega⟩
        · have a1 : ¬ (i : Int) < (nL : Int) := by omega
          have HS : Hid (∃ rs : List RE, rs.length = nE ∧ SpO wz B rs (.slice AE nE cE) (.slice AL nL cL) (.slice AP nP cP) (.slice AX nX cX) nL nP nX ∧ wz.heap[p]? = some (.cells (a.cells (.slice AE nE cE) (.slice AL nL cL) (.slice AP nP cP) (.slice AX nX cX)) 38 (0, 0)) ∧ Below B w wz) := Lib.hid ⟨rs, hrl, hS, hpz, hBz⟩
          clear hR hS hpz hBz hrl hil hi
          go_wp2_with fail
          go_loopw [5] (fun s5 wr => ∃ i : Nat, s5 = .int .i64 (i : Int) ∧ i ≤ nP ∧ Hid (∃ rs : List RE, rs.length = nE ∧ SpO wr B rs (.slice AE nE cE) (.slice AL nL cL) (.slice AP nP cP) (.slice AX nX cX) nL nP nX ∧ wr.heap[p]? = some (.cells (a.cells (.slice AE nE cE) (.slice AL nL cL) (.slice AP nP cP) (.slice AX nX cX)) 38 (0, 0)) ∧ Below B w wr)) (fun s5 _ => nP - (intOf s5).toNat)
          case atStart => exact ⟨0, rfl, Nat.zero_le _, HS⟩
          case round =>
            clear HS
            obtain ⟨i, rfl, hi, hR⟩ := hrel
            obtain ⟨wz, hwz⟩ : ∃ wz : World, wz = wr := ⟨_, rfl⟩
            subst hwz
            obtain ⟨rs, hrl, hS, hpz, hBz⟩ := hR.out
            have p27 : wz.cell? ⟨p, 27, none⟩ = some (.slice AP nP cP) := ((blk_cells hpz).1 27).trans (mc_27 _ _ _ _ _)
            by_cases hil : i < nP
            · have a1 : (i : Int) < (nP : Int) := by omega
              have a0 : (0 : Int) ≤ (i : Int) := by omega
              obtain ⟨g, cx, cur, hv, hBg, hg, hcell, hfz⟩ := hS.p.cells hil
              injection hv with v1 v2 v3
              subst v1 v3
              clear v2
              obtain ⟨u, z0⟩ := hcell 0 (by decide)
              have f0 := hfz (i * 2 + 0)
              have hpg : p ≠ g := apart_T hpz hg (by decide)
              have HF : Hid (∃ rs : List RE, rs.length = nE ∧ SpO (wz.setCell ⟨g, i * 2 + 0, none⟩ (.string ⟨#[63]⟩)) B rs (.slice AE nE cE) (.slice AL nL cL) (.slice (some ⟨g, 0, none⟩) nP cP) (.slice AX nX cX) nL nP nX ∧ (wz.setCell ⟨g, i * 2 + 0, none⟩ (.string ⟨#[63]⟩)).heap[p]? = some (.cells (a.cells (.slice AE nE cE) (.slice AL nL cL) (.slice (some ⟨g, 0, none⟩) nP cP) (.slice AX nX cX)) 38 (0, 0)) ∧ Below B w (wz.setCell ⟨g, i * 2 + 0, none⟩ (.string ⟨#[63]⟩))) := Lib.hid ⟨rs, hrl, hS.other hg (by decide) _ _, (Below.heap_setCell wz ⟨g, i * 2 + 0, none⟩ _ p hpg).trans hpz, hBz.setCell (p := ⟨g, i * 2 + 0, none⟩) hBg _⟩
              clear hR hS hpz hBz hg hcell hfz hrl hpg
              simp only [Nat.add_zero] at z0 f0 HF
              go_wp2_with fail
              exact ⟨⟨i + 1, by go_num, hil, HF⟩, by simp [intOf]; omega⟩
            · have a1 : ¬ (i : Int) < (nP : Int) := by omega
              have HS : Hid (∃ rs : List RE, rs.length = nE ∧ SpO wz B rs (.slice AE nE cE) (.slice AL nL cL) (.slice AP nP cP) (.slice AX nX cX) nL nP nX ∧ wz.heap[p]? = some (.cells (a.cells (.slice AE nE cE) (.slice AL nL cL) (.slice AP nP cP) (.slice AX nX cX)) 38 (0, 0)) ∧ Below B w wz) := Lib.hid ⟨rs, hrl, hS, hpz, hBz⟩
              clear hR hS hpz hBz hrl hil hi
              go_wp2_with fail
              go_loopw [6] (fun s6 wr => ∃ i : Nat, s6 = .int .i64 (i : Int) ∧ i ≤ nX ∧ Hid (∃ rs : List RE, rs.length = nE ∧ SpO wr B rs (.slice AE nE cE) (.slice AL nL cL) (.slice AP nP cP) (.slice AX nX cX) nL nP nX ∧ wr.heap[p]? = some (.cells (a.cells (.slice AE nE cE) (.slice AL nL cL) (.slice AP nP cP) (.slice AX nX cX)) 38 (0, 0)) ∧ Below B w wr)) (fun s6 _ => nX - (intOf s6).toNat)
              case atStart => exact ⟨0, rfl, Nat.zero_le _, HS⟩
              case round =>
                clear HS
                obtain ⟨i, rfl, hi, hR⟩ := hrel
                obtain ⟨wz, hwz⟩ : ∃ wz : World, wz = wr := ⟨_, rfl⟩
                subst hwz
                obtain ⟨rs, hrl, hS, hpz, hBz⟩ := hR.out
                have p28 : wz.cell? ⟨p, 28, none⟩ = some (.slice AX nX cX) := ((blk_cells hpz).1 28).trans (mc_28 _ _ _ _ _)
                by_cases hil : i < nX
                · have a1 : (i : Int) < (nX : Int) := by omega
                  have a0 : (0 : Int) ≤ (i : Int) := by omega
                  obtain ⟨g, cx, cur, hv, hBg, hg, hcell, hfz⟩ := hS.x.cells hil
                  injection hv with v1 v2 v3
                  subst v1 v3
                  clear v2
                  obtain ⟨u, z0⟩ := hcell 1 (by decide)
                  have f0 := hfz (i * 5 + 1)
                  have hpg : p ≠ g := apart_T hpz hg (by decide)
                  have HF : Hid (∃ rs : List RE, rs.length = nE ∧ SpO (wz.setCell ⟨g, i * 5 + 1, none⟩ (.int .i64 (-9))) B rs (.slice AE nE cE) (.slice AL nL cL) (.slice AP nP cP) (.slice (some ⟨g, 0, none⟩) nX cX) nL nP nX ∧ (wz.setCell ⟨g, i * 5 + 1, none⟩ (.int .i64 (-9))).heap[p]? = some (.cells (a.cells (.slice AE nE cE) (.slice AL nL cL) (.slice AP nP cP) (.slice (some ⟨g, 0, none⟩) nX cX)) 38 (0, 0)) ∧ Below B w (wz.setCell ⟨g, i * 5 + 1, none⟩ (.int .i64 (-9)))) := Lib.hid ⟨rs, hrl, hS.other hg (by decide) _ _, (Below.heap_setCell wz ⟨g, i * 5 + 1, none⟩ _ p hpg).trans hpz, hBz.setCell (p := ⟨g, i * 5 + 1, none⟩) hBg _⟩
                  clear hR hS hpz hBz hg hcell hfz hrl hpg
                  skip
                  go_wp2_with fail
                  exact ⟨⟨i + 1, by go_num, hil, HF⟩, by simp [intOf]; omega⟩
                · have a1 : ¬ (i : Int) < (nX : Int) := by omega
                  have HS : Hid (∃ rs : List RE, rs.length = nE ∧ SpO wz B rs (.slice AE nE cE) (.slice AL nL cL) (.slice AP nP cP) (.slice AX nX cX) nL nP nX ∧ wz.heap[p]? = some (.cells (a.cells (.slice AE nE cE) (.slice AL nL cL) (.slice AP nP cP) (.slice AX nX cX)) 38 (0, 0)) ∧ Below B w wz) := Lib.hid ⟨rs, hrl, hS, hpz, hBz⟩
                  clear hR hS hpz hBz hrl hil hi
                  go_wp2_with fail
                  go_end0
                  exact ⟨rfl, HS.out.choose_spec.2.2.2⟩
end Go.Proofs.Ytblbcoknefgcaaa
