/-
  What each statement of messages asks first. No statement is proved here. No condition.
-/
import Derived.Test.YtblbcoknefgcaaaMDec
import Derived.Test.YtblbcoknefgcaaaMBackP
import Derived.Test.YtblbcoknefgcaaaMWrEq
namespace Go.Proofs.Ytblbcoknefgcaaa
open Go.RowKit

theorem own_bytes {w : World} {B n c : Nat} {A : Option Addr} {vs : List Value} (h : w.ownsRow B 5 1 (.slice A n c) n vs) (h0 : 0 < n) : ∃ g, A = some ⟨g, 0, none⟩ ∧ B ≤ g ∧ g < w.heap.size ∧ True := by
  obtain ⟨g, cap, hform, hg1, hg2⟩ := h.form h0
  injection hform with e1 e2 e3
  exact ⟨g, e1, hg1, hg2, trivial⟩
theorem small_of {m : MG} (hf : m.fit) (ht : m.texts) (hl : m.by.length ≤ 8192) : m.small := by
  have hz : m.sz ≤ 8192 := Nat.le_trans (sz_by ht hf) hl
  have hE : szE m.entries ≤ 8192 := by unfold MG.sz at hz; omega
  have hP : szP m.pairs ≤ 8192 := by unfold MG.sz at hz; omega
  have hX : szX m.lasts ≤ 8192 := by unfold MG.sz at hz; omega
  refine ⟨by unfold MG.sz MG.sz0 at hz; omega, by unfold MG.sz MG.sz0 at hz; omega, fun c hc => ?_, fun c hc => ?_, fun c hc => ?_⟩
  · obtain ⟨i, hi⟩ := List.mem_iff_getElem?.1 hc
    have := in_sum (fun e : EN => e.data.size + e.list.length) hi
    unfold szE at hE
    omega
  · obtain ⟨i, hi⟩ := List.mem_iff_getElem?.1 hc
    have := in_sum (fun c : PP => c.key.size + c.val.size) hi
    unfold szP at hP
    omega
  · obtain ⟨i, hi⟩ := List.mem_iff_getElem?.1 hc
    have := in_sum (fun c : PL => c.res.val.size) hi
    unfold szX at hX
    omega
/-- the bytes of a message are read as it -/
theorem dec_yes {m : MG} (hf : m.fit) (hs : m.small) (hk : kindB m.kind = true) (hl : m.by.length ≤ 8192) (v : Value) (w : World) (h : Rd w w.heap.size v m.by) :
    Calls Try.prog 16 #[v] w fun e w' => ∃ vE vL vP vX, e = .returned (.tuple #[.agg (m.cells vE vL vP vX), .int .i64 0]) ∧ MsgO w' w.heap.size m vE vL vP vX ∧ Below w.heap.size w w' := by
  refine (decode_any m.by v w h (by omega)).mono fun e w' hd => ?_
  obtain ⟨n, st, h1, -, h3⟩ := hd.ex hl
  have h4 := msg_back hf hs []
  rw [List.append_nil] at h4
  obtain ⟨rfl, rfl⟩ := msg_same h4 h1
  obtain ⟨vE, vL, vP, vX, h5, h6⟩ := h3 rfl hk
  exact ⟨vE, vL, vP, vX, h5, h6, hd.bel⟩
/-- works' message -/
def wkM : MG := ⟨8, 2, 0, 0, 0, 0, 0, ⟨0, ⟨#[]⟩, ⟨#[]⟩, ⟨#[]⟩, false⟩, 0, ⟨0, false, ⟨#[]⟩⟩, 0, 0, 0, 0, 0, false, [], [], ⟨#[]⟩, 0, false, [⟨⟨#[97]⟩, ⟨#[98]⟩⟩], [], ⟨0, 0, 0, 0⟩⟩
theorem wk_fit : wkM.fit :=
  ⟨⟨by decide, by unfold I64; decide, by unfold PO.ok; decide, by unfold I64; decide, by unfold PR.ok; decide, by unfold I64; decide, by unfold I64; decide, by unfold CM.ok I64; decide⟩, by decide, (fun e h => by cases h), (fun e h => by cases h), (fun e h => by cases h)⟩
theorem wk_by : wkM.by = [8, 4, 0, 0, 0, 0, 0, 0, 0, 0, 0, 0, 0, 0, 0, 0, 0, 0, 0, 0, 0, 0, 0, 0, 0, 0, 0, 1, 1, 97, 1, 98, 0, 0, 0, 0, 0] := by decide +kernel
theorem wk_small : wkM.small := ⟨by decide, by decide, (fun e h => by cases h), (fun c h => by
  have : c = ⟨⟨#[97]⟩, ⟨#[98]⟩⟩ := by simpa [wkM] using h
  subst this
  decide), (fun e h => by cases h)⟩
theorem wk_cells (s : Value) : ((zC.setIfInBounds 0 (.int .u8 8)).setIfInBounds 1 (.int .i64 2)).setIfInBounds 27 s = wkM.cells (.slice none 0 0) (.slice none 0 0) s (.slice none 0 0) := rfl
theorem wk_out : wkM.out = (wkM.by, 0) := out_yes rfl (by rw [wk_by]; decide)
/-- what the last region of works reads -/
def WkS (q p g gp gb cP : Nat) (cx cm : Array Value) (W : World) : Prop :=
  W.heap[q]? = some (.cells cx 38 (0, 0)) ∧ W.heap[p]? = some (.cells cm 38 (0, 0)) ∧ W.cell? ⟨gb, 0, none⟩ = some (.int .u8 8) ∧ W.cell? ⟨gb, 1, none⟩ = some (.int .u8 4) ∧ W.cell? ⟨q, 0, none⟩ = some (.int .u8 8) ∧ W.cell? ⟨q, 1, none⟩ = some (.int .i64 2)
    ∧ W.cell? ⟨q, 27, none⟩ = some (.slice (some ⟨gp, 0, none⟩) 1 cP) ∧ W.cell? ⟨p, 27, none⟩ = some (.slice (some ⟨g, 0, none⟩) 1 1) ∧ W.cell? ⟨gp, 0, none⟩ = some (.string ⟨#[97]⟩) ∧ W.cell? ⟨gp, 1, none⟩ = some (.string ⟨#[98]⟩) ∧ W.cell? ⟨g, 0, none⟩ = some (.string ⟨#[97]⟩) ∧ W.cell? ⟨g, 1, none⟩ = some (.string ⟨#[98]⟩)
theorem WkS.below {q p g gp gb cP : Nat} {cx cm : Array Value} {w w' : World} (h : WkS q p g gp gb cP cx cm w) (hb : Below w.heap.size w w') : WkS q p g gp gb cP cx cm w' := by
  obtain ⟨s1, s2, s3, s4, s5, s6, s7, s8, s9, s10, s11, s12⟩ := h
  have k : ∀ {a : Addr} {v : Value}, w.cell? a = some v → w'.cell? a = some v := fun {a} {v} e => (hb.cell (World.block_lt_of_cell? w _ e)).trans e
  exact ⟨(hb.block q (lt_of_heap s1)).trans s1, (hb.block p (lt_of_heap s2)).trans s2, k s3, k s4, k s5, k s6, k s7, k s8, k s9, k s10, k s11, k s12⟩
set_option maxHeartbeats 8000000 in
set_option maxRecDepth 100000 in
theorem works_any (W : World) : Calls Try.prog 14 #[] W fun e w' => e = .returned (.bool true) ∧ Below W.heap.size W w' := by
  have hzz := zero_msg
  obtain ⟨Z, hZ⟩ : ∃ Z, Z = zC := ⟨_, rfl⟩
  rw [← hZ] at hzz
  have hZ33 : Z.size = 33 := by rw [hZ]; rfl
  have hZS : (Try.prog.info? 38).map (·.size) = some Z.size := by rw [hZ33]; exact msg_size
  have hZo : Z.all (·.oneCell') = true := by rw [hZ]; exact zC_one
  obtain ⟨w1, hw1⟩ : ∃ x, x = W.alloc (.cells #[.string ⟨#[97]⟩, .string ⟨#[98]⟩] 67) := ⟨_, rfl⟩
  have hb1 : Below W.heap.size W w1 := by rw [hw1]; exact (Below.refl _ _).alloc (Nat.le_refl _) _
  obtain ⟨g, hg⟩ : ∃ g, g = W.heap.size := ⟨_, rfl⟩
  have hg1 : w1.heap[g]? = some (.cells #[.string ⟨#[97]⟩, .string ⟨#[98]⟩] 67 (0, 0)) := by rw [hw1, hg]; exact heap_alloc_new W _
  obtain ⟨w2, hw2⟩ : ∃ x, x = w1.alloc (.cells Z 38) := ⟨_, rfl⟩
  have hb2 : Below w1.heap.size w1 w2 := by rw [hw2]; exact (Below.refl _ _).alloc (Nat.le_refl _) _
  obtain ⟨p, hp⟩ : ∃ p, p = w1.heap.size := ⟨_, rfl⟩
  have hp2 : w2.heap[p]? = some (.cells Z 38 (0, 0)) := by rw [hw2, hp]; exact heap_alloc_new w1 _
  have hs1 : w1.heap.size = W.heap.size + 1 := by rw [hw1]; simp
  obtain ⟨s, hs⟩ : ∃ s, s = Value.slice (some ⟨g, 0, none⟩) 1 1 := ⟨_, rfl⟩
  obtain ⟨cm, hcm⟩ : ∃ cm, cm = wkM.cells (.slice none 0 0) (.slice none 0 0) s (.slice none 0 0) := ⟨_, rfl⟩
  have hcmE : ((Z.setIfInBounds 0 (.int .u8 8)).setIfInBounds 1 (.int .i64 2)).setIfInBounds 27 (.slice (some ⟨g, 0, none⟩) 1 1) = cm := by rw [hZ, ← hs, hcm]; exact wk_cells s
  have hcm33 : cm.size = 33 := by rw [hcm]; rfl
  have hcmS : (Try.prog.info? 38).map (·.size) = some cm.size := by rw [hcm33]; exact msg_size
  have hcmo : cm.all (·.oneCell') = true := by rw [hcm, hs]; exact cells_one wkM none none (some ⟨g, 0, none⟩) none 0 0 1 0 0 0 1 0
  have hZc : Z.size = cm.size := by rw [hZ33, hcm33]
  obtain ⟨x, hx⟩ : ∃ x, x = w2.setRow p cm := ⟨_, rfl⟩
  have hpx : x.heap[p]? = some (.cells cm 38 (0, 0)) := by rw [hx]; exact setRow_heap w2 p Z cm _ _ hp2
  have hgx : x.heap[g]? = some (.cells #[.string ⟨#[97]⟩, .string ⟨#[98]⟩] 67 (0, 0)) := by
    rw [hx, setRow_other w2 p g _ (by have := lt_of_heap hg1; omega)]
    exact (hb2.block g (lt_of_heap hg1)).trans hg1
  have hbx : Below W.heap.size W x := by rw [hx]; exact below_setRow (hb1.trans (Joins.below_le hb2 hb1.size)) (by omega) _
  have hml : MsgL x Any wkM (.slice none 0 0) (.slice none 0 0) s (.slice none 0 0) := ⟨⟨[], Rec.N.nil _ _, rfl, fun i r e h => by simp at h⟩, Rec.N.nil _ _, by rw [hs]; exact Rec.one_row (R := pairR) (N := Any) (a := ⟨⟨#[97]⟩, ⟨#[98]⟩⟩) hgx trivial, Rec.N.nil _ _⟩
  have cE := enc_prog wkM (.slice none 0 0) (.slice none 0 0) s (.slice none 0 0) x hml wk_fit
  rw [wk_out, ← hcm] at cE
  obtain ⟨cr, hcr⟩ : ∃ cr, cr = ((Z.setIfInBounds 0 (.int .u8 8)).setIfInBounds 1 (.int .i64 2)).setIfInBounds 27 (.slice (some ⟨W.heap.size, 0, none⟩) 1 1) := ⟨_, rfl⟩
  have hcrm : cr = cm := by rw [hcr, ← hg]; exact hcmE
  have hpW : p = W.heap.size + 1 := by rw [hp, hs1]
  have hraw : ((W.alloc (.cells #[.string ⟨#[97]⟩, .string ⟨#[98]⟩] 67)).alloc (.cells Z 38)).heap[W.heap.size + 1]? = some (.cells Z 38 (0, 0)) := by rw [← hw1, ← hw2, ← hpW]; exact hp2
  have hrS : (Try.prog.info? 38).map (·.size) = some (((Z.setIfInBounds 0 (.int .u8 8)).setIfInBounds 1 (.int .i64 2)).setIfInBounds 27 (.slice (some ⟨W.heap.size, 0, none⟩) 1 1)).size := by rw [← hcr, hcrm]; exact hcmS
  have hrZ : Z.size = (((Z.setIfInBounds 0 (.int .u8 8)).setIfInBounds 1 (.int .i64 2)).setIfInBounds 27 (.slice (some ⟨W.heap.size, 0, none⟩) 1 1)).size := by rw [← hcr, hcrm]; exact hZc
  have hrO : (((Z.setIfInBounds 0 (.int .u8 8)).setIfInBounds 1 (.int .i64 2)).setIfInBounds 27 (.slice (some ⟨W.heap.size, 0, none⟩) 1 1)).all (·.oneCell') = true := by rw [← hcr, hcrm]; exact hcmo
  have hZne : ¬ Z = #[] := fun e => by rw [e] at hZ33; cases hZ33
  have HW : Hid (((W.alloc (.cells #[.string ⟨#[97]⟩, .string ⟨#[98]⟩] 67)).alloc (.cells Z 38)).setRow (W.heap.size + 1) (((Z.setIfInBounds 0 (.int .u8 8)).setIfInBounds 1 (.int .i64 2)).setIfInBounds 27 (.slice (some ⟨W.heap.size, 0, none⟩) 1 1)) = x) := Lib.hid (by rw [← hcr, hcrm, ← hw1, ← hw2, ← hpW]; exact hx.symm)
  have HPW := Lib.hid (And.intro hpW (And.intro hcr hcrm))
  have HX := Lib.hid (And.intro hpx (And.intro hgx (And.intro hbx hml)))
  have HC := Lib.hid (And.intro hcm hs)
  have HGW := Lib.hid hg
  have HCM33 := Lib.hid hcm33
  have HGX : Hid (x.heap[W.heap.size]? = some (.cells #[.string ⟨#[97]⟩, .string ⟨#[98]⟩] 67 (0, 0))) := Lib.hid (by rw [← hg]; exact hgx)
  have HZ := Lib.hid hZ
  clear hZ hw1 hb1 hg1 hw2 hb2 hp hs1 hs hcm hcmE hcm33 hx hgx hbx hml hcr hcrm hpW hZc hp2 hg
  go_enter Try.func14, Try.ntmps14
  go_upto_region 2 with (refine wpList_store_row rfl 38 (.tmp 1) (.tmp 8) rfl (W.heap.size + 1) (((Z.setIfInBounds 0 (.int .u8 8)).setIfInBounds 1 (.int .i64 2)).setIfInBounds 27 (.slice (some ⟨W.heap.size, 0, none⟩) 1 1)) rfl rfl 38 Z hraw hrS hrZ hrO ?_)
  rw [HW.out, ← HPW.out.2.1, ← HPW.out.1, HPW.out.2.2]
  clear HW hraw hrS hrZ hrO HPW
  go_wp2_with (refine wpList_load_row rfl 38 (.tmp 1) rfl p rfl 38 cm (0, 0) _ hpx Try.underlying38 rfl hcmS ?_)
  refine cE.mono ?_
  intro e w3 hE
  obtain ⟨⟨A3, c3, rfl, ho3⟩, hb3⟩ := hE
  clear cE hpx
  have cD := dec_yes wk_fit wk_small rfl (by rw [wk_by]; decide) (.slice A3 wkM.by.length c3) w3 (Rd.own ho3)
  have HO3 := Lib.hid (And.intro ho3 hb3)
  clear ho3 hb3
  go_wp2_with fail
  refine cD.mono ?_
  rintro e w4 ⟨vE, vL, vP, vX, rfl, hmo, hb4⟩
  clear cD
  obtain ⟨AE, cE', rfl, -, -⟩ := hmo.n.e.slice
  obtain ⟨AL, cL, rfl, -, -⟩ := hmo.n.l.slice
  obtain ⟨AP, cP, rfl, -, -⟩ := hmo.n.p.slice
  obtain ⟨AX, cX, rfl, -, -⟩ := hmo.n.x.slice
  obtain ⟨cx, hcx⟩ : ∃ cx, cx = wkM.cells (.slice AE wkM.entries.length cE') (.slice AL wkM.list.length cL) (.slice AP wkM.pairs.length cP) (.slice AX wkM.lasts.length cX) := ⟨_, rfl⟩
  rw [← hcx]
  have hcx33 : cx.size = 33 := by rw [hcx]; rfl
  have hcxS : (Try.prog.info? 38).map (·.size) = some cx.size := by rw [hcx33]; exact msg_size
  have hcxo : cx.all (·.oneCell') = true := by rw [hcx]; exact cells_one _ _ _ _ _ _ _ _ _ _ _ _ _
  have hZx : Z.size = cx.size := by rw [hZ33, hcx33]
  obtain ⟨w5, hw5⟩ : ∃ x, x = w4.alloc (.cells Z 38) := ⟨_, rfl⟩
  have hb5 : Below w4.heap.size w4 w5 := by rw [hw5]; exact (Below.refl _ _).alloc (Nat.le_refl _) _
  obtain ⟨q, hq⟩ : ∃ q, q = w4.heap.size := ⟨_, rfl⟩
  have hq5 : w5.heap[q]? = some (.cells Z 38 (0, 0)) := by rw [hw5, hq]; exact heap_alloc_new w4 _
  obtain ⟨y, hy⟩ : ∃ y, y = w5.setRow q cx := ⟨_, rfl⟩
  have hqy : y.heap[q]? = some (.cells cx 38 (0, 0)) := by rw [hy]; exact setRow_heap w5 q Z cx _ _ hq5
  have hby : Below w4.heap.size w4 y := by rw [hy]; exact below_setRow hb5 (Nat.le_of_eq hq.symm) _
  have HW5 := Lib.hid (And.intro hw5 (And.intro hq hy))
  have HCX := Lib.hid hcx
  have HMO := Lib.hid (And.intro hmo (And.intro hb4 (And.intro hqy hby)))
  clear hcx hw5 hb5 hq hy hmo hb4 hqy hby
  go_upto_region 4 with (rw [← HW5.out.1, ← HW5.out.2.1]; refine wpList_store_row rfl 38 (.tmp 4) (.tmp 17) rfl q cx rfl rfl 38 Z hq5 hcxS hZx hcxo ?_)
  rw [← HW5.out.2.2]
  obtain ⟨gb, hgA, hgB, hgl, -⟩ := own_bytes HO3.out.1 (by rw [wk_by]; decide)
  subst hgA
  have hby0 := HO3.out.1.cellAt 0 (by rw [wk_by]; decide)
  have hby1 := HO3.out.1.cellAt 1 (by rw [wk_by]; decide)
  have hB34 := HMO.out.2.1
  have hB4y := HMO.out.2.2.2
  have kk : ∀ {a : Addr} {v : Value}, w3.cell? a = some v → y.cell? a = some v := fun {a} {v} e => by
    have e1 := (hB34.cell (World.block_lt_of_cell? w3 _ e)).trans e
    exact (hB4y.cell (World.block_lt_of_cell? w4 _ e1)).trans e1
  have hxs := HX.out
  have hBx4 : Below x.heap.size x y := (HO3.out.2.trans (Joins.below_le hB34 HO3.out.2.size)).trans (Joins.below_le hB4y (Nat.le_trans HO3.out.2.size hB34.size))
  have hpr : pairR.Own w4 w3.heap.size 67 (.slice AP wkM.pairs.length cP) wkM.pairs := HMO.out.1.p
  obtain ⟨gp, hgp, -, -, -⟩ := own_head hpr (by decide)
  subst hgp
  obtain ⟨g1, o1, n1, k1, hv1, -, -, hc1⟩ := (hpr.n.any).cell (show wkM.pairs[0]? = some ⟨⟨#[97]⟩, ⟨#[98]⟩⟩ from rfl)
  injection hv1 with e1
  injection e1 with e1
  injection e1 with e1 e2
  subst e1 e2
  have k4 : ∀ {a : Addr} {v : Value}, w4.cell? a = some v → y.cell? a = some v := fun {a} {v} e => (hB4y.cell (World.block_lt_of_cell? w4 _ e)).trans e
  have hpy : y.heap[p]? = some (.cells cm 38 (0, 0)) := (hBx4.block p (lt_of_heap hxs.1)).trans hxs.1
  have hgy : y.heap[W.heap.size]? = _ := (hBx4.block W.heap.size (lt_of_heap HGX.out)).trans HGX.out
  have hqy := HMO.out.2.2.1
  have hS : WkS q p W.heap.size gp gb cP cx cm y := by
    refine ⟨hqy, hpy, kk ?_, kk ?_, ?_, ?_, ?_, ?_, k4 (hc1 0 _ rfl), k4 (hc1 1 _ rfl), (blk_cells hgy).1 0, (blk_cells hgy).1 1⟩
    · rw [hby0, wk_by]; rfl
    · rw [hby1, wk_by]; rfl
    · rw [(blk_cells hqy).1 0, HCX.out]; rfl
    · rw [(blk_cells hqy).1 1, HCX.out]; rfl
    · rw [(blk_cells hqy).1 27, HCX.out]; rfl
    · rw [(blk_cells hpy).1 27, HC.out.1, HC.out.2, HGW.out]; rfl
  have hsd : WkS q p W.heap.size gp gb cP cx cm y.drew := hS.below (Below.refl _ _).drew
  have cS := psame_any wkM wkM _ _ _ _ _ _ _ _ y.drew ((HMO.out.1.n.grow hB4y).grow (Below.refl _ _).drew) ((hxs.2.2.2.grow hBx4).grow (Below.refl _ _).drew)
  rw [← HCX.out, ← HC.out.1, MG.refl] at cS
  have hFin : Below W.heap.size W y := hxs.2.2.1.trans (Joins.below_le hBx4 hxs.2.2.1.size)
  have HFin := Lib.hid hFin.drew
  obtain ⟨nb, hnb⟩ : ∃ nb, nb = wkM.by.length := ⟨_, rfl⟩
  have hnb3 : (nb : Int) > 3 := by rw [hnb, wk_by]; decide
  rw [← hnb]
  have hnb0 : (0 : Int) < (nb : Int) := by omega
  have hnb1 : (1 : Int) < (nb : Int) := by omega
  have HGN := Lib.hid hnb
  have hcm33 := HCM33.out
  clear hnb hgB hgl hby0 hby1 hB34 hB4y hxs hBx4 hpr hc1 hpy hgy hqy hS hFin kk k4
  refine wp_region_held_drew (S := WkS q p W.heap.size gp gb cP cx cm) (by kernel_rfl) hsd (fun hHeld => ?_)
  refine takeD (i := 0) (d := 19) (v := .int .i64 0) rfl rfl (by kernel_rfl) (by kernel_rfl) (by kernel_rfl) (fun _ _ _ h => h) (.inl ⟨by rfl, fun w hSw => by unfold WkS at hSw; obtain ⟨s1, s2, s3, s4, s5, s6, s7, s8, s9, s10, s11, s12⟩ := hSw; clear s1 s2; go_simp; (try with_reducible rfl); (try (intro hh; exfalso; omega))⟩) (by assumption) ?_
  simp only [Act.put, List.setIfInBounds_toArray, List.set_cons_zero, List.set_cons_succ]
  refine takeD (i := 1) (d := 20) (v := .bool true) rfl rfl (by kernel_rfl) (by kernel_rfl) (by kernel_rfl) (fun _ _ _ h => h) (.inl ⟨by rfl, fun w hSw => by unfold WkS at hSw; obtain ⟨s1, s2, s3, s4, s5, s6, s7, s8, s9, s10, s11, s12⟩ := hSw; clear s1 s2; go_simp; (try with_reducible rfl); (try (intro hh; exfalso; omega))⟩) (by assumption) ?_
  simp only [Act.put, List.setIfInBounds_toArray, List.set_cons_zero, List.set_cons_succ]
  refine takeD (i := 2) (d := 21) (v := .bool true) rfl rfl (by kernel_rfl) (by kernel_rfl) (by kernel_rfl) (fun _ _ _ h => h) (.inl ⟨by rfl, fun w hSw => by unfold WkS at hSw; obtain ⟨s1, s2, s3, s4, s5, s6, s7, s8, s9, s10, s11, s12⟩ := hSw; clear s1 s2; go_simp; (try with_reducible rfl); (try (intro hh; exfalso; omega))⟩) (by assumption) ?_
  simp only [Act.put, List.setIfInBounds_toArray, List.set_cons_zero, List.set_cons_succ]
  refine takeD (i := 3) (d := 22) (v := .int .i64 0) rfl rfl (by kernel_rfl) (by kernel_rfl) (by kernel_rfl) (fun _ _ _ h => h) (.inl ⟨by rfl, fun w hSw => by unfold WkS at hSw; obtain ⟨s1, s2, s3, s4, s5, s6, s7, s8, s9, s10, s11, s12⟩ := hSw; clear s1 s2; go_simp; (try with_reducible rfl); (try (intro hh; exfalso; omega))⟩) (by assumption) ?_
  simp only [Act.put, List.setIfInBounds_toArray, List.set_cons_zero, List.set_cons_succ]
  refine takeD (i := 4) (d := 23) (v := .bool true) rfl rfl (by kernel_rfl) (by kernel_rfl) (by kernel_rfl) (fun _ _ _ h => h) (.inl ⟨by rfl, fun w hSw => by unfold WkS at hSw; obtain ⟨s1, s2, s3, s4, s5, s6, s7, s8, s9, s10, s11, s12⟩ := hSw; clear s1 s2; go_simp; (try with_reducible rfl); (try (intro hh; exfalso; omega))⟩) (by assumption) ?_
  simp only [Act.put, List.setIfInBounds_toArray, List.set_cons_zero, List.set_cons_succ]
  refine takeD (i := 5) (d := 24) (v := .bool true) rfl rfl (by kernel_rfl) (by kernel_rfl) (by kernel_rfl) (fun _ _ _ h => h) (.inl ⟨by rfl, fun w hSw => by unfold WkS at hSw; obtain ⟨s1, s2, s3, s4, s5, s6, s7, s8, s9, s10, s11, s12⟩ := hSw; clear s1 s2; go_simp; (try with_reducible rfl); (try (intro hh; exfalso; omega))⟩) (by assumption) ?_
  simp only [Act.put, List.setIfInBounds_toArray, List.set_cons_zero, List.set_cons_succ]
  refine takeD (i := 6) (d := 25) (v := .bool true) rfl rfl (by kernel_rfl) (by kernel_rfl) (by kernel_rfl) (fun _ _ _ h => h) (.inl ⟨by rfl, fun w hSw => by unfold WkS at hSw; obtain ⟨s1, s2, s3, s4, s5, s6, s7, s8, s9, s10, s11, s12⟩ := hSw; clear s1 s2; go_simp; (try with_reducible rfl); (try (intro hh; exfalso; omega))⟩) (by assumption) ?_
  simp only [Act.put, List.setIfInBounds_toArray, List.set_cons_zero, List.set_cons_succ]
  refine takeD (i := 7) (d := 26) (v := .slice (some ⟨gb, 0, none⟩) nb c3) rfl rfl (by kernel_rfl) (by kernel_rfl) (by kernel_rfl) (fun _ _ _ h => h) (.inl ⟨by rfl, fun w hSw => by unfold WkS at hSw; obtain ⟨s1, s2, s3, s4, s5, s6, s7, s8, s9, s10, s11, s12⟩ := hSw; clear s1 s2; go_simp; (try with_reducible rfl); (try (intro hh; exfalso; omega))⟩) (by assumption) ?_
  simp only [Act.put, List.setIfInBounds_toArray, List.set_cons_zero, List.set_cons_succ]
  refine takeD (i := 8) (d := 27) (v := .int .i64 (nb : Int)) rfl rfl (by kernel_rfl) (by kernel_rfl) (by kernel_rfl) (fun _ _ _ h => h) (.inl ⟨by rfl, fun w hSw => by unfold WkS at hSw; obtain ⟨s1, s2, s3, s4, s5, s6, s7, s8, s9, s10, s11, s12⟩ := hSw; clear s1 s2; go_simp; (try with_reducible rfl); (try (intro hh; exfalso; omega))⟩) (by assumption) ?_
  simp only [Act.put, List.setIfInBounds_toArray, List.set_cons_zero, List.set_cons_succ]
  refine takeD (i := 9) (d := 28) (v := .bool true) rfl rfl (by kernel_rfl) (by kernel_rfl) (by kernel_rfl) (fun _ _ _ h => h) (.inl ⟨by rfl, fun w hSw => by unfold WkS at hSw; obtain ⟨s1, s2, s3, s4, s5, s6, s7, s8, s9, s10, s11, s12⟩ := hSw; clear s1 s2; go_simp; (try with_reducible rfl); (try (intro hh; exfalso; omega))⟩) (by assumption) ?_
  simp only [Act.put, List.setIfInBounds_toArray, List.set_cons_zero, List.set_cons_succ]
  refine takeD (i := 10) (d := 29) (v := .bool true) rfl rfl (by kernel_rfl) (by kernel_rfl) (by kernel_rfl) (fun _ _ _ h => h) (.inl ⟨by rfl, fun w hSw => by unfold WkS at hSw; obtain ⟨s1, s2, s3, s4, s5, s6, s7, s8, s9, s10, s11, s12⟩ := hSw; clear s1 s2; go_simp; (try with_reducible rfl); (try (intro hh; exfalso; omega))⟩) (by assumption) ?_
  simp only [Act.put, List.setIfInBounds_toArray, List.set_cons_zero, List.set_cons_succ]
  refine takeD (i := 11) (d := 30) (v := .bool true) rfl rfl (by kernel_rfl) (by kernel_rfl) (by kernel_rfl) (fun _ _ _ h => h) (.inl ⟨by rfl, fun w hSw => by unfold WkS at hSw; obtain ⟨s1, s2, s3, s4, s5, s6, s7, s8, s9, s10, s11, s12⟩ := hSw; clear s1 s2; go_simp; (try with_reducible rfl); (try (intro hh; exfalso; omega))⟩) (by assumption) ?_
  simp only [Act.put, List.setIfInBounds_toArray, List.set_cons_zero, List.set_cons_succ]
  refine takeD (i := 12) (d := 31) (v := .slice (some ⟨gb, 0, none⟩) nb c3) rfl rfl (by kernel_rfl) (by kernel_rfl) (by kernel_rfl) (fun _ _ _ h => h) (.inl ⟨by rfl, fun w hSw => by unfold WkS at hSw; obtain ⟨s1, s2, s3, s4, s5, s6, s7, s8, s9, s10, s11, s12⟩ := hSw; clear s1 s2; go_simp; (try with_reducible rfl); (try (intro hh; exfalso; omega))⟩) (by assumption) ?_
  simp only [Act.put, List.setIfInBounds_toArray, List.set_cons_zero, List.set_cons_succ]
  refine takeD (i := 13) (d := 32) (v := .pointer (some ⟨gb, 0, none⟩)) rfl rfl (by kernel_rfl) (by kernel_rfl) (by kernel_rfl) (fun _ _ _ h => h) (.inl ⟨by rfl, fun w hSw => by unfold WkS at hSw; obtain ⟨s1, s2, s3, s4, s5, s6, s7, s8, s9, s10, s11, s12⟩ := hSw; clear s1 s2; go_simp; (try with_reducible rfl); (try (intro hh; exfalso; omega))⟩) (by assumption) ?_
  simp only [Act.put, List.setIfInBounds_toArray, List.set_cons_zero, List.set_cons_succ]
  refine takeD (i := 14) (d := 33) (v := .int .u8 8) rfl rfl (by kernel_rfl) (by kernel_rfl) (by kernel_rfl) (fun _ _ _ h => h) (.inl ⟨by rfl, fun w hSw => by unfold WkS at hSw; obtain ⟨s1, s2, s3, s4, s5, s6, s7, s8, s9, s10, s11, s12⟩ := hSw; clear s1 s2; go_simp; (try with_reducible rfl); (try (intro hh; exfalso; omega))⟩) (by assumption) ?_
  simp only [Act.put, List.setIfInBounds_toArray, List.set_cons_zero, List.set_cons_succ]
  refine takeD (i := 15) (d := 34) (v := .bool true) rfl rfl (by kernel_rfl) (by kernel_rfl) (by kernel_rfl) (fun _ _ _ h => h) (.inl ⟨by rfl, fun w hSw => by unfold WkS at hSw; obtain ⟨s1, s2, s3, s4, s5, s6, s7, s8, s9, s10, s11, s12⟩ := hSw; clear s1 s2; go_simp; (try with_reducible rfl); (try (intro hh; exfalso; omega))⟩) (by assumption) ?_
  simp only [Act.put, List.setIfInBounds_toArray, List.set_cons_zero, List.set_cons_succ]
  refine takeD (i := 16) (d := 35) (v := .bool true) rfl rfl (by kernel_rfl) (by kernel_rfl) (by kernel_rfl) (fun _ _ _ h => h) (.inl ⟨by rfl, fun w hSw => by unfold WkS at hSw; obtain ⟨s1, s2, s3, s4, s5, s6, s7, s8, s9, s10, s11, s12⟩ := hSw; clear s1 s2; go_simp; (try with_reducible rfl); (try (intro hh; exfalso; omega))⟩) (by assumption) ?_
  simp only [Act.put, List.setIfInBounds_toArray, List.set_cons_zero, List.set_cons_succ]
  refine takeD (i := 17) (d := 36) (v := .bool true) rfl rfl (by kernel_rfl) (by kernel_rfl) (by kernel_rfl) (fun _ _ _ h => h) (.inl ⟨by rfl, fun w hSw => by unfold WkS at hSw; obtain ⟨s1, s2, s3, s4, s5, s6, s7, s8, s9, s10, s11, s12⟩ := hSw; clear s1 s2; go_simp; (try with_reducible rfl); (try (intro hh; exfalso; omega))⟩) (by assumption) ?_
  simp only [Act.put, List.setIfInBounds_toArray, List.set_cons_zero, List.set_cons_succ]
  refine takeD (i := 18) (d := 37) (v := .slice (some ⟨gb, 0, none⟩) nb c3) rfl rfl (by kernel_rfl) (by kernel_rfl) (by kernel_rfl) (fun _ _ _ h => h) (.inl ⟨by rfl, fun w hSw => by unfold WkS at hSw; obtain ⟨s1, s2, s3, s4, s5, s6, s7, s8, s9, s10, s11, s12⟩ := hSw; clear s1 s2; go_simp; (try with_reducible rfl); (try (intro hh; exfalso; omega))⟩) (by assumption) ?_
  simp only [Act.put, List.setIfInBounds_toArray, List.set_cons_zero, List.set_cons_succ]
  refine takeD (i := 19) (d := 38) (v := .pointer (some ⟨gb, 1, none⟩)) rfl rfl (by kernel_rfl) (by kernel_rfl) (by kernel_rfl) (fun _ _ _ h => h) (.inl ⟨by rfl, fun w hSw => by unfold WkS at hSw; obtain ⟨s1, s2, s3, s4, s5, s6, s7, s8, s9, s10, s11, s12⟩ := hSw; clear s1 s2; go_simp; (try with_reducible rfl); (try (intro hh; exfalso; omega))⟩) (by assumption) ?_
  simp only [Act.put, List.setIfInBounds_toArray, List.set_cons_zero, List.set_cons_succ]
  refine takeD (i := 20) (d := 39) (v := .int .u8 4) rfl rfl (by kernel_rfl) (by kernel_rfl) (by kernel_rfl) (fun _ _ _ h => h) (.inl ⟨by rfl, fun w hSw => by unfold WkS at hSw; obtain ⟨s1, s2, s3, s4, s5, s6, s7, s8, s9, s10, s11, s12⟩ := hSw; clear s1 s2; go_simp; (try with_reducible rfl); (try (intro hh; exfalso; omega))⟩) (by assumption) ?_
  simp only [Act.put, List.setIfInBounds_toArray, List.set_cons_zero, List.set_cons_succ]
  refine takeD (i := 21) (d := 40) (v := .bool true) rfl rfl (by kernel_rfl) (by kernel_rfl) (by kernel_rfl) (fun _ _ _ h => h) (.inl ⟨by rfl, fun w hSw => by unfold WkS at hSw; obtain ⟨s1, s2, s3, s4, s5, s6, s7, s8, s9, s10, s11, s12⟩ := hSw; clear s1 s2; go_simp; (try with_reducible rfl); (try (intro hh; exfalso; omega))⟩) (by assumption) ?_
  simp only [Act.put, List.setIfInBounds_toArray, List.set_cons_zero, List.set_cons_succ]
  refine takeD (i := 22) (d := 41) (v := .bool true) rfl rfl (by kernel_rfl) (by kernel_rfl) (by kernel_rfl) (fun _ _ _ h => h) (.inl ⟨by rfl, fun w hSw => by unfold WkS at hSw; obtain ⟨s1, s2, s3, s4, s5, s6, s7, s8, s9, s10, s11, s12⟩ := hSw; clear s1 s2; go_simp; (try with_reducible rfl); (try (intro hh; exfalso; omega))⟩) (by assumption) ?_
  simp only [Act.put, List.setIfInBounds_toArray, List.set_cons_zero, List.set_cons_succ]
  refine takeD (i := 23) (d := 42) (v := .bool true) rfl rfl (by kernel_rfl) (by kernel_rfl) (by kernel_rfl) (fun _ _ _ h => h) (.inl ⟨by rfl, fun w hSw => by unfold WkS at hSw; obtain ⟨s1, s2, s3, s4, s5, s6, s7, s8, s9, s10, s11, s12⟩ := hSw; clear s1 s2; go_simp; (try with_reducible rfl); (try (intro hh; exfalso; omega))⟩) (by assumption) ?_
  simp only [Act.put, List.setIfInBounds_toArray, List.set_cons_zero, List.set_cons_succ]
  refine takeD (i := 24) (d := 43) (v := .pointer (some ⟨q, 0, none⟩)) rfl rfl (by kernel_rfl) (by kernel_rfl) (by kernel_rfl) (fun _ _ _ h => h) (.inl ⟨by rfl, fun w hSw => by unfold WkS at hSw; obtain ⟨s1, s2, s3, s4, s5, s6, s7, s8, s9, s10, s11, s12⟩ := hSw; clear s1 s2; go_simp; (try with_reducible rfl); (try (intro hh; exfalso; omega))⟩) (by assumption) ?_
  simp only [Act.put, List.setIfInBounds_toArray, List.set_cons_zero, List.set_cons_succ]
  refine takeD (i := 25) (d := 44) (v := .int .u8 8) rfl rfl (by kernel_rfl) (by kernel_rfl) (by kernel_rfl) (fun _ _ _ h => h) (.inl ⟨by rfl, fun w hSw => by unfold WkS at hSw; obtain ⟨s1, s2, s3, s4, s5, s6, s7, s8, s9, s10, s11, s12⟩ := hSw; clear s1 s2; go_simp; (try with_reducible rfl); (try (intro hh; exfalso; omega))⟩) (by assumption) ?_
  simp only [Act.put, List.setIfInBounds_toArray, List.set_cons_zero, List.set_cons_succ]
  refine takeD (i := 26) (d := 45) (v := .bool true) rfl rfl (by kernel_rfl) (by kernel_rfl) (by kernel_rfl) (fun _ _ _ h => h) (.inl ⟨by rfl, fun w hSw => by unfold WkS at hSw; obtain ⟨s1, s2, s3, s4, s5, s6, s7, s8, s9, s10, s11, s12⟩ := hSw; clear s1 s2; go_simp; (try with_reducible rfl); (try (intro hh; exfalso; omega))⟩) (by assumption) ?_
  simp only [Act.put, List.setIfInBounds_toArray, List.set_cons_zero, List.set_cons_succ]
  refine takeD (i := 27) (d := 46) (v := .bool true) rfl rfl (by kernel_rfl) (by kernel_rfl) (by kernel_rfl) (fun _ _ _ h => h) (.inl ⟨by rfl, fun w hSw => by unfold WkS at hSw; obtain ⟨s1, s2, s3, s4, s5, s6, s7, s8, s9, s10, s11, s12⟩ := hSw; clear s1 s2; go_simp; (try with_reducible rfl); (try (intro hh; exfalso; omega))⟩) (by assumption) ?_
  simp only [Act.put, List.setIfInBounds_toArray, List.set_cons_zero, List.set_cons_succ]
  refine takeD (i := 28) (d := 47) (v := .bool true) rfl rfl (by kernel_rfl) (by kernel_rfl) (by kernel_rfl) (fun _ _ _ h => h) (.inl ⟨by rfl, fun w hSw => by unfold WkS at hSw; obtain ⟨s1, s2, s3, s4, s5, s6, s7, s8, s9, s10, s11, s12⟩ := hSw; clear s1 s2; go_simp; (try with_reducible rfl); (try (intro hh; exfalso; omega))⟩) (by assumption) ?_
  simp only [Act.put, List.setIfInBounds_toArray, List.set_cons_zero, List.set_cons_succ]
  refine takeD (i := 29) (d := 48) (v := .pointer (some ⟨q, 1, none⟩)) rfl rfl (by kernel_rfl) (by kernel_rfl) (by kernel_rfl) (fun _ _ _ h => h) (.inl ⟨by rfl, fun w hSw => by unfold WkS at hSw; obtain ⟨s1, s2, s3, s4, s5, s6, s7, s8, s9, s10, s11, s12⟩ := hSw; clear s1 s2; go_simp; (try with_reducible rfl); (try (intro hh; exfalso; omega))⟩) (by assumption) ?_
  simp only [Act.put, List.setIfInBounds_toArray, List.set_cons_zero, List.set_cons_succ]
  refine takeD (i := 30) (d := 49) (v := .int .i64 2) rfl rfl (by kernel_rfl) (by kernel_rfl) (by kernel_rfl) (fun _ _ _ h => h) (.inl ⟨by rfl, fun w hSw => by unfold WkS at hSw; obtain ⟨s1, s2, s3, s4, s5, s6, s7, s8, s9, s10, s11, s12⟩ := hSw; clear s1 s2; go_simp; (try with_reducible rfl); (try (intro hh; exfalso; omega))⟩) (by assumption) ?_
  simp only [Act.put, List.setIfInBounds_toArray, List.set_cons_zero, List.set_cons_succ]
  refine takeD (i := 31) (d := 50) (v := .bool true) rfl rfl (by kernel_rfl) (by kernel_rfl) (by kernel_rfl) (fun _ _ _ h => h) (.inl ⟨by rfl, fun w hSw => by unfold WkS at hSw; obtain ⟨s1, s2, s3, s4, s5, s6, s7, s8, s9, s10, s11, s12⟩ := hSw; clear s1 s2; go_simp; (try with_reducible rfl); (try (intro hh; exfalso; omega))⟩) (by assumption) ?_
  simp only [Act.put, List.setIfInBounds_toArray, List.set_cons_zero, List.set_cons_succ]
  refine takeD (i := 32) (d := 51) (v := .bool true) rfl rfl (by kernel_rfl) (by kernel_rfl) (by kernel_rfl) (fun _ _ _ h => h) (.inl ⟨by rfl, fun w hSw => by unfold WkS at hSw; obtain ⟨s1, s2, s3, s4, s5, s6, s7, s8, s9, s10, s11, s12⟩ := hSw; clear s1 s2; go_simp; (try with_reducible rfl); (try (intro hh; exfalso; omega))⟩) (by assumption) ?_
  simp only [Act.put, List.setIfInBounds_toArray, List.set_cons_zero, List.set_cons_succ]
  refine takeD (i := 33) (d := 52) (v := .bool true) rfl rfl (by kernel_rfl) (by kernel_rfl) (by kernel_rfl) (fun _ _ _ h => h) (.inl ⟨by rfl, fun w hSw => by unfold WkS at hSw; obtain ⟨s1, s2, s3, s4, s5, s6, s7, s8, s9, s10, s11, s12⟩ := hSw; clear s1 s2; go_simp; (try with_reducible rfl); (try (intro hh; exfalso; omega))⟩) (by assumption) ?_
  simp only [Act.put, List.setIfInBounds_toArray, List.set_cons_zero, List.set_cons_succ]
  refine takeD (i := 34) (d := 53) (v := .pointer (some ⟨q, 27, none⟩)) rfl rfl (by kernel_rfl) (by kernel_rfl) (by kernel_rfl) (fun _ _ _ h => h) (.inl ⟨by rfl, fun w hSw => by unfold WkS at hSw; obtain ⟨s1, s2, s3, s4, s5, s6, s7, s8, s9, s10, s11, s12⟩ := hSw; clear s1 s2; go_simp; (try with_reducible rfl); (try (intro hh; exfalso; omega))⟩) (by assumption) ?_
  simp only [Act.put, List.setIfInBounds_toArray, List.set_cons_zero, List.set_cons_succ]
  refine takeD (i := 35) (d := 54) (v := .slice (some ⟨gp, 0, none⟩) 1 cP) rfl rfl (by kernel_rfl) (by kernel_rfl) (by kernel_rfl) (fun _ _ _ h => h) (.inl ⟨by rfl, fun w hSw => by unfold WkS at hSw; obtain ⟨s1, s2, s3, s4, s5, s6, s7, s8, s9, s10, s11, s12⟩ := hSw; clear s1 s2; go_simp; (try with_reducible rfl); (try (intro hh; exfalso; omega))⟩) (by assumption) ?_
  simp only [Act.put, List.setIfInBounds_toArray, List.set_cons_zero, List.set_cons_succ]
  refine takeD (i := 36) (d := 55) (v := .int .i64 1) rfl rfl (by kernel_rfl) (by kernel_rfl) (by kernel_rfl) (fun _ _ _ h => h) (.inl ⟨by rfl, fun w hSw => by unfold WkS at hSw; obtain ⟨s1, s2, s3, s4, s5, s6, s7, s8, s9, s10, s11, s12⟩ := hSw; clear s1 s2; go_simp; (try with_reducible rfl); (try (intro hh; exfalso; omega))⟩) (by assumption) ?_
  simp only [Act.put, List.setIfInBounds_toArray, List.set_cons_zero, List.set_cons_succ]
  refine takeD (i := 37) (d := 56) (v := .bool true) rfl rfl (by kernel_rfl) (by kernel_rfl) (by kernel_rfl) (fun _ _ _ h => h) (.inl ⟨by rfl, fun w hSw => by unfold WkS at hSw; obtain ⟨s1, s2, s3, s4, s5, s6, s7, s8, s9, s10, s11, s12⟩ := hSw; clear s1 s2; go_simp; (try with_reducible rfl); (try (intro hh; exfalso; omega))⟩) (by assumption) ?_
  simp only [Act.put, List.setIfInBounds_toArray, List.set_cons_zero, List.set_cons_succ]
  refine takeD (i := 38) (d := 57) (v := .bool true) rfl rfl (by kernel_rfl) (by kernel_rfl) (by kernel_rfl) (fun _ _ _ h => h) (.inl ⟨by rfl, fun w hSw => by unfold WkS at hSw; obtain ⟨s1, s2, s3, s4, s5, s6, s7, s8, s9, s10, s11, s12⟩ := hSw; clear s1 s2; go_simp; (try with_reducible rfl); (try (intro hh; exfalso; omega))⟩) (by assumption) ?_
  simp only [Act.put, List.setIfInBounds_toArray, List.set_cons_zero, List.set_cons_succ]
  refine takeD (i := 39) (d := 58) (v := .bool true) rfl rfl (by kernel_rfl) (by kernel_rfl) (by kernel_rfl) (fun _ _ _ h => h) (.inl ⟨by rfl, fun w hSw => by unfold WkS at hSw; obtain ⟨s1, s2, s3, s4, s5, s6, s7, s8, s9, s10, s11, s12⟩ := hSw; clear s1 s2; go_simp; (try with_reducible rfl); (try (intro hh; exfalso; omega))⟩) (by assumption) ?_
  simp only [Act.put, List.setIfInBounds_toArray, List.set_cons_zero, List.set_cons_succ]
  refine takeD (i := 40) (d := 59) (v := .pointer (some ⟨q, 27, none⟩)) rfl rfl (by kernel_rfl) (by kernel_rfl) (by kernel_rfl) (fun _ _ _ h => h) (.inl ⟨by rfl, fun w hSw => by unfold WkS at hSw; obtain ⟨s1, s2, s3, s4, s5, s6, s7, s8, s9, s10, s11, s12⟩ := hSw; clear s1 s2; go_simp; (try with_reducible rfl); (try (intro hh; exfalso; omega))⟩) (by assumption) ?_
  simp only [Act.put, List.setIfInBounds_toArray, List.set_cons_zero, List.set_cons_succ]
  refine takeD (i := 41) (d := 60) (v := .slice (some ⟨gp, 0, none⟩) 1 cP) rfl rfl (by kernel_rfl) (by kernel_rfl) (by kernel_rfl) (fun _ _ _ h => h) (.inl ⟨by rfl, fun w hSw => by unfold WkS at hSw; obtain ⟨s1, s2, s3, s4, s5, s6, s7, s8, s9, s10, s11, s12⟩ := hSw; clear s1 s2; go_simp; (try with_reducible rfl); (try (intro hh; exfalso; omega))⟩) (by assumption) ?_
  simp only [Act.put, List.setIfInBounds_toArray, List.set_cons_zero, List.set_cons_succ]
  refine takeD (i := 42) (d := 61) (v := .pointer (some ⟨gp, 0, none⟩)) rfl rfl (by kernel_rfl) (by kernel_rfl) (by kernel_rfl) (fun _ _ _ h => h) (.inl ⟨by rfl, fun w hSw => by unfold WkS at hSw; obtain ⟨s1, s2, s3, s4, s5, s6, s7, s8, s9, s10, s11, s12⟩ := hSw; clear s1 s2; go_simp; (try with_reducible rfl); (try (intro hh; exfalso; omega))⟩) (by assumption) ?_
  simp only [Act.put, List.setIfInBounds_toArray, List.set_cons_zero, List.set_cons_succ]
  refine takeD (i := 43) (d := 62) (v := .agg #[.string ⟨#[97]⟩, .string ⟨#[98]⟩]) rfl rfl (by kernel_rfl) (by kernel_rfl) (by kernel_rfl) (fun _ _ _ h => h) (.inl ⟨by rfl, fun w hSw => by unfold WkS at hSw; obtain ⟨s1, s2, s3, s4, s5, s6, s7, s8, s9, s10, s11, s12⟩ := hSw; clear s1 s2; go_simp; (try with_reducible rfl); (try (intro hh; exfalso; omega))⟩) (by assumption) ?_
  simp only [Act.put, List.setIfInBounds_toArray, List.set_cons_zero, List.set_cons_succ]
  refine takeD (i := 44) (d := 63) (v := .pointer (some ⟨p, 27, none⟩)) rfl rfl (by kernel_rfl) (by kernel_rfl) (by kernel_rfl) (fun _ _ _ h => h) (.inl ⟨by rfl, fun w hSw => by unfold WkS at hSw; obtain ⟨s1, s2, s3, s4, s5, s6, s7, s8, s9, s10, s11, s12⟩ := hSw; clear s1 s2; go_simp; (try with_reducible rfl); (try (intro hh; exfalso; omega))⟩) (by assumption) ?_
  simp only [Act.put, List.setIfInBounds_toArray, List.set_cons_zero, List.set_cons_succ]
  refine takeD (i := 45) (d := 64) (v := .slice (some ⟨W.heap.size, 0, none⟩) 1 1) rfl rfl (by kernel_rfl) (by kernel_rfl) (by kernel_rfl) (fun _ _ _ h => h) (.inl ⟨by rfl, fun w hSw => by unfold WkS at hSw; obtain ⟨s1, s2, s3, s4, s5, s6, s7, s8, s9, s10, s11, s12⟩ := hSw; clear s1 s2; go_simp; (try with_reducible rfl); (try (intro hh; exfalso; omega))⟩) (by assumption) ?_
  simp only [Act.put, List.setIfInBounds_toArray, List.set_cons_zero, List.set_cons_succ]
  refine takeD (i := 46) (d := 65) (v := .pointer (some ⟨W.heap.size, 0, none⟩)) rfl rfl (by kernel_rfl) (by kernel_rfl) (by kernel_rfl) (fun _ _ _ h => h) (.inl ⟨by rfl, fun w hSw => by unfold WkS at hSw; obtain ⟨s1, s2, s3, s4, s5, s6, s7, s8, s9, s10, s11, s12⟩ := hSw; clear s1 s2; go_simp; (try with_reducible rfl); (try (intro hh; exfalso; omega))⟩) (by assumption) ?_
  simp only [Act.put, List.setIfInBounds_toArray, List.set_cons_zero, List.set_cons_succ]
  refine takeD (i := 47) (d := 66) (v := .agg #[.string ⟨#[97]⟩, .string ⟨#[98]⟩]) rfl rfl (by kernel_rfl) (by kernel_rfl) (by kernel_rfl) (fun _ _ _ h => h) (.inl ⟨by rfl, fun w hSw => by unfold WkS at hSw; obtain ⟨s1, s2, s3, s4, s5, s6, s7, s8, s9, s10, s11, s12⟩ := hSw; clear s1 s2; go_simp; (try with_reducible rfl); (try (intro hh; exfalso; omega))⟩) (by assumption) ?_
  simp only [Act.put, List.setIfInBounds_toArray, List.set_cons_zero, List.set_cons_succ]
  refine takeD (i := 48) (d := 67) (v := .bool true) rfl rfl (by kernel_rfl) (by kernel_rfl) (by kernel_rfl) (fun _ _ _ h => h) (.inl ⟨by rfl, fun w hSw => by unfold WkS at hSw; obtain ⟨s1, s2, s3, s4, s5, s6, s7, s8, s9, s10, s11, s12⟩ := hSw; clear s1 s2; go_simp; (try with_reducible rfl); (try (intro hh; exfalso; omega))⟩) (by assumption) ?_
  simp only [Act.put, List.setIfInBounds_toArray, List.set_cons_zero, List.set_cons_succ]
  refine takeD (i := 49) (d := 68) (v := .bool true) rfl rfl (by kernel_rfl) (by kernel_rfl) (by kernel_rfl) (fun _ _ _ h => h) (.inl ⟨by rfl, fun w hSw => by unfold WkS at hSw; obtain ⟨s1, s2, s3, s4, s5, s6, s7, s8, s9, s10, s11, s12⟩ := hSw; clear s1 s2; go_simp; (try with_reducible rfl); (try (intro hh; exfalso; omega))⟩) (by assumption) ?_
  simp only [Act.put, List.setIfInBounds_toArray, List.set_cons_zero, List.set_cons_succ]
  refine takeD (i := 50) (d := 69) (v := .bool true) rfl rfl (by kernel_rfl) (by kernel_rfl) (by kernel_rfl) (fun _ _ _ h => h) (.inl ⟨by rfl, fun w hSw => by unfold WkS at hSw; obtain ⟨s1, s2, s3, s4, s5, s6, s7, s8, s9, s10, s11, s12⟩ := hSw; clear s1 s2; go_simp; (try with_reducible rfl); (try (intro hh; exfalso; omega))⟩) (by assumption) ?_
  simp only [Act.put, List.setIfInBounds_toArray, List.set_cons_zero, List.set_cons_succ]
  refine takeD (i := 51) (d := 70) (v := .agg cx) rfl rfl (by kernel_rfl) (by kernel_rfl) (by kernel_rfl) (fun _ _ _ h => h) (.inl ⟨by rfl, fun w hSw => by exact ex_load rfl rfl (ld_Msg q cx w hSw.1 hcx33)⟩) (by assumption) ?_
  simp only [Act.put, List.setIfInBounds_toArray, List.set_cons_zero, List.set_cons_succ]
  refine takeD (i := 52) (d := 71) (v := .agg cm) rfl rfl (by kernel_rfl) (by kernel_rfl) (by kernel_rfl) (fun _ _ _ h => h) (.inl ⟨by rfl, fun w hSw => by exact ex_load rfl rfl (ld_Msg p cm w hSw.2.1 hcm33)⟩) (by assumption) ?_
  simp only [Act.put, List.setIfInBounds_toArray, List.set_cons_zero, List.set_cons_succ]
  refine wpAnyH_ready (rs := [53]) (by kernel_rfl) (by simp) ?_
  refine AllReadyH.cons rfl (fun K1 hK1 => ?_) AllReadyH.nil
  rw [if_pos (by rfl)]
  go_simp
  go_at_call 22
  refine cS.mono ?_
  rintro e w6 ⟨rfl, hb6⟩
  have hs6 := hsd.below hb6
  have HF := Lib.hid (HFin.out.trans (Joins.below_le hb6 HFin.out.size))
  dsimp only
  refine hK1.out _ _ hs6 (fun hHeld2 => ?_)
  try simp only [Act.put, List.setIfInBounds_toArray, List.set_cons_zero, List.set_cons_succ]
  refine takeD (i := 54) (d := 73) (v := .bool true) rfl rfl (by kernel_rfl) (by kernel_rfl) (by kernel_rfl) (fun _ _ _ h => h) (.inl ⟨by rfl, fun w hSw => by unfold WkS at hSw; obtain ⟨s1, s2, s3, s4, s5, s6, s7, s8, s9, s10, s11, s12⟩ := hSw; clear s1 s2; go_simp; (try with_reducible rfl); (try (intro hh; exfalso; omega))⟩) (by assumption) ?_
  simp only [Act.put, List.setIfInBounds_toArray, List.set_cons_zero, List.set_cons_succ]
  refine takeD (i := 55) (d := 0) (v := .bool true) rfl rfl (by kernel_rfl) (by kernel_rfl) (by kernel_rfl) (fun _ _ _ h => h) (.inl ⟨by rfl, fun w hSw => by unfold WkS at hSw; obtain ⟨s1, s2, s3, s4, s5, s6, s7, s8, s9, s10, s11, s12⟩ := hSw; clear s1 s2; go_simp; (try with_reducible rfl); (try (intro hh; exfalso; omega))⟩) (by assumption) ?_
  simp only [Act.put, List.setIfInBounds_toArray, List.set_cons_zero, List.set_cons_succ]
  refine wpAnyH_done (by kernel_rfl) ?_ _
  clear hsd hs6 hHeld hHeld2 hb6 cS
  go_wp2_with fail
  go_ret
  exact ⟨rfl, HF.out⟩
end Go.Proofs.Ytblbcoknefgcaaa
