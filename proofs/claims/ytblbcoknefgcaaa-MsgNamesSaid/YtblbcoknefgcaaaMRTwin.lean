/-
  A message's twin: the document's. No statement is proved here. No condition.
-/
import Derived.Test.YtblbcoknefgcaaaMTwinM
namespace Go.Proofs.Ytblbcoknefgcaaa
open Go.RowKit

theorem twin_len (x n : Nat) (h : x ≤ n) (l : List EN) (hl : l.length = n) : (l.take x).length = x := by rw [List.length_take]; omega
/-- one more entry of one's own -/
theorem EntO.push {w w' : World} {B : Nat} {v v' : Value} {rs : List RE} {l : List EN} {i : Nat} {r : RE} {e : EN} (h : EntO w B v rs (l.take i)) (he : l[i]? = some e) (hr : EntIs r e) (ho : inR.Own w B 3 r.lv e.list) (hrow : entR.Own w' B 79 v' (rs ++ [r])) (hk : ∀ b, b < w.heap.size → v.ownBlock ≠ some b → w'.heap[b]? = w.heap[b]?) : EntO w' B v' (rs ++ [r]) (l.take (i + 1)) := by
  have hil := (List.getElem?_eq_some_iff.1 he).1
  have hlen : rs.length = i := by rw [h.len, List.length_take]; omega
  have oth : ∀ (x : Value) (L : List Int), inR.Own w B 3 x L → inR.Own w' B 3 x L := fun x L hx => row_same hx fun b hb => hk b (hx.lt b hb).2 fun e2 => by
    obtain ⟨c1, h1⟩ := row_type hx hb
    obtain ⟨c2, h2⟩ := row_type h.row e2
    exact apart_T h1 h2 (by decide) rfl
  refine ⟨hrow, by rw [List.length_append, hlen, List.length_take]; simp; omega, fun j r' e' hr' he' => ?_⟩
  rw [List.take_add_one, he] at he'
  by_cases hj : j < i
  · rw [List.getElem?_append_left (by omega)] at hr'
    rw [List.getElem?_append_left (by rw [List.length_take]; omega)] at he'
    obtain ⟨h1, h2⟩ := h.ent j r' e' hr' he'
    exact ⟨h1, oth _ _ h2⟩
  · have hji : j = i := by
      have := (List.getElem?_eq_some_iff.1 hr').1
      rw [List.length_append, hlen] at this
      simp at this
      omega
    subst hji
    rw [List.getElem?_append_right (by omega), hlen, Nat.sub_self] at hr'
    rw [List.getElem?_append_right (by rw [List.length_take]; omega), List.length_take, Nat.min_eq_left (by omega), Nat.sub_self] at he'
    have hr' := Option.some.inj hr'
    have he' : e = e' := by simpa using he'
    subst he'
    rw [← hr']
    exact ⟨hr, oth _ _ ho⟩
/-- append([]T{}, l...): a row of one's own -/
theorem lit_app {α : Type} {R : Rec α} {w : World} {B : Nat} {T t : TypeId} {i : TypeInfo} {z : Value} {bytes : Nat} (ht : Try.prog.underlying t = some (.slice T)) (hi : Try.prog.info? T = some i) (hz : i.zero = some z) (hsize : i.size = R.size) (hby : i.bytes = bytes) (hzs : z.cells.size = R.size) (hsz : 0 < R.size)
    {x : Value} {l : List α} (hx : R.N w Any x l) (hlen : l.length ≤ maxLen) (hbytes : l.length * bytes ≤ 140737488355328) (hB : B ≤ w.heap.size) :
    ∃ A c w', (Builtin.append_ #[t, t] t #[.slice (some ⟨w.heap.size, 0, none⟩) 0 0, x]).run Try.prog (w.alloc (.cells #[] T)) = .ok (.slice A l.length c) w' ∧ R.Own w' B T (.slice A l.length c) l ∧ Below w.heap.size w w' := by
  have hb1 : Below w.heap.size w (w.alloc (.cells #[] T)) := (Below.refl _ _).alloc (Nat.le_refl _) _
  have hown1 : R.Own (w.alloc (.cells #[] T)) w.heap.size T (.slice (some ⟨w.heap.size, 0, none⟩) 0 0) [] := World.ownsRow_lit w #[] 0 (Nat.le_refl _) (by unfold maxLen; omega) (Nat.zero_mul _).symm
  obtain ⟨v', w', hr, ho, hg, -⟩ := Rec.app (P := Try.prog) (t := t) ht hi hz hsize hby hzs hsz hown1 (hx.grow hb1) (by simpa using hlen) (by simpa using hbytes) hb1.size
  rw [List.nil_append] at ho
  obtain ⟨A, c, rfl⟩ := ho.slice
  exact ⟨A, c, w', hr, own_base ho hB, hb1.grown hg hb1.size fun p hp => by have h1 : w.heap.size = p := Option.some.inj hp; omega⟩
set_option maxHeartbeats 40000000 in
set_option maxRecDepth 1000000 in
theorem rtwin_any (a : MG) (vE vL vP vX : Value) (w : World) (h : MsgL w Any a vE vL vP vX) (hn : MsgS a) :
    Calls Try.prog 17 #[.agg (a.cells vE vL vP vX)] w fun e w' => ∃ vE' vL' vP' vX', e = .returned (.agg (a.cells vE' vL' vP' vX')) ∧ MsgL w' Any a vE' vL' vP' vX' ∧ Below w.heap.size w w' := by
  obtain ⟨AE, cE, rfl, -, -⟩ := h.e.slice
  obtain ⟨AL, cL, rfl, -, -⟩ := h.l.slice
  obtain ⟨AP, cP, rfl, -, -⟩ := h.p.slice
  obtain ⟨AX, cX, rfl, -, -⟩ := h.x.slice
  obtain ⟨B, hB0⟩ : ∃ B, B = w.heap.size := ⟨_, rfl⟩
  obtain ⟨ca, hca⟩ : ∃ ca, ca = (a.cells (.slice AE a.entries.length cE) (.slice AL a.list.length cL) (.slice AP a.pairs.length cP) (.slice AX a.lasts.length cX)) := ⟨_, rfl⟩
  rw [← hca]
  have hz := zero_msg
  obtain ⟨Z, hZ⟩ : ∃ Z, Z = zC := ⟨_, rfl⟩
  rw [← hZ] at hz
  have hZs : Z.size = ca.size := by rw [hZ, hca]; rfl
  have hcs : (Try.prog.info? 38).map (·.size) = some ca.size := by rw [hca]; exact msg_sized _ _ _ _ _
  have hco : ca.all (·.oneCell') = true := by rw [hca]; exact cells_one _ _ _ _ _ _ _ _ _ _ _ _ _
  obtain ⟨w1, hw1⟩ : ∃ w1, w1 = w.alloc (.cells ca 38) := ⟨_, rfl⟩
  have hb1 : Below w.heap.size w w1 := by rw [hw1]; exact (Below.refl _ _).alloc (Nat.le_refl _) _
  have hx1 : w1.heap[w.heap.size]? = some (.cells ca 38 (0, 0)) := by rw [hw1]; exact heap_alloc_new w _
  have hs1 : w1.heap.size = w.heap.size + 1 := by rw [hw1]; simp
  obtain ⟨w2, hw2⟩ : ∃ w2, w2 = w1.alloc (.cells Z 38) := ⟨_, rfl⟩
  have hb2 : Below w1.heap.size w1 w2 := by rw [hw2]; exact (Below.refl _ _).alloc (Nat.le_refl _) _
  have hr2 : w2.heap[w1.heap.size]? = some (.cells Z 38 (0, 0)) := by rw [hw2]; exact heap_alloc_new w1 _
  have hx2 := (hb2.block _ (lt_of_heap hx1)).trans hx1
  have hs2 : w2.heap.size = w.heap.size + 2 := by rw [hw2]; simp; omega
  obtain ⟨w3, hw3⟩ : ∃ w3, w3 = w2.alloc (.cells Z 38) := ⟨_, rfl⟩
  have hb3 : Below w2.heap.size w2 w3 := by rw [hw3]; exact (Below.refl _ _).alloc (Nat.le_refl _) _
  have ho3 : w3.heap[w2.heap.size]? = some (.cells Z 38 (0, 0)) := by rw [hw3]; exact heap_alloc_new w2 _
  obtain ⟨p, hp⟩ : ∃ p, p = w.heap.size := ⟨_, rfl⟩
  obtain ⟨q, hq⟩ : ∃ q, q = w1.heap.size := ⟨_, rfl⟩
  obtain ⟨u, hu⟩ : ∃ u, u = w2.heap.size := ⟨_, rfl⟩
  have hq1 : q = w.heap.size + 1 := hq.trans hs1
  rw [← hp] at hx2
  rw [← hq] at hr2
  rw [← hu] at ho3
  have hx3 := (hb3.block _ (lt_of_heap hx2)).trans hx2
  have hr3 := (hb3.block _ (lt_of_heap hr2)).trans hr2
  have hww : w2 = (w.alloc (.cells ca 38)).alloc (.cells Z 38) := by rw [hw2, hw1]
  have HW2 := Lib.hid hww
  have HP := Lib.hid hp
  have HQ := Lib.hid hq1
  have HU := Lib.hid hu
  have HCA := Lib.hid hca
  have HZ := Lib.hid hZ
  have HX2 := Lib.hid hx2
  have HO3 := Lib.hid ho3
  have HW3 := Lib.hid hw3
  have HN := Lib.hid hn
  have H0 := Lib.hid h
  have HBB := Lib.hid (hb1.trans ((Joins.below_le hb2 hb1.size).trans (Joins.below_le hb3 (by omega))))
  have hne : p ≠ u ∧ q ≠ u ∧ p ≠ q := by omega
  have HNE := Lib.hid hne
  clear h hn hw1 hb1 hx1 hs1 hw2 hb2 hs2 hw3 hb3 hp hq hq1 hww hu hca hZ hne
  go_enter Try.func17, Try.ntmps17
  go_upto_region 1 with fail
  rw [← HW2.out, ← HQ.out, ← HP.out]
  clear HW2
  go_upto_region 2 with (first
    | (refine wpList_load_row rfl 38 (.tmp 1) rfl p rfl 38 ca (0, 0) _ hx2 Try.underlying38 rfl hcs ?_)
    | (rw [← HW3.out, ← HU.out]; refine wpList_store_row rfl 38 (.tmp 3) (.tmp 6) rfl u ca rfl rfl 38 Z ho3 hcs hZs hco ?_))
  obtain ⟨wr3, hwr3⟩ : ∃ wr3, wr3 = w3.setRow u ca := ⟨_, rfl⟩
  rw [← hwr3]
  have hu3 : wr3.heap[u]? = some (.cells ca 38 (0, 0)) := by rw [hwr3]; exact setRow_heap w3 u Z ca _ _ ho3
  have hf3 : ∀ b, b ≠ u → wr3.heap[b]? = w3.heap[b]? := fun b hb => by rw [hwr3]; exact setRow_other w3 u b _ hb
  have hp3 := (hf3 p HNE.out.1).trans hx3
  have hq3 := (hf3 q HNE.out.2.1).trans hr3
  have hBu : w.heap.size ≤ u := by have h1 := HU.out; have h2 := HQ.out; have h3 := lt_of_heap hr2; omega
  have hB3 : Below w.heap.size w wr3 := by rw [hwr3]; exact below_setRow HBB.out hBu _
  rw [HCA.out] at hu3
  have c22 : wr3.cell? ⟨u, 22, none⟩ = some (.slice AE a.entries.length cE) := ((blk_cells hu3).1 22).trans (mc_22 _ _ _ _ _)
  have f22 : wr3.frozen? ⟨u, 22, none⟩ = false := (blk_cells hu3).2 22
  obtain ⟨w4, hw4⟩ : ∃ w4, w4 = wr3.setCell ⟨u, 22, none⟩ (.slice none 0 0) := ⟨_, rfl⟩
  have far4 : ∀ b, b ≠ u → w4.heap[b]? = wr3.heap[b]? := fun b hb => by rw [hw4]; exact Below.heap_setCell wr3 ⟨u, 22, none⟩ _ b hb
  have hu4 : w4.heap[u]? = some (.cells (a.cells (.slice none 0 0) (.slice AL a.list.length cL) (.slice AP a.pairs.length cP) (.slice AX a.lasts.length cX)) 38 (0, 0)) := by rw [hw4, Joins.block_setCell hu3 _, set_e]
  have hB4 : Below w.heap.size w w4 := by rw [hw4]; exact hB3.setCell (p := ⟨u, 22, none⟩) hBu _
  have hp4 := (far4 p HNE.out.1).trans hp3
  have hq4 := (far4 q HNE.out.2.1).trans hq3
  rw [HCA.out] at hp4
  have hs4 : w.heap.size ≤ w4.heap.size := hB4.size
  have HW4 := Lib.hid hw4
  have HE0 : Hid (∃ rs, EntO w4 w.heap.size (.slice none 0 0) rs (a.entries.take 0) ∧ w4.heap[p]? = some (.cells (a.cells (.slice AE a.entries.length cE) (.slice AL a.list.length cL) (.slice AP a.pairs.length cP) (.slice AX a.lasts.length cX)) 38 (0, 0)) ∧ w4.heap[u]? = some (.cells (a.cells (.slice none 0 0) (.slice AL a.list.length cL) (.slice AP a.pairs.length cP) (.slice AX a.lasts.length cX)) 38 (0, 0)) ∧ w4.heap[q]? = some (.cells Z 38 (0, 0)) ∧ Below w.heap.size w w4) := Lib.hid ⟨[], ⟨Rec.Own.none _ _ _ _, by simp, fun j r e hr he => by simp at hr⟩, hp4, hu4, hq4, hB4⟩
  have hl0 : a.entries.length ≤ 2513169434916 := HN.out.e
  clear hx2 hr2 ho3 hx3 hr3 hwr3 hu3 hf3 hp3 hq3 hB3 hw4 far4 hu4 hB4 hp4 hq4 hZs hB0
  go_upto_region 3 with fail
  rw [← HW4.out]
  clear HW4 c22 f22
  go_wp2_with fail
  go_loopw [4, 5] (fun s4 _ wr => ∃ (i : Nat) (Av : Option Addr) (cv : Nat), s4 = .int .i64 (i : Int) ∧ i ≤ a.entries.length ∧ Hid (∃ rs, EntO wr w.heap.size (.slice Av i cv) rs (a.entries.take i) ∧ wr.heap[p]? = some (.cells (a.cells (.slice AE a.entries.length cE) (.slice AL a.list.length cL) (.slice AP a.pairs.length cP) (.slice AX a.lasts.length cX)) 38 (0, 0)) ∧ wr.heap[u]? = some (.cells (a.cells (.slice Av i cv) (.slice AL a.list.length cL) (.slice AP a.pairs.length cP) (.slice AX a.lasts.length cX)) 38 (0, 0)) ∧ wr.heap[q]? = some (.cells Z 38 (0, 0)) ∧ Below w.heap.size w wr)) (fun s4 _ _ => a.entries.length - (intOf s4).toNat)
  case atStart => exact ⟨0, none, 0, rfl, Nat.zero_le _, HE0⟩
  case round =>
    clear HE0
    obtain ⟨i, Av, cv, rfl, hi, hR⟩ := hrel
    obtain ⟨rs, hE, hpz, huz, hqz, hBz⟩ := hR.out
    obtain ⟨wz, hwz⟩ : ∃ wz : World, wz = wr := ⟨_, rfl⟩
    subst hwz
    have p22 : wz.cell? ⟨p, 22, none⟩ = some (.slice AE a.entries.length cE) := ((blk_cells hpz).1 22).trans (mc_22 _ _ _ _ _)
    have hzs := hBz.size
    by_cases hil : i < a.entries.length
    · have a1 : (i : Int) < (a.entries.length : Int) := by omega
      have a0 : (0 : Int) ≤ (i : Int) := by omega
      obtain ⟨en, he⟩ : ∃ en, a.entries[i]? = some en := ⟨_, List.getElem?_eq_getElem hil⟩
      obtain ⟨b, ob, nb, kb, A3, c3, hv, -, hbl, hli, y0, y1, y2, y3⟩ := (H0.out.e.grow hBz).cell he
      injection hv with v1 v2 v3
      subst v1 v3
      clear v2
      obtain ⟨wa, hwa⟩ : ∃ wa, wa = wz.alloc (.cells #[.int .i64 en.term, .int .u8 en.kind, .string en.data, .slice A3 en.list.length c3] 79) := ⟨_, rfl⟩
      have hba : Below wz.heap.size wz wa := by rw [hwa]; exact (Below.refl _ _).alloc (Nat.le_refl _) _
      have hea : wa.heap[wz.heap.size]? = some (.cells #[.int .i64 en.term, .int .u8 en.kind, .string en.data, .slice A3 en.list.length c3] 79 (0, 0)) := by rw [hwa]; exact heap_alloc_new wz _
      have hsa : wa.heap.size = wz.heap.size + 1 := by rw [hwa]; simp
      have hbl2 : Below wa.heap.size wa (wa.alloc (.cells #[] 3)) := (Below.refl _ _).alloc (Nat.le_refl _) _
      have hbz2 : Below wz.heap.size wz (wa.alloc (.cells #[] 3)) := hba.trans (Joins.below_le hbl2 hba.size)
      have p22' : (wa.alloc (.cells #[] 3)).cell? ⟨p, 22, none⟩ = some (.slice (some ⟨b, ob, none⟩) a.entries.length cE) := (hbz2.cell (p := ⟨p, 22, none⟩) (lt_of_heap hpz)).trans p22
      have y3' : (wa.alloc (.cells #[] 3)).cell? ⟨b, ob + i * 4 + 3, none⟩ = some (.slice A3 en.list.length c3) := (hbz2.cell (p := ⟨b, ob + i * 4 + 3, none⟩) hbl).trans y3
      obtain ⟨ii, hii, z0, z1, z2⟩ := info_parts info_cint
      obtain ⟨A5, c5, wc, hr5, ho5, hb5⟩ := lit_app (R := inR) (B := w.heap.size) (t := 32) Try.underlying32 hii z0 z1 z2 rfl (by decide) ((hli.grow hba).any) (by unfold maxLen; have := HN.out.es en (List.mem_of_getElem? he); omega) (by have := HN.out.es en (List.mem_of_getElem? he); omega) (Nat.le_trans hzs hba.size)
      obtain ⟨eb, heb⟩ : ∃ eb, eb = wz.heap.size := ⟨_, rfl⟩
      rw [← heb] at hea
      have hec := (hb5.block eb (lt_of_heap hea)).trans hea
      have e3 : wc.cell? ⟨eb, 3, none⟩ = some (.slice A3 en.list.length c3) := (blk_cells hec).1 3
      have g3 : wc.frozen? ⟨eb, 3, none⟩ = false := (blk_cells hec).2 3
      obtain ⟨wd, hwd⟩ : ∃ wd, wd = wc.setCell ⟨eb, 3, none⟩ (.slice A5 en.list.length c5) := ⟨_, rfl⟩
      have farD : ∀ x, x ≠ eb → wd.heap[x]? = wc.heap[x]? := fun x hx => by rw [hwd]; exact Below.heap_setCell wc ⟨eb, 3, none⟩ _ x hx
      have hed : wd.heap[eb]? = some (.cells #[.int .i64 en.term, .int .u8 en.kind, .string en.data, .slice A5 en.list.length c5] 79 (0, 0)) := by rw [hwd, Joins.block_setCell hec _]; rfl
      have hsd : wc.heap.size ≤ wd.heap.size := by rw [hwd]; simp [World.setCell]
      have hbc : Below wz.heap.size wz wc := hba.trans (Joins.below_le hb5 hba.size)
      have hbd : Below wz.heap.size wz wd := by rw [hwd]; exact hbc.setCell (p := ⟨eb, 3, none⟩) (by rw [heb]; exact Nat.le_refl _) _
      have hEd := hE.below hbd
      have hpd := (hbd.block p (lt_of_heap hpz)).trans hpz
      have hud := (hbd.block u (lt_of_heap huz)).trans huz
      have hqd := (hbd.block q (lt_of_heap hqz)).trans hqz
      have hBd := hBz.trans (Joins.below_le hbd hzs)
      have hod : inR.Own wd w.heap.size 3 (.slice A5 en.list.length c5) en.list := row_same ho5 fun x hx => farD x fun e => by
        subst e
        obtain ⟨cur, hc⟩ := row_type ho5 hx
        exact apart_T hc hec (by decide) rfl
      have u22 : wd.cell? ⟨u, 22, none⟩ = some (.slice Av i cv) := ((blk_cells hud).1 22).trans (mc_22 _ _ _ _ _)
      obtain ⟨d0, d1, d2, d3⟩ : wd.cell? ⟨eb, 0, none⟩ = some (.int .i64 en.term) ∧ wd.cell? ⟨eb, 1, none⟩ = some (.int .u8 en.kind) ∧ wd.cell? ⟨eb, 2, none⟩ = some (.string en.data) ∧ wd.cell? ⟨eb, 3, none⟩ = some (.slice A5 en.list.length c5) := ⟨(blk_cells hed).1 0, (blk_cells hed).1 1, (blk_cells hed).1 2, (blk_cells hed).1 3⟩
      obtain ⟨r, hrdef⟩ : ∃ r : RE, r = ⟨en.term, en.kind, en.data, A5, en.list.length, c5⟩ := ⟨_, rfl⟩
      have hrv : (entR.vals r).toArray = #[.int .i64 en.term, .int .u8 en.kind, .string en.data, .slice A5 en.list.length c5] := by rw [hrdef]; rfl
      have hbe : Below wd.heap.size wd (wd.alloc (.cells #[.int .i64 en.term, .int .u8 en.kind, .string en.data, .slice A5 en.list.length c5] 79)) := (Below.refl _ _).alloc (Nat.le_refl _) _
      have hx1 : entR.N (wd.alloc (.cells #[.int .i64 en.term, .int .u8 en.kind, .string en.data, .slice A5 en.list.length c5] 79)) Any (.slice (some ⟨wd.heap.size, 0, none⟩) 1 1) [r] := Rec.one_row (R := entR) (N := Any) (a := r) (by rw [hrv]; exact heap_alloc_new wd _) trivial
      obtain ⟨ie, hie, ze0, ze1, ze2⟩ := info_parts info_cEntry
      have hrl : rs.length = i := by rw [hE.len, List.length_take]; omega
      obtain ⟨v6, wf, hr6, ho6, hg6, -⟩ := Rec.app (P := Try.prog) (t := 31) Try.underlying31 hie ze0 ze1 ze2 rfl (by decide) (hEd.below hbe).row hx1 (by unfold maxLen; simp; omega) (by simp; omega) (by have := hBd.size; have := hbe.size; omega)
      obtain ⟨A6, c6, rfl⟩ := ho6.slice
      have hlen6 : (rs ++ [r]).length = i + 1 := by simp [hrl]
      rw [hlen6] at hr6 ho6
      have hw6 : ∀ x, x < wd.heap.size → (Value.slice Av i cv).ownBlock ≠ some x → wf.heap[x]? = wd.heap[x]? := fun x hx hne => (hg6.block x (Nat.lt_of_lt_of_le hx hbe.size) fun e => hne e.symm).trans (hbe.block x hx)
      have notM : ∀ x cs, wd.heap[x]? = some (.cells cs 38 (0, 0)) → (Value.slice Av i cv).ownBlock ≠ some x := fun x cs hx e => by
        obtain ⟨cur, hc⟩ := row_type hEd.row e
        exact apart_T hc hx (by decide) rfl
      have hpf := (hw6 p (lt_of_heap hpd) (notM p _ hpd)).trans hpd
      have huf := (hw6 u (lt_of_heap hud) (notM u _ hud)).trans hud
      have hqf := (hw6 q (lt_of_heap hqd) (notM q _ hqd)).trans hqd
      have hBf : Below w.heap.size w wf := (hBd.trans (Joins.below_le hbe hBd.size)).grown hg6 (Nat.le_trans hBd.size hbe.size) fun x hx => (hEd.row.lt x hx).1
      have hEf : EntO wf w.heap.size (.slice A6 (i + 1) c6) (rs ++ [r]) (a.entries.take (i + 1)) := hEd.push he (by rw [hrdef]; exact ⟨rfl, rfl, rfl, rfl⟩) (by rw [hrdef]; exact hod) ho6 hw6
      have uf : wf.cell? ⟨u, 22, none⟩ = some (.slice Av i cv) := ((blk_cells huf).1 22).trans (mc_22 _ _ _ _ _)
      have ug : wf.frozen? ⟨u, 22, none⟩ = false := (blk_cells huf).2 22
      have farG : ∀ x, x ≠ u → (wf.setCell ⟨u, 22, none⟩ (.slice A6 (i + 1) c6)).heap[x]? = wf.heap[x]? := fun x hx => Below.heap_setCell wf ⟨u, 22, none⟩ _ x hx
      have HF : Hid (∃ rs, EntO (wf.setCell ⟨u, 22, none⟩ (.slice A6 (i + 1) c6)) w.heap.size (.slice A6 (i + 1) c6) rs (a.entries.take (i + 1)) ∧ (wf.setCell ⟨u, 22, none⟩ (.slice A6 (i + 1) c6)).heap[p]? = some (.cells (a.cells (.slice (some ⟨b, ob, none⟩) a.entries.length cE) (.slice AL a.list.length cL) (.slice AP a.pairs.length cP) (.slice AX a.lasts.length cX)) 38 (0, 0)) ∧ (wf.setCell ⟨u, 22, none⟩ (.slice A6 (i + 1) c6)).heap[u]? = some (.cells (a.cells (.slice A6 (i + 1) c6) (.slice AL a.list.length cL) (.slice AP a.pairs.length cP) (.slice AX a.lasts.length cX)) 38 (0, 0)) ∧ (wf.setCell ⟨u, 22, none⟩ (.slice A6 (i + 1) c6)).heap[q]? = some (.cells Z 38 (0, 0)) ∧ Below w.heap.size w (wf.setCell ⟨u, 22, none⟩ (.slice A6 (i + 1) c6))) := Lib.hid ⟨_, hEf.set huf farG, (farG p HNE.out.1).trans hpf, by rw [Joins.block_setCell huf _, set_e], (farG q HNE.out.2.1).trans hqf, hBf.setCell (p := ⟨u, 22, none⟩) hBu _⟩
      have HR5 := Lib.hid hr5
      have HR6 := Lib.hid hr6
      have HWA := Lib.hid hwa
      have HWD := Lib.hid hwd
      have HEB := Lib.hid heb
      clear hR hE hpz huz hqz hBz he hbl hli hwa hba hea hsa hbl2 hbz2 hii z0 z1 z2 hr5 ho5 hb5 heb hec hwd farD hed hsd hbc hbd hEd hpd hud hqd hBd hod hrdef hrv hbe hx1 hie ze0 ze1 ze2 hrl hr6 ho6 hg6 hlen6 hw6 notM hpf huf hqf hBf hEf farG
      go_upto_region 7 with fail
      rw [← HWA.out, ← HEB.out]
      clear HWA HEB p22 y0 y1 y2 y3
      go_upto_region 8 with (at_builtin; go_must (refine Lib.wpList_append_run _ rfl (.tmp 20) (.tmp 26) 32 32 rfl _ _ rfl rfl _ _ HR5.out ?_))
      rw [← HWD.out]
      clear HWD HR5 p22' y3' e3 g3
      go_wp2_with (at_builtin; go_must (refine Lib.wpList_append_run _ rfl (.tmp 30) (.tmp 32) 31 31 rfl _ _ rfl rfl _ _ HR6.out ?_))
      exact ⟨⟨i + 1, A6, c6, by go_num, hil, HF⟩, by simp [intOf]; omega⟩
    · skip
      have a1 : ¬ (i : Int) < (a.entries.length : Int) := by omega
      have hie : i = a.entries.length := by omega
      subst hie
      rw [List.take_length] at hE
      have HEZ := Lib.hid hE
      have HXZ := Lib.hid (And.intro hpz (And.intro huz hqz))
      have HBW := Lib.hid hBz
      clear hE hpz huz hqz hBz hR hi hil
      obtain ⟨il, hil, z0, z1, z2⟩ := info_parts info_cint
      have hNl := HN.out.l
      obtain ⟨Al, cl, w5l, hrl, hol, hbl⟩ := lit_app (R := inR) (B := w.heap.size) (t := 32) Try.underlying32 hil z0 z1 z2 rfl (by decide) (H0.out.l.grow HBW.out) (by unfold maxLen; omega) (by omega) HBW.out.size
      have hall : Below wz.heap.size wz (wz.alloc (.cells #[] 3)) := (Below.refl _ _).alloc (Nat.le_refl _) _
      have c23 : (wz.alloc (.cells #[] 3)).cell? ⟨p, 23, none⟩ = some (.slice AL a.list.length cL) := ((hall.cell (p := ⟨p, 23, none⟩) (lt_of_heap HXZ.out.1)).trans ((blk_cells HXZ.out.1).1 23)).trans (mc_23 _ _ _ _ _)
      have hpl := (hbl.block p (lt_of_heap HXZ.out.1)).trans HXZ.out.1
      have hul := (hbl.block u (lt_of_heap HXZ.out.2.1)).trans HXZ.out.2.1
      have hql := (hbl.block q (lt_of_heap HXZ.out.2.2)).trans HXZ.out.2.2
      have e23 : w5l.cell? ⟨u, 23, none⟩ = some (.slice AL a.list.length cL) := ((blk_cells hul).1 23).trans (mc_23 _ _ _ _ _)
      have f23 : w5l.frozen? ⟨u, 23, none⟩ = false := (blk_cells hul).2 23
      obtain ⟨w6l, hwl⟩ : ∃ w6l, w6l = w5l.setCell ⟨u, 23, none⟩ (.slice Al a.list.length cl) := ⟨_, rfl⟩
      have farl : ∀ b, b ≠ u → w6l.heap[b]? = w5l.heap[b]? := fun b hb => by rw [hwl]; exact Below.heap_setCell w5l ⟨u, 23, none⟩ _ b hb
      have huul : w6l.heap[u]? = some (.cells (a.cells (.slice Av a.entries.length cv) (.slice Al a.list.length cl) (.slice AP a.pairs.length cP) (.slice AX a.lasts.length cX)) 38 (0, 0)) := by rw [hwl, Joins.block_setCell hul _, set_l]
      have hppl := (farl p HNE.out.1).trans hpl
      have hqql := (farl q HNE.out.2.1).trans hql
      have hbwl : Below w.heap.size w w6l := (HBW.out.trans (Joins.below_le hbl HBW.out.size)).trans (by rw [hwl]; exact Below.setCell (p := ⟨u, 23, none⟩) (Below.refl _ _) hBu _)
      have hEl := (HEZ.out.below hbl).set hul farl
      have hol2 := own_set hol hul (by decide) farl
      have HEl := Lib.hid hEl
      have HXl := Lib.hid (And.intro hppl (And.intro huul hqql))
      have HBWl := Lib.hid hbwl
      have HWl := Lib.hid hwl
      have HRl := Lib.hid hrl
      have Hrowl := Lib.hid hol2
      clear hil z0 z1 z2 hrl hol hbl hall hpl hul hql hwl farl huul hppl hqql hbwl hEl hol2 hNl
      go_upto_region 10 with (at_builtin; go_must (refine Lib.wpList_append_run _ rfl (.tmp 35) (.tmp 37) 32 32 rfl _ _ rfl rfl _ _ HRl.out ?_))
      rw [← HWl.out]
      clear HWl HRl c23 e23 f23
      obtain ⟨ip, hip, z0, z1, z2⟩ := info_parts info_cPair
      have hNp := HN.out.p
      obtain ⟨Ap, cp, w5p, hrp, hop, hbp⟩ := lit_app (R := pairR) (B := w.heap.size) (t := 33) Try.underlying33 hip z0 z1 z2 rfl (by decide) (H0.out.p.grow HBWl.out) (by unfold maxLen; omega) (by omega) HBWl.out.size
      have halp : Below w6l.heap.size w6l (w6l.alloc (.cells #[] 67)) := (Below.refl _ _).alloc (Nat.le_refl _) _
      have c27 : (w6l.alloc (.cells #[] 67)).cell? ⟨p, 27, none⟩ = some (.slice AP a.pairs.length cP) := ((halp.cell (p := ⟨p, 27, none⟩) (lt_of_heap HXl.out.1)).trans ((blk_cells HXl.out.1).1 27)).trans (mc_27 _ _ _ _ _)
      have hpp := (hbp.block p (lt_of_heap HXl.out.1)).trans HXl.out.1
      have hup := (hbp.block u (lt_of_heap HXl.out.2.1)).trans HXl.out.2.1
      have hqp := (hbp.block q (lt_of_heap HXl.out.2.2)).trans HXl.out.2.2
      have e27 : w5p.cell? ⟨u, 27, none⟩ = some (.slice AP a.pairs.length cP) := ((blk_cells hup).1 27).trans (mc_27 _ _ _ _ _)
      have f27 : w5p.frozen? ⟨u, 27, none⟩ = false := (blk_cells hup).2 27
      obtain ⟨w6p, hwp⟩ : ∃ w6p, w6p = w5p.setCell ⟨u, 27, none⟩ (.slice Ap a.pairs.length cp) := ⟨_, rfl⟩
      have farp : ∀ b, b ≠ u → w6p.heap[b]? = w5p.heap[b]? := fun b hb => by rw [hwp]; exact Below.heap_setCell w5p ⟨u, 27, none⟩ _ b hb
      have huup : w6p.heap[u]? = some (.cells (a.cells (.slice Av a.entries.length cv) (.slice Al a.list.length cl) (.slice Ap a.pairs.length cp) (.slice AX a.lasts.length cX)) 38 (0, 0)) := by rw [hwp, Joins.block_setCell hup _, set_p]
      have hppp := (farp p HNE.out.1).trans hpp
      have hqqp := (farp q HNE.out.2.1).trans hqp
      have hbwp : Below w.heap.size w w6p := (HBWl.out.trans (Joins.below_le hbp HBWl.out.size)).trans (by rw [hwp]; exact Below.setCell (p := ⟨u, 27, none⟩) (Below.refl _ _) hBu _)
      have hEp := (HEl.out.below hbp).set hup farp
      have hrowlp := own_set (Hrowl.out.below hbp) hup (by decide) farp
      have hop2 := own_set hop hup (by decide) farp
      have HEp := Lib.hid hEp
      have HXp := Lib.hid (And.intro hppp (And.intro huup hqqp))
      have HBWp := Lib.hid hbwp
      have HWp := Lib.hid hwp
      have HRp := Lib.hid hrp
      replace Hrowl := Lib.hid hrowlp
      have Hrowp := Lib.hid hop2
      clear hip z0 z1 z2 hrp hop hbp halp hpp hup hqp hwp farp huup hppp hqqp hbwp hEp hop2 hNp hrowlp
      go_upto_region 11 with (at_builtin; go_must (refine Lib.wpList_append_run _ rfl (.tmp 40) (.tmp 42) 33 33 rfl _ _ rfl rfl _ _ HRp.out ?_))
      rw [← HWp.out]
      clear HWp HRp c27 e27 f27
      obtain ⟨ix, hix, z0, z1, z2⟩ := info_parts info_cLast
      have hNx := HN.out.x
      obtain ⟨Ax, cx, w5x, hrx, hox, hbx⟩ := lit_app (R := lastR) (B := w.heap.size) (t := 34) Try.underlying34 hix z0 z1 z2 rfl (by decide) (H0.out.x.grow HBWp.out) (by unfold maxLen; omega) (by omega) HBWp.out.size
      have halx : Below w6p.heap.size w6p (w6p.alloc (.cells #[] 88)) := (Below.refl _ _).alloc (Nat.le_refl _) _
      have c28 : (w6p.alloc (.cells #[] 88)).cell? ⟨p, 28, none⟩ = some (.slice AX a.lasts.length cX) := ((halx.cell (p := ⟨p, 28, none⟩) (lt_of_heap HXp.out.1)).trans ((blk_cells HXp.out.1).1 28)).trans (mc_28 _ _ _ _ _)
      have hpx := (hbx.block p (lt_of_heap HXp.out.1)).trans HXp.out.1
      have hux := (hbx.block u (lt_of_heap HXp.out.2.1)).trans HXp.out.2.1
      have hqx := (hbx.block q (lt_of_heap HXp.out.2.2)).trans HXp.out.2.2
      have e28 : w5x.cell? ⟨u, 28, none⟩ = some (.slice AX a.lasts.length cX) := ((blk_cells hux).1 28).trans (mc_28 _ _ _ _ _)
      have f28 : w5x.frozen? ⟨u, 28, none⟩ = false := (blk_cells hux).2 28
      obtain ⟨w6x, hwx⟩ : ∃ w6x, w6x = w5x.setCell ⟨u, 28, none⟩ (.slice Ax a.lasts.length cx) := ⟨_, rfl⟩
      have farx : ∀ b, b ≠ u → w6x.heap[b]? = w5x.heap[b]? := fun b hb => by rw [hwx]; exact Below.heap_setCell w5x ⟨u, 28, none⟩ _ b hb
      have huux : w6x.heap[u]? = some (.cells (a.cells (.slice Av a.entries.length cv) (.slice Al a.list.length cl) (.slice Ap a.pairs.length cp) (.slice Ax a.lasts.length cx)) 38 (0, 0)) := by rw [hwx, Joins.block_setCell hux _, set_x]
      have hppx := (farx p HNE.out.1).trans hpx
      have hqqx := (farx q HNE.out.2.1).trans hqx
      have hbwx : Below w.heap.size w w6x := (HBWp.out.trans (Joins.below_le hbx HBWp.out.size)).trans (by rw [hwx]; exact Below.setCell (p := ⟨u, 28, none⟩) (Below.refl _ _) hBu _)
      have hEx := (HEp.out.below hbx).set hux farx
      have hrowlx := own_set (Hrowl.out.below hbx) hux (by decide) farx
      have hrowpx := own_set (Hrowp.out.below hbx) hux (by decide) farx
      have hox2 := own_set hox hux (by decide) farx
      have HEx := Lib.hid hEx
      have HXx := Lib.hid (And.intro hppx (And.intro huux hqqx))
      have HBWx := Lib.hid hbwx
      have HWx := Lib.hid hwx
      have HRx := Lib.hid hrx
      replace Hrowl := Lib.hid hrowlx
      replace Hrowp := Lib.hid hrowpx
      have Hrowx := Lib.hid hox2
      clear hix z0 z1 z2 hrx hox hbx halx hpx hux hqx hwx farx huux hppx hqqx hbwx hEx hox2 hNx hrowlx hrowpx
      go_upto_region 12 with (at_builtin; go_must (refine Lib.wpList_append_run _ rfl (.tmp 45) (.tmp 47) 34 34 rfl _ _ rfl rfl _ _ HRx.out ?_))
      rw [← HWx.out]
      clear HWx HRx c28 e28 f28
      have huf := HXx.out.2.1
      have hqf := HXx.out.2.2
      have hZs : Z.size = 33 := by rw [HZ.out]; rfl
      go_wp2_with (first
        | (refine wpList_load_row rfl 38 (.tmp 3) rfl u rfl 38 (a.cells (.slice Av a.entries.length cv) (.slice Al a.list.length cl) (.slice Ap a.pairs.length cp) (.slice Ax a.lasts.length cx)) (0, 0) _ huf Try.underlying38 rfl (msg_sized _ _ _ _ _) ?_)
        | (refine wpList_store_row rfl 38 (.tmp 2) (.tmp 50) rfl q (a.cells (.slice Av a.entries.length cv) (.slice Al a.list.length cl) (.slice Ap a.pairs.length cp) (.slice Ax a.lasts.length cx)) rfl rfl 38 Z hqf (msg_sized _ _ _ _ _) hZs (cells_one _ _ _ _ _ _ _ _ _ _ _ _ _) ?_))
      have hfin := setRow_heap w6x q Z (a.cells (.slice Av a.entries.length cv) (.slice Al a.list.length cl) (.slice Ap a.pairs.length cp) (.slice Ax a.lasts.length cx)) _ _ hqf
      have hfar : ∀ b, b ≠ q → (w6x.setRow q (a.cells (.slice Av a.entries.length cv) (.slice Al a.list.length cl) (.slice Ap a.pairs.length cp) (.slice Ax a.lasts.length cx))).heap[b]? = w6x.heap[b]? := fun b hb => setRow_other w6x q b _ hb
      have hBq : w.heap.size ≤ q := by have h2 := HQ.out; omega
      refine bodyPost_ret (v := .agg (a.cells (.slice Av a.entries.length cv) (.slice Al a.list.length cl) (.slice Ap a.pairs.length cp) (.slice Ax a.lasts.length cx))) ?_ rfl ⟨_, _, _, _, rfl, ⟨(HEx.out.set hqf hfar).n, (own_set Hrowl.out hqf (by decide) hfar).n.any, (own_set Hrowp.out hqf (by decide) hfar).n.any, (own_set Hrowx.out hqf (by decide) hfar).n.any⟩, below_setRow HBWx.out hBq _⟩
      exact results_cell_row rfl _ _ q 38 (a.cells (.slice Av a.entries.length cv) (.slice Al a.list.length cl) (.slice Ap a.pairs.length cp) (.slice Ax a.lasts.length cx)) (0, 0) _ rfl hfin Try.underlying38 rfl (msg_sized _ _ _ _ _)
end Go.Proofs.Ytblbcoknefgcaaa
