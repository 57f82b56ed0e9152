/-
  Whether an entry may be, its bytes, and the entry of any bytes: the law, walked. No statement is proved here. No condition.
-/
import Derived.Test.YtackfigkhjdidaaLEntriesM
namespace Go.Proofs.Ytackfigkhjdidaa
open Go.RowKit

/-- an entry lies in a block -/
def EntB (w : World) (q : Nat) (x : EN) (A : Option Addr) (c : Nat) : Prop := w.heap[q]? = some (.cells #[.int .i64 x.term, .int .u8 x.kind, .string x.data, .slice A x.list.length c] 50 (0, 0))
theorem EntB.cells {w : World} {q : Nat} {x : EN} {A : Option Addr} {c : Nat} (h : EntB w q x A c) : w.cell? ⟨q, 0, none⟩ = some (.int .i64 x.term) ∧ w.cell? ⟨q, 1, none⟩ = some (.int .u8 x.kind) ∧ w.cell? ⟨q, 2, none⟩ = some (.string x.data) ∧ w.cell? ⟨q, 3, none⟩ = some (.slice A x.list.length c) := ⟨(blk_cells h).1 0, (blk_cells h).1 1, (blk_cells h).1 2, (blk_cells h).1 3⟩
theorem EntB.below {w w' : World} {q : Nat} {x : EN} {A : Option Addr} {c : Nat} (h : EntB w q x A c) (hb : Below w.heap.size w w') : EntB w' q x A c := (hb.block q (lt_of_heap h)).trans h
theorem EntB.new (w : World) (x : EN) (A : Option Addr) (c : Nat) : EntB (w.alloc (.cells #[.int .i64 x.term, .int .u8 x.kind, .string x.data, .slice A x.list.length c] 50)) w.heap.size x A c := heap_alloc_new w _
theorem made_ent (w : World) (x : EN) (A : Option Addr) (c : Nat) : ∃ w', w' = w.alloc (.cells #[.int .i64 x.term, .int .u8 x.kind, .string x.data, .slice A x.list.length c] 50) ∧ EntB w' w.heap.size x A c ∧ Below w.heap.size w w' := ⟨_, rfl, EntB.new w x A c, (Below.refl _ _).alloc (Nat.le_refl _) _⟩
/-- while the list that was read is spoilt -/
structure SpL (wq wr : World) (B n : Nat) (A9 : Option Addr) (c9 : Nat) : Prop where
  own0 : ∃ L : List Int, inR.Own wq B 3 (.slice A9 n c9) L
  own : ∃ L : List Int, L.length = n ∧ inR.Own wr B 3 (.slice A9 n c9) L
  far : ∀ b, (Value.slice A9 n c9).ownBlock ≠ some b → wr.heap[b]? = wq.heap[b]?
  size : wr.heap.size = wq.heap.size
  bel : Below B wq wr
theorem SpL.ent {wq wr : World} {B n q : Nat} {A9 : Option Addr} {c9 : Nat} {y : EN} {A : Option Addr} {c : Nat} (h : SpL wq wr B n A9 c9) (he : EntB wq q y A c) : EntB wr q y A c := (h.far q fun e => by
  obtain ⟨L, hO⟩ := h.own0
  obtain ⟨cur, hc⟩ := row_type hO e
  exact apart_T hc he (by decide) rfl).trans he
theorem SpL.list {wq wr : World} {B n C : Nat} {A9 : Option Addr} {c9 : Nat} {v : Value} {l : List Int} (h : SpL wq wr B n A9 c9) (ho : inR.Own wq C 3 v l) (hC : ∀ b, (Value.slice A9 n c9).ownBlock = some b → b < C) : inR.Own wr C 3 v l :=
  row_same ho fun b hb => h.far b fun e => by
    have := (ho.lt b hb).1
    have := hC b e
    omega
set_option maxHeartbeats 8000000 in
set_option maxRecDepth 100000 in
theorem entries_walk (x : EN) (A : Option Addr) (c : Nat) (lb : List UInt8) (vb : Value) (w : World) (h : inR.N w Any (.slice A x.list.length c) x.list) (hll : x.list.length ≤ 17592186044416) (hdd : x.data.size ≤ 140737488355328) (hr : Rd w w.heap.size vb lb) (hlb : lb.length ≤ 140737488355328) :
    Calls Try.prog 8 #[x.agg (.slice A x.list.length c), vb] w fun e w' => e = .returned (.bool true) ∧ Below w.heap.size w w' := by
  unfold EN.agg
  obtain ⟨w1, hw1, he1, hb1⟩ := made_ent w x A c
  obtain ⟨p, hp⟩ : ∃ p, p = w.heap.size := ⟨_, rfl⟩
  rw [← hp] at he1
  obtain ⟨w2, hw2, he2, hb2⟩ := made_ent w1 x A c
  have hs1 : w1.heap.size = p + 1 := by rw [hw1, hp]; simp
  have hB2 := hb1.trans (Joins.below_le hb2 hb1.size)
  have cL := long_any [x] _ w2 (one_entN he2 ((h.grow hb1).grow hb2)) (by simp) (fun e he => by
    have he := List.mem_singleton.1 he
    subst he
    omega)
  have hr0 := hr
  obtain ⟨Ab, cb, hvb, -, -, -, -⟩ := hr0
  -- what stays: the boxed entry, its list, the bytes
  have hkeep : ∀ W, Below w1.heap.size w1 W → EntB W p x A c ∧ inR.N W Any (.slice A x.list.length c) x.list ∧ Rd W W.heap.size vb lb ∧ Below w.heap.size w W := fun W hW => by
    have hB := hb1.trans (Joins.below_le hW hb1.size)
    exact ⟨he1.below hW, (h.grow hb1).grow hW, hr.below hB hB.size, hB⟩
  subst hvb
  have HK := Lib.hid hkeep
  have HB2 := Lib.hid (And.intro hb2 hB2)
  have HW1 := Lib.hid hw1
  have HW2 := Lib.hid hw2
  have HP := Lib.hid hp
  have HS := Lib.hid hs1
  obtain ⟨x0, x1, x2, x3⟩ := he1.cells
  rw [hw2, hs1] at cL
  clear hw1 hb1 he1 hp hw2 hb2 he2 hs1 hB2 hkeep hr h
  go_enter Try.func8, Try.ntmps8
  go_upto_region 1 with fail
  rw [← HW1.out, ← HP.out]
  go_wp2_with fail
  rw [HS.out]
  refine cL.mono ?_
  rintro e w3 ⟨rfl, hb3⟩
  rw [← HW2.out] at hb3
  clear cL x0 x1 x2 x3
  have HB3 := Lib.hid (HB2.out.1.trans (Joins.below_le hb3 HB2.out.1.size))
  clear hb3 HB2 HW2 HW1
  cases hlong : longB [x]
  case true =>
    clear hlong
    have cA := awake_any w3
    have HB := Lib.hid (HK.out w3 HB3.out).2.2.2
    go_wp2_with fail
    refine cA.mono ?_
    rintro e w4 ⟨rfl, hb4⟩
    have HF := Lib.hid (HB.out.trans (Joins.below_le hb4 HB.out.size))
    clear cA hb4
    go_wp2_with fail
    go_ret
    exact ⟨rfl, HF.out⟩
  clear hlong
  by_cases hlen : (lb.length : Int) > 5000
  · have cA := awake_any w3
    have HB := Lib.hid (HK.out w3 HB3.out).2.2.2
    go_wp2_with fail
    refine cA.mono ?_
    rintro e w4 ⟨rfl, hb4⟩
    have HF := Lib.hid (HB.out.trans (Joins.below_le hb4 HB.out.size))
    clear cA hb4
    go_wp2_with fail
    go_ret
    exact ⟨rfl, HF.out⟩
  have hlen2 : lb.length ≤ 5000 := by omega
  -- the twin
  obtain ⟨x0, x1, x2, x3⟩ := (HK.out w3 HB3.out).1.cells
  have cT := twinD_any x (.slice A x.list.length c) w3 (HK.out w3 HB3.out).2.1 hll
  unfold EN.agg at cT
  go_upto_region 3 with fail
  go_wp2_with fail
  refine cT.mono ?_
  rintro e w4 ⟨A5, c5, rfl, ho4, hb4⟩
  clear cT x0 x1 x2 x3
  have hb14 := HB3.out.trans (Joins.below_le hb4 HB3.out.size)
  obtain ⟨A6, c6, w5, hap, hr5, hb5⟩ := lit_bytes' (HK.out w4 hb14).2.2.1 (by omega)
  have hb15 := hb14.trans (Joins.below_le hb5 hb14.size)
  obtain ⟨w6, hw6, he6, hb6⟩ := made_ent w5 x A5 c5
  obtain ⟨q5, hq5⟩ : ∃ q5, q5 = w5.heap.size := ⟨_, rfl⟩
  rw [← hq5] at he6
  have hb16 := hb15.trans (Joins.below_le hb6 hb15.size)
  -- behind: the twin in its block, its list, the bytes of one's own
  have hkeep6 : ∀ W, Below w6.heap.size w6 W → (EntB W q5 x A5 c5 ∧ inR.N W Any (.slice A5 x.list.length c5) x.list ∧ Rd W W.heap.size (.slice A6 lb.length c6) lb) ∧ Below w1.heap.size w1 W := fun W hW => by
    exact ⟨⟨he6.below hW, ((ho4.n.any.grow hb5).grow hb6).grow hW, ((hr5.below hb6 hb6.size).below hW hW.size)⟩, hb16.trans (Joins.below_le hW hb16.size)⟩
  have HK6 := Lib.hid hkeep6
  have HAP := Lib.hid hap
  have HW6 := Lib.hid hw6
  have HQ5 := Lib.hid hq5
  clear ho4 hb4 hb14 hap hr5 hb5 hb15 hw6 he6 hb6 hq5 hb16 hkeep6 HB3
  go_upto_region 4 with (at_builtin; go_must (refine Lib.wpList_append_run _ rfl (.tmp 29) (.tmp 30) 23 23 rfl _ _ rfl rfl _ _ HAP.out ?_))
  rw [← HW6.out, ← HQ5.out]
  clear HAP HW6 HQ5
  have hb66 := Below.refl w6.heap.size w6
  obtain ⟨x0, x1, x2, x3⟩ := (HK.out w6 (HK6.out w6 hb66).2).1.cells
  have cW := writeD_uni x (.slice A x.list.length c) w6 (HK.out w6 (HK6.out w6 hb66).2).2.1
  unfold EN.agg at cW
  clear hb66
  go_wp2_with fail
  refine cW.mono ?_
  rintro e w7 ⟨A7, c7, rfl, hr7, hb7⟩
  clear cW x0 x1 x2 x3
  obtain ⟨er, her⟩ : ∃ er, er = wEr x := ⟨_, rfl⟩
  obtain ⟨wl, hwl⟩ : ∃ wl, wl = wBy x := ⟨_, rfl⟩
  rw [← hwl] at hr7
  rw [← her, ← hwl]
  have HR7 := Lib.hid (And.intro hr7 hb7)
  have HWL := Lib.hid (And.intro her hwl)
  obtain ⟨x0, x1, x2, x3⟩ := (HK6.out w7 hb7).1.1.cells
  have cW := write_uni x (.slice A5 x.list.length c5) w7 (HK6.out w7 hb7).1.2.1
  unfold EN.agg at cW
  rw [← her, ← hwl] at cW
  clear hr7 hb7 her hwl
  go_wp2_with fail
  refine cW.mono ?_
  rintro e w8 ⟨A8, c8, rfl, hr8, hb8⟩
  clear cW x0 x1 x2 x3
  have HR8 := Lib.hid (And.intro hr8 hb8)
  have HB8 := Lib.hid (HR7.out.2.trans (Joins.below_le hb8 HR7.out.2.size))
  clear hr8 hb8
  -- the entry that the bytes are read as, twice
  have cR := read_any lb _ w8 (HK6.out w8 HB8.out).1.2.2 (by omega)
  go_wp2_with fail
  refine cR.mono ?_
  intro e w9 hpost
  obtain ⟨A9, c9, rfl, ho9, hb9⟩ := hpost.uni
  clear cR hpost
  obtain ⟨y, hy⟩ : ∃ y, y = rEn lb := ⟨_, rfl⟩
  obtain ⟨z, hz⟩ : ∃ z, z = rEr lb := ⟨_, rfl⟩
  rw [← hy] at ho9 ⊢
  rw [← hz]
  have HYZ := Lib.hid (And.intro hy hz)
  unfold EN.agg
  obtain ⟨wa, hwa, hea, hba⟩ := made_ent w9 y A9 c9
  obtain ⟨qa, hqa⟩ : ∃ qa, qa = w9.heap.size := ⟨_, rfl⟩
  rw [← hqa] at hea
  have hb8a := hb9.trans (Joins.below_le hba hb9.size)
  have hoa := ho9.below hba
  have HOA := Lib.hid (And.intro hoa (And.intro hea hb8a))
  have HWA := Lib.hid hwa
  have HQA := Lib.hid hqa
  have HBA := Lib.hid (HB8.out.trans (Joins.below_le hb8a HB8.out.size))
  clear ho9 hb9 hy hz hwa hea hba hqa hb8a hoa
  go_upto_region 7 with fail
  rw [← HWA.out, ← HQA.out]
  clear HWA HQA
  have cR := read_any lb _ wa (HK6.out wa HBA.out).1.2.2 (by omega)
  go_wp2_with fail
  refine cR.mono ?_
  intro e wb hpost
  obtain ⟨Ab2, cb2, rfl, hob, hbb⟩ := hpost.uni
  clear cR hpost
  rw [← HYZ.out.1] at hob ⊢
  rw [← HYZ.out.2]
  unfold EN.agg
  obtain ⟨wc, hwc, hec, hbc⟩ := made_ent wb y Ab2 cb2
  obtain ⟨qc, hqc⟩ : ∃ qc, qc = wb.heap.size := ⟨_, rfl⟩
  rw [← hqc] at hec
  have hbac := hbb.trans (Joins.below_le hbc hbb.size)
  have hoc := hob.below hbc
  have HOC := Lib.hid (And.intro hoc (And.intro hec hbac))
  have HWC := Lib.hid hwc
  have HQC := Lib.hid hqc
  have HBC := Lib.hid (HBA.out.trans (Joins.below_le hbac HBA.out.size))
  clear hob hbb hwc hec hbc hqc hbac hoc
  go_upto_region 8 with fail
  rw [← HWC.out, ← HQC.out]
  clear HWC HQC
  -- by the document's words
  have cR := readD_any lb _ wc (HK.out wc (HK6.out wc HBC.out).2).2.2.1 (by omega)
  go_wp2_with fail
  refine cR.mono ?_
  intro e wd hpost
  obtain ⟨Ad, cd, rfl, hod, hbd⟩ := hpost.uni
  clear cR hpost
  rw [← HYZ.out.1] at hod ⊢
  rw [← HYZ.out.2]
  unfold EN.agg
  obtain ⟨we, hwe, hee, hbe⟩ := made_ent wd y Ad cd
  obtain ⟨qe, hqe⟩ : ∃ qe, qe = wd.heap.size := ⟨_, rfl⟩
  rw [← hqe] at hee
  have hbce := hbd.trans (Joins.below_le hbe hbd.size)
  have hoe := hod.below hbe
  have HOE := Lib.hid (And.intro hoe (And.intro hee hbce))
  have HWE := Lib.hid hwe
  have HQE := Lib.hid hqe
  have HBE := Lib.hid (HBC.out.trans (Joins.below_le hbce HBC.out.size))
  clear hod hbd hwe hee hbe hqe hbce hoe
  go_upto_region 9 with fail
  rw [← HWE.out, ← HQE.out]
  clear HWE HQE
  obtain ⟨so, hso⟩ : ∃ so : ByteArray, so = ⟨lb.toArray⟩ := ⟨_, rfl⟩
  obtain ⟨sw, hsw⟩ : ∃ sw : ByteArray, sw = ⟨wl.toArray⟩ := ⟨_, rfl⟩
  have hS : ∀ W, Below we.heap.size we W → (EntB W p x A c ∧ EntB W q5 x A5 c5 ∧ EntB W qa y A9 c9 ∧ EntB W qe y Ad cd ∧ (convert 23 9 (.slice A8 wl.length c8)).run Try.prog W = .ok (.string sw) W ∧ (convert 23 9 (.slice A7 wl.length c7)).run Try.prog W = .ok (.string sw) W ∧ (convert 23 9 (.slice A6 lb.length c6)).run Try.prog W = .ok (.string so) W ∧ (convert 23 9 (.slice Ab lb.length cb)).run Try.prog W = .ok (.string so) W) ∧ (inR.N W Any (.slice A x.list.length c) x.list ∧ inR.N W Any (.slice A5 x.list.length c5) x.list ∧ inR.N W Any (.slice A9 y.list.length c9) y.list ∧ inR.N W Any (.slice Ad y.list.length cd) y.list) ∧ Below we.heap.size we W := fun W hW => by
    have h6 := HBE.out.trans (Joins.below_le hW HBE.out.size)
    have k6 := HK6.out W h6
    have k1 := HK.out W k6.2
    have hce := HOE.out.2.2.trans (Joins.below_le hW HOE.out.2.2.size)
    have hae := HOC.out.2.2.trans (Joins.below_le hce HOC.out.2.2.size)
    have h8e := HOA.out.2.2.trans (Joins.below_le hae HOA.out.2.2.size)
    have h7e := HR8.out.2.trans (Joins.below_le h8e HR8.out.2.size)
    have r8 : Rd W W.heap.size (.slice A8 wl.length c8) wl := HR8.out.1.below h8e h8e.size
    have r7 : Rd W W.heap.size (.slice A7 wl.length c7) wl := HR7.out.1.below h7e h7e.size
    exact ⟨⟨k1.1, k6.1.1, HOA.out.2.1.below hae, HOE.out.2.1.below hW, by rw [hsw]; exact conv_str r8, by rw [hsw]; exact conv_str r7, by rw [hso]; exact conv_str k6.1.2.2, by rw [hso]; exact conv_str k1.2.2.1⟩, ⟨k1.2.1, k6.1.2.1, (HOA.out.1.below hae).n.any, (HOE.out.1.below hW).n.any⟩, hW⟩
  have hS2 : ∀ W, Below we.heap.size we W → (W.cell? ⟨p, 0, none⟩ = some (.int .i64 x.term) ∧ W.cell? ⟨p, 1, none⟩ = some (.int .u8 x.kind) ∧ W.cell? ⟨p, 2, none⟩ = some (.string x.data) ∧ W.cell? ⟨p, 3, none⟩ = some (.slice A x.list.length c)) ∧ (W.cell? ⟨q5, 0, none⟩ = some (.int .i64 x.term) ∧ W.cell? ⟨q5, 1, none⟩ = some (.int .u8 x.kind) ∧ W.cell? ⟨q5, 2, none⟩ = some (.string x.data) ∧ W.cell? ⟨q5, 3, none⟩ = some (.slice A5 x.list.length c5)) ∧ (W.cell? ⟨qa, 0, none⟩ = some (.int .i64 y.term) ∧ W.cell? ⟨qa, 1, none⟩ = some (.int .u8 y.kind) ∧ W.cell? ⟨qa, 2, none⟩ = some (.string y.data) ∧ W.cell? ⟨qa, 3, none⟩ = some (.slice A9 y.list.length c9)) ∧ (W.cell? ⟨qe, 0, none⟩ = some (.int .i64 y.term) ∧ W.cell? ⟨qe, 1, none⟩ = some (.int .u8 y.kind) ∧ W.cell? ⟨qe, 2, none⟩ = some (.string y.data) ∧ W.cell? ⟨qe, 3, none⟩ = some (.slice Ad y.list.length cd)) ∧ (convert 23 9 (.slice A8 wl.length c8)).run Try.prog W = .ok (.string sw) W ∧ (convert 23 9 (.slice A7 wl.length c7)).run Try.prog W = .ok (.string sw) W ∧ (convert 23 9 (.slice A6 lb.length c6)).run Try.prog W = .ok (.string so) W ∧ (convert 23 9 (.slice Ab lb.length cb)).run Try.prog W = .ok (.string so) W := fun W hW => by
    obtain ⟨⟨h1, h2, h3, h4, h5⟩, -, -⟩ := hS W hW
    exact ⟨h1.cells, h2.cells, h3.cells, h4.cells, h5⟩
  have HSS := Lib.hid hS
  have HS2 := Lib.hid hS2
  obtain ⟨K, hK⟩ : ∃ K, x.may = K := ⟨_, rfl⟩
  have HKK := Lib.hid hK
  clear hS hso hsw hS2 hK
  have hbe : Below we.heap.size we we.drew := (Below.refl _ _).drew
  have hst := HS2.out _ hbe
  have TOK1 : Hid True := Lib.hid trivial
  go_region_held3 (fun W => (W.cell? ⟨p, 0, none⟩ = some (.int .i64 x.term) ∧ W.cell? ⟨p, 1, none⟩ = some (.int .u8 x.kind) ∧ W.cell? ⟨p, 2, none⟩ = some (.string x.data) ∧ W.cell? ⟨p, 3, none⟩ = some (.slice A x.list.length c)) ∧ (W.cell? ⟨q5, 0, none⟩ = some (.int .i64 x.term) ∧ W.cell? ⟨q5, 1, none⟩ = some (.int .u8 x.kind) ∧ W.cell? ⟨q5, 2, none⟩ = some (.string x.data) ∧ W.cell? ⟨q5, 3, none⟩ = some (.slice A5 x.list.length c5)) ∧ (W.cell? ⟨qa, 0, none⟩ = some (.int .i64 y.term) ∧ W.cell? ⟨qa, 1, none⟩ = some (.int .u8 y.kind) ∧ W.cell? ⟨qa, 2, none⟩ = some (.string y.data) ∧ W.cell? ⟨qa, 3, none⟩ = some (.slice A9 y.list.length c9)) ∧ (W.cell? ⟨qe, 0, none⟩ = some (.int .i64 y.term) ∧ W.cell? ⟨qe, 1, none⟩ = some (.int .u8 y.kind) ∧ W.cell? ⟨qe, 2, none⟩ = some (.string y.data) ∧ W.cell? ⟨qe, 3, none⟩ = some (.slice Ad y.list.length cd)) ∧ (convert 23 9 (.slice A8 wl.length c8)).run Try.prog W = .ok (.string sw) W ∧ (convert 23 9 (.slice A7 wl.length c7)).run Try.prog W = .ok (.string sw) W ∧ (convert 23 9 (.slice A6 lb.length c6)).run Try.prog W = .ok (.string so) W ∧ (convert 23 9 (.slice Ab lb.length cb)).run Try.prog W = .ok (.string so) W) (first | with_reducible exact hst | exact HS2.out _ hbe)
    (first
      | (go_at_call 31; refine (check_flat x A5 c5 K _ HKK.out (HSS.out _ hbe).2.1.2.1).mono ?_; rintro e wy ⟨rfl, hby⟩; replace hbe := hbe.trans (Joins.below_le hby hbe.size); clear hby)
      | (go_at_call 32; refine (checkD_flat x A c K _ HKK.out (HSS.out _ hbe).2.1.1).mono ?_; rintro e wy ⟨rfl, hby⟩; replace hbe := hbe.trans (Joins.below_le hby hbe.size); clear hby)
      | (go_at_call 33; ((with_reducible refine (same_flat y A9 Ad c9 cd _ (HSS.out _ hbe).2.1.2.2.1 (HSS.out _ hbe).2.1.2.2.2).mono ?_); rintro e wy ⟨rfl, hby⟩; replace hbe := hbe.trans (Joins.below_le hby hbe.size); clear hby))
      | (go_at_call 33; ((with_reducible refine (same_flat x A5 A c5 c _ (HSS.out _ hbe).2.1.2.1 (HSS.out _ hbe).2.1.1).mono ?_); rintro e wy ⟨rfl, hby⟩; replace hbe := hbe.trans (Joins.below_le hby hbe.size); clear hby)))
  obtain ⟨wq, hwq⟩ : ∃ wq, wq = wy := ⟨_, rfl⟩
  rw [← hwq] at hbe ⊢
  clear hwq hst
  have hae := HOC.out.2.2.trans (Joins.below_le HOE.out.2.2 HOC.out.2.2.size)
  have haq := hae.trans (Joins.below_le hbe hae.size)
  have hcq := HOE.out.2.2.trans (Joins.below_le hbe HOE.out.2.2.size)
  have hq9 := HOA.out.1.below haq
  have hc9 : ∀ b, (Value.slice A9 y.list.length c9).ownBlock = some b → b < wa.heap.size := fun b hb => (HOA.out.1.lt b hb).2
  have HQ0 : Hid (SpL wq wq w8.heap.size y.list.length A9 c9) := Lib.hid ⟨⟨_, hq9⟩, ⟨_, rfl, hq9⟩, fun _ _ => rfl, rfl, Below.refl _ _⟩
  have HQE : Hid (EntB wq qa y A9 c9 ∧ EntB wq qc y Ab2 cb2 ∧ EntB wq qe y Ad cd ∧ inR.Own wq wa.heap.size 3 (.slice Ab2 y.list.length cb2) y.list ∧ inR.Own wq wc.heap.size 3 (.slice Ad y.list.length cd) y.list) := Lib.hid ⟨HOA.out.2.1.below haq, HOC.out.2.1.below hcq, HOE.out.2.1.below hbe, HOC.out.1.below hcq, HOE.out.1.below hbe⟩
  have HBL : Hid (Below w.heap.size w wq ∧ w.heap.size ≤ w8.heap.size) := Lib.hid (by
    have k8 := (HK.out _ (HK6.out _ HB8.out).2).2.2.2
    have hb8q := HOA.out.2.2.trans (Joins.below_le haq HOA.out.2.2.size)
    exact ⟨k8.trans (Joins.below_le hb8q k8.size), k8.size⟩)
  have HC9 : Hid ((∀ b, (Value.slice A9 y.list.length c9).ownBlock = some b → b < wa.heap.size) ∧ wa.heap.size ≤ wc.heap.size) := Lib.hid ⟨hc9, HOC.out.2.2.size⟩
  have hyl : y.list.length ≤ 9223372036854775807 := by
    obtain ⟨A', c', hv, h1, h2⟩ := hq9.n.slice
    unfold maxLen at h2
    omega
  clear hbe hae haq hcq hq9 hc9 HSS HS2 HOA HOC HOE HBA HBC HBE HB8 HR7 HR8 HK6 HK TOK1
  go_wp2_with fail
  go_loopw [17] (fun s17 wr => ∃ i : Nat, s17 = .int .i64 (i : Int) ∧ i ≤ y.list.length ∧ Hid (SpL wq wr w8.heap.size y.list.length A9 c9)) (fun s17 _ => y.list.length - (intOf s17).toNat)
  case atStart => exact ⟨0, rfl, Nat.zero_le _, HQ0⟩
  case round =>
    clear HQ0
    obtain ⟨i, rfl, hi, hR⟩ := hrel
    obtain ⟨wz, hwz⟩ : ∃ wz : World, wz = wr := ⟨_, rfl⟩
    subst hwz
    by_cases hil : i < y.list.length
    · have a1 : (i : Int) < (y.list.length : Int) := by omega
      have a0 : (0 : Int) ≤ (i : Int) := by omega
      have he := hR.out.ent HQE.out.1
      obtain ⟨L, hL, hO⟩ := hR.out.own
      obtain ⟨xv, hx⟩ : ∃ xv, L[i]? = some xv := ⟨_, List.getElem?_eq_getElem (by omega)⟩
      obtain ⟨g, cg, hv, hgB, hgl, hcell, hfz, hO2⟩ := rec_poke (R := inR) (y := (-1 : Int)) (j := 0) (u := .int .i64 (-1)) hO hx rfl (by decide)
      injection hv with e1 e2 e3
      subst e1 e3
      obtain ⟨-, -, -, y3⟩ := he.cells
      have hii : i * inR.size + 0 = i := by show i * 1 + 0 = i; omega
      have hc0 : wz.cell? ⟨g, i, none⟩ = some (.int .i64 xv) := by rw [← hii]; exact hcell 0 _ rfl
      have hf0 : wz.frozen? ⟨g, i, none⟩ = false := hfz i
      rw [hii] at hO2
      have HN2 : Hid (SpL wq (wz.setCell ⟨g, i, none⟩ (.int .i64 (-1))) w8.heap.size y.list.length (some ⟨g, 0, none⟩) c9) := Lib.hid ⟨hR.out.own0, ⟨L.set i (-1), by simpa using hL, hO2⟩, fun b hb => (Below.heap_setCell wz ⟨g, i, none⟩ _ b fun e => hb (by rw [e]; rfl)).trans (hR.out.far b hb), by rw [← hR.out.size]; simp [World.setCell], hR.out.bel.trans ((Below.refl _ _).setCell hgB _)⟩
      clear hR hL hO hx hcell hfz hO2 hii e2 hgB hgl he
      go_wp2_with fail
      exact ⟨⟨i + 1, by go_num, by omega, HN2⟩, by simp [intOf]; omega⟩
    · have a1 : ¬ (i : Int) < (y.list.length : Int) := by omega
      have he := hR.out.ent HQE.out.1
      obtain ⟨-, -, -, y3⟩ := he.cells
      have hec := hR.out.ent HQE.out.2.1
      have hee := hR.out.ent HQE.out.2.2.1
      have hl1 := hR.out.list HQE.out.2.2.2.1 HC9.out.1
      have hl2 := hR.out.list HQE.out.2.2.2.2 fun b hb => Nat.lt_of_lt_of_le (HC9.out.1 b hb) HC9.out.2
      obtain ⟨u0, u1, u2, u3⟩ := hec.cells
      obtain ⟨v0, v1, v2, v3⟩ := hee.cells
      have cS := same_flat y Ab2 Ad cb2 cd wz hl1.n.any hl2.n.any
      have HB := Lib.hid (HBL.out.1.trans (Joins.below_le hR.out.bel HBL.out.2))
      clear hR he hec hee hl1 hl2 hi hil
      go_wp2_with fail
      refine cS.mono ?_
      rintro e wm ⟨rfl, hbm⟩
      clear cS u0 u1 u2 u3 v0 v1 v2 v3 y3
      have HB2 := Lib.hid (HB.out.trans (Joins.below_le hbm HB.out.size))
      clear hbm HB
      go_wp2_with fail
      refine (awake_any wm).mono ?_
      rintro e wn ⟨rfl, hbn⟩
      have HF := Lib.hid (HB2.out.trans (Joins.below_le hbn HB2.out.size))
      clear hbn
      go_wp2_with fail
      go_ret
      exact ⟨rfl, HF.out⟩
end Go.Proofs.Ytackfigkhjdidaa
