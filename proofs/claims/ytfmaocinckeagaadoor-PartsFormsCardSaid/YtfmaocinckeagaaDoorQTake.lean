/-
  The program's Take. No statement is proved here. Condition: the table reads as the program lays it.
-/
import Derived.Test.YtfmaocinckeagaaDoorQStep
namespace Go.Proofs.YtfmaocinckeagaaDoor
open Go.RowKit

/-- what turns nothing that was there keeps all -/
theorem kept_below {w w' : World} {B : Nat} {F : Nat → Prop} (h : Below B w w') (hB : w.heap.size ≤ B) : Kept w w' F := ⟨h.os, h.tape, h.output, h.size, fun b hb _ => h.block b (Nat.lt_of_lt_of_le hb hB)⟩
theorem findP_in {L : List KE} (h : (L.map KE.key).Nodup) {x : KE} (hx : x ∈ L) : findP (L.map KE.k) x.key x.parts.length = some x.k := by
  unfold findP
  cases hf : (L.map KE.k).find? (fun k => decide (k.key = x.key ∧ k.parts.length = x.parts.length)) with
  | none =>
    have := List.find?_eq_none.1 hf x.k (List.mem_map_of_mem hx)
    exact absurd (show decide (x.k.key = x.key ∧ x.k.parts.length = x.parts.length) = true from decide_eq_true ⟨rfl, rfl⟩) this
  | some y =>
    have h1 := List.find?_some hf
    obtain ⟨z, hz, rfl⟩ := List.mem_map.1 (List.mem_of_find?_eq_some hf)
    rw [decide_eq_true_eq] at h1
    rw [key_one h hz hx h1.1]
theorem findP_not {L : List KE} {key : Key} {m : Nat} (h : ∀ y ∈ L, y.key = key → y.parts.length ≠ m) : findP (L.map KE.k) key m = none := by
  unfold findP
  rw [List.find?_eq_none]
  intro y hy
  obtain ⟨z, hz, rfl⟩ := List.mem_map.1 hy
  rw [decide_eq_true_eq]
  exact fun e => h z hz e.1 e.2
theorem set_mem {L : List KE} {x X : KE} (hx : x ∈ L) (h : X.key = x.key) : X ∈ setL L X := by
  unfold setL
  exact List.mem_map.2 ⟨x, hx, by rw [if_pos h.symm]⟩
theorem dropP_set {J : List KP} {k : KP} {key : Key} (h : k.key = key) : dropP (setP J k) key = dropP J key := by
  subst h
  unfold dropP setP
  induction J with
  | nil => rfl
  | cons a J ih =>
    rw [List.map_cons, List.filter_cons, List.filter_cons, ih]
    by_cases ha : a.key = k.key
    · rw [if_pos ha]
      simp [ha]
    · rw [if_neg ha]
/-- what a Take of a packet comes to -/
def JTakePost (w : World) (G : Nat → Prop) (j mb n : Nat) (out : Option (List UInt8)) (J' : List KP) (r : Ending) (w' : World) : Prop :=
  ∃ v k rv' n' L', L'.map KE.k = J' ∧ r = .returned (.tuple #[v, .bool out.isSome, .int .i64 0]) ∧ w'.ownsRow w.heap.size 5 1 v k (BS (out.getD [])) ∧ JAt w' G j mb rv' n' L' ∧ n' ≤ n + 1 ∧ Kept w w' G
set_option maxHeartbeats 4000000 in
set_option maxRecDepth 100000 in
theorem ptake_no (l : List UInt8) (v : Value) (frm : Int) (j : Nat) (er : Int) (w : World) (ht : Tab w) (hv : Rd w w.heap.size v l) (hl : l.length ≤ 140737488355328) (hr : readP l = (er, none)) (he : er ≠ 0) :
    Calls Tryd.prog 13 #[.pointer (some ⟨j, 0, none⟩), .int .i64 frm, v] w fun r w' => r = .returned (.tuple #[.slice none 0 0, .bool false, .int .i64 er]) ∧ Below w.heap.size w w' := by
  have cR := read_any l v w ht hv hl
  rw [hr] at cR
  obtain ⟨A, c, rfl, -⟩ := hv
  unfold partO partV at cR
  have a1 : (er != 0) = true := by simpa using he
  clear hr ht
  go_enter Tryd.func13, Tryd.ntmps13
  go_wp2_with fail
  refine cR.mono ?_
  rintro r w1 ⟨rfl, hb1⟩
  have HB1 := Lib.hid hb1
  clear cR hb1
  dsimp only
  obtain ⟨w2, hw2⟩ : ∃ w2, w2 = w1.alloc (.cells #[.int .i64 0, .int .i64 0, .int .i64 0, .string (tx [])] 58) := ⟨_, rfl⟩
  have hb2 : Below w.heap.size w w2 := by rw [hw2]; exact HB1.out.alloc HB1.out.size _
  have HB2 := Lib.hid hb2
  have HW2 := Lib.hid hw2
  clear hb2 hw2
  go_upto_region 4 with fail
  rw [← HW2.out]
  go_wp2_with fail
  go_ret3
  exact ⟨rfl, HB2.out⟩
set_option maxHeartbeats 16000000 in
set_option maxRecDepth 100000 in
theorem ptake_any {w : World} {G : Nat → Prop} {j mb n : Nat} {rv : Value} {L : List KE} (h : JAt w G j mb rv n L) (hJ : okJ (L.map KE.k)) (l : List UInt8) (v : Value) (frm : Int) (hf : I64 frm) (p : Part) (ht : Tab w) (hv : Rd w w.heap.size v l) (hl : l.length ≤ 140737488355328) (hr : readP l = (0, some p)) (hn : n < maxLen) (hfr : ∀ b, w.heap.size ≤ b → G b) :
    Calls Tryd.prog 13 #[.pointer (some ⟨j, 0, none⟩), .int .i64 frm, v] w (JTakePost w G j mb n (stepJ (L.map KE.k) (frm, (p.number : Int)) p).1 (stepJ (L.map KE.k) (frm, (p.number : Int)) p).2) := by
  obtain ⟨-, hp⟩ := readP_ok hr
  have cR := read_any l v w ht hv hl
  rw [hr] at cR
  obtain ⟨A, c, rfl, -⟩ := hv
  obtain ⟨f1, f2, f3⟩ := Part.facts hp
  have hpm := hp.many
  have hgood : Key.good (frm, (p.number : Int)) := good_of hf (by have := hp.number; unfold I64; omega)
  unfold partO partV at cR
  have H := Lib.hid h
  have HJ := Lib.hid hJ
  have HP := Lib.hid hp
  have HFR := Lib.hid hfr
  obtain ⟨OUT, J', hst⟩ : ∃ OUT J', stepJ (L.map KE.k) (frm, (p.number : Int)) p = (OUT, J') := ⟨_, _, rfl⟩
  rw [hst]
  have HST := Lib.hid hst
  clear hr ht h hJ hp hfr hst
  go_enter Tryd.func13, Tryd.ntmps13
  go_wp2_with fail
  refine cR.mono ?_
  rintro r w1 ⟨rfl, hb1⟩
  clear cR
  dsimp only
  obtain ⟨P, hP⟩ : ∃ P, P = w1.heap.size := ⟨_, rfl⟩
  obtain ⟨w2, hw2⟩ : ∃ w2, w2 = w1.alloc (.cells #[.int .i64 (p.number : Int), .int .i64 (p.place : Int), .int .i64 (p.many : Int), .string (tx p.data)] 58) := ⟨_, rfl⟩
  have hb2 : Below w.heap.size w w2 := by rw [hw2]; exact hb1.alloc hb1.size _
  have hx2 : w2.heap[P]? = some (.cells #[.int .i64 (p.number : Int), .int .i64 (p.place : Int), .int .i64 (p.many : Int), .string (tx p.data)] 58 (0, 0)) := by rw [hw2, hP]; exact heap_alloc_new w1 _
  obtain ⟨x0, x2⟩ : w2.cell? ⟨P, 0, none⟩ = some (.int .i64 (p.number : Int)) ∧ w2.cell? ⟨P, 2, none⟩ = some (.int .i64 (p.many : Int)) := ⟨(blk_cells hx2).1 0, (blk_cells hx2).1 2⟩
  have hPw : w.heap.size ≤ P := by rw [hP]; exact hb1.size
  have HW2 := Lib.hid hw2
  have HP2 := Lib.hid hP
  have HX2 := Lib.hid hx2
  have HB2 := Lib.hid hb2
  clear hw2 hP hx2 hb2 hb1
  go_upto_region 4 with fail
  rw [← HW2.out, ← HP2.out]
  obtain ⟨K, hK⟩ : ∃ K, K = w2.heap.size := ⟨_, rfl⟩
  obtain ⟨w3, hw3⟩ : ∃ w3, w3 = w2.alloc (.cells #[.int .i64 frm, .int .i64 (p.number : Int)] 67) := ⟨_, rfl⟩
  have hb23 : Below w2.heap.size w2 w3 := by rw [hw3]; exact (Below.refl _ _).alloc (Nat.le_refl _) _
  have hx3 : w3.heap[K]? = some (.cells #[.int .i64 frm, .int .i64 (p.number : Int)] 67 (0, 0)) := by
    rw [hw3, hK]
    exact heap_alloc_new w2 _
  have hPK : P < K := by rw [hK]; exact (Array.getElem?_eq_some_iff.1 HX2.out).1
  have hx3p := (hb23.block P (by rw [← hK]; exact hPK)).trans HX2.out
  obtain ⟨y0, y1, y2⟩ : w3.cell? ⟨K, 0, none⟩ = some (.int .i64 frm) ∧ w3.cell? ⟨K, 1, none⟩ = some (.int .i64 (p.number : Int)) ∧ w3.cell? ⟨P, 2, none⟩ = some (.int .i64 (p.many : Int)) := ⟨(blk_cells hx3).1 0, (blk_cells hx3).1 1, (blk_cells hx3p).1 2⟩
  have hb3 := HB2.out.trans (Joins.below_le hb23 HB2.out.size)
  have h3 := H.out.tight.grow hb3
  have cM := pmessage_any h3 (frm, (p.number : Int)) hgood p.many (by omega) (by have := HJ.out.most; rw [List.length_map] at this; omega)
  unfold Key.v at cM
  have HW3 := Lib.hid hw3
  have HK := Lib.hid hK
  have HX3 := Lib.hid hx3
  have HX3P := Lib.hid hx3p
  have HB3 := Lib.hid hb3
  have H3 := Lib.hid h3
  clear hw3 hK hx3 hx3p hb3 h3 hb23
  go_upto_region 7 with fail
  rw [← HW3.out, ← HK.out]
  clear x0 x2
  go_wp2_with fail
  refine cM.mono ?_
  rintro r w4 hM4
  have HSUB : Hid (∀ b, foot j mb rv L b → G b) := Lib.hid (fun b hb => (foot_sub H.out hb).1)
  have hKl : K < w3.heap.size := (Array.getElem?_eq_some_iff.1 HX3.out).1
  have hsz3 := HB3.out.size
  clear cM y0 y1 y2
  rcases hM4 with ⟨x, hxL, hxk, hxl, rfl, hb4⟩ | ⟨hno, rv4, p4, s4, rfl, hJ4, hM, hp4, hs4, hK4⟩
  · have hJ4 := H3.out.grow hb4
    have hmx := hJ4.msg x hxL
    have hxp := (H.out.msg x hxL).ltp
    have hxs := (H.out.msg x hxL).lts
    have hok := HJ.out.each x.k (List.mem_map_of_mem hxL)
    have hplt : p.place < x.parts.length := by omega
    have cA := padd_any hmx p.number p.place p.many p.data hplt (by have := hok.1.left; show x.k.left ≤ _; omega) hok.2 (by omega)
    obtain ⟨X, hXX⟩ : ∃ X, X = x.add p.place p.data := ⟨_, rfl⟩
    have hk4 := (hb4.block K hKl).trans HX3.out
    have hq4 := (hb4.block P (by omega)).trans HX3P.out
    have HK4 := Lib.hid hk4
    have HB4 := Lib.hid (HB3.out.trans (Joins.below_le hb4 HB3.out.size))
    have HJ4 := Lib.hid hJ4
    have HFD : Hid (findP (L.map KE.k) (frm, (p.number : Int)) p.many = some x.k) := Lib.hid (by rw [← hxk, ← hxl]; exact findP_in H.out.keys hxL)
    obtain ⟨c0, c1, c2, c3⟩ : w4.cell? ⟨P, 0, none⟩ = some (.int .i64 (p.number : Int)) ∧ w4.cell? ⟨P, 1, none⟩ = some (.int .i64 (p.place : Int)) ∧ w4.cell? ⟨P, 2, none⟩ = some (.int .i64 (p.many : Int)) ∧ w4.cell? ⟨P, 3, none⟩ = some (.string (tx p.data)) := ⟨(blk_cells hq4).1 0, (blk_cells hq4).1 1, (blk_cells hq4).1 2, (blk_cells hq4).1 3⟩
    unfold partV at cA
    clear hb4 hJ4 hmx hok hk4 hq4
    go_wp2_with fail
    refine cA.mono ?_
    rintro r w5 ⟨rfl, hMX, hK5⟩
    clear cA c0 c1 c2 c3
    rw [← hXX] at hMX
    have hx5 := (hK5.block K (Array.getElem?_eq_some_iff.1 HK4.out).1 (fun e => e.elim (fun h => by omega) (fun h => by omega))).trans HK4.out
    obtain ⟨z0, z1⟩ : w5.cell? ⟨K, 0, none⟩ = some (.int .i64 frm) ∧ w5.cell? ⟨K, 1, none⟩ = some (.int .i64 (p.number : Int)) := ⟨(blk_cells hx5).1 0, (blk_cells hx5).1 1⟩
    have hXp : X.p = x.p := by rw [hXX]; exact (KE.add_same _ _ _).2.1
    have hXs : X.s = x.s := by rw [hXX]; exact (KE.add_same _ _ _).2.2
    have hXk : X.key = (frm, (p.number : Int)) := by rw [hXX]; exact (KE.add_same _ _ _).1.trans hxk
    have hXK : X.k = x.k.add p.place p.data := by rw [hXX]; exact KE.add_k _ _ _
    have hlf : w5.cell? ⟨x.p, 1, none⟩ = some (.int .i64 (X.left : Int)) := by rw [← hXp]; exact (blk_cells hMX.obj).1 1
    have hJ5 : JAt w5 (foot j mb rv L) j mb rv n (setL L X) := HJ4.out.put hxL hMX (by rw [hXk, hxk]) hXp hXs hK5
    have HLL : Hid ((setL L X).length ≤ 16) := Lib.hid (by unfold setL; have := HJ.out.most; simpa using this)
    have hKw5 : Kept w w5 G := (kept_below HB4.out (Nat.le_refl _)).trans (hK5.mono fun b _ hb => HSUB.out b (.inr (.inr (.inr ⟨x, hxL, hb⟩)))) fun b hb => .inl hb
    have HJ5 := Lib.hid hJ5
    have HKW := Lib.hid hKw5
    have HMX := Lib.hid hMX
    have HXK := Lib.hid hXK
    have HXP := Lib.hid hXp
    have HXS := Lib.hid hXs
    have HXKY := Lib.hid hXk
    have hz5 := hK5.size
    have HOK : Hid (okK X.k) := Lib.hid (by rw [hXK]; exact okK_add (HJ.out.each x.k (List.mem_map_of_mem hxL)).1 HP.out hxl.symm)
    clear hx5 hJ5 hKw5 hMX hK5 hXK
    by_cases hl0 : 0 < X.left
    · have b1 : (0 : Int) < (X.left : Int) := by omega
      have hres := HST.out
      have hl0' : 0 < (x.k.add p.place p.data).left := by rw [← HXK.out]; exact hl0
      unfold stepJ at hres
      rw [HFD.out] at hres
      dsimp only at hres
      rw [if_pos hl0', ← HXK.out] at hres
      have HRS := Lib.hid hres
      have hXm : X ∈ setL L X := set_mem hxL (by rw [hXk, hxk])
      have cK := pkeep_old HJ5.out hXm (.pointer (some ⟨x.p, 0, none⟩))
      rw [hXk] at cK
      unfold Key.v at cK
      clear hres hl0' hXp hXs hXk hXX
      go_wp2_with fail
      refine cK.mono ?_
      rintro r w6 ⟨rfl, hb6⟩
      have hfin : JTakePost w G j mb n OUT J' (.returned (.tuple #[.slice none 0 0, .bool false, .int .i64 0])) w6 := by
        obtain ⟨e1, e2⟩ := Prod.mk.inj HRS.out
        exact ⟨.slice none 0 0, 0, rv, n, setL L X, by rw [← e2, set_k], by rw [← e1]; rfl, by rw [← e1]; exact World.ownsRow_nil _ _ _ _, (HJ5.out.grow hb6).mono fun b _ hb => HSUB.out b hb, by omega, HKW.out.trans (kept_below hb6 (Nat.le_refl _)) fun b hb => .inl hb⟩
      clear cK z0 z1 hlf
      have HFIN := Lib.hid hfin
      clear hfin
      go_wp2_with fail
      go_ret3
      exact HFIN.out
    · have b1 : ¬ (0 : Int) < (X.left : Int) := by omega
      have hl0'' : X.left = 0 := by omega
      have hres := HST.out
      have hl0' : ¬ 0 < (x.k.add p.place p.data).left := by rw [← HXK.out]; exact hl0
      unfold stepJ at hres
      rw [HFD.out] at hres
      dsimp only at hres
      rw [if_neg hl0', ← HXK.out] at hres
      have HRS := Lib.hid hres
      have cD := pdrop_core HJ5.out (frm, (p.number : Int)) hgood (by have := HLL.out; omega)
      unfold Key.v at cD
      have HFU : Hid (Full X.parts) := Lib.hid (HOK.out.full hl0'')
      clear hres hl0' hl0'' hXp hXs hXk hXX
      go_wp2_with fail
      refine cD.mono ?_
      rintro r w6 ⟨rfl, rv6, hJ6, hK6⟩
      clear cD z0 z1 hlf
      obtain ⟨a1, a2, a3, a4, a5, a6⟩ := HJ5.out.far HMX.out
      have hM6 : MsgAt w6 X := HMX.out.same (hK6.block _ HMX.out.ltp (fun h => h.elim a1 fun h => h.elim a2 a3)) (hK6.block _ HMX.out.lts (fun h => h.elim a4 fun h => h.elim a5 a6))
      have cJ := joined_any hM6 HFU.out
      rw [HXP.out] at cJ
      have HJ6 := Lib.hid hJ6
      have hz6 := hK6.size
      have hKw6 : Kept w w6 G := HKW.out.trans (hK6.mono fun b _ hb => HSUB.out b (hb.elim (fun h => .inl h) fun h => h.elim (fun h => .inr (.inl h)) fun h => HJ5.out.gr b h)) fun b hb => .inl hb
      have HKW6 := Lib.hid hKw6
      clear hJ6 hK6 hM6 hKw6 a1 a2 a3 a4 a5 a6
      go_wp2_with fail
      refine cJ.mono ?_
      rintro r w7 ⟨v7, rfl, ho7, hb7⟩
      clear cJ
      have hfin : JTakePost w G j mb n OUT J' (.returned (.tuple #[v7, .bool true, .int .i64 0])) w7 := by
        obtain ⟨e1, e2⟩ := Prod.mk.inj HRS.out
        refine ⟨v7, _, rv6, n, dropL (setL L X) (frm, (p.number : Int)), ?_, by rw [← e1]; rfl, by rw [← e1]; exact own_base ho7 (Nat.le_trans HKW.out.size hz6), (HJ6.out.grow hb7).mono fun b _ hb => HSUB.out b hb, by omega, HKW6.out.trans (kept_below hb7 (Nat.le_refl _)) fun b hb => .inl hb⟩
        rw [← e2]
        rw [drop_k, set_k, dropP_set (show X.k.key = _ from HXKY.out)]
      have HFIN := Lib.hid hfin
      clear hfin ho7 hb7
      go_wp2_with fail
      go_ret3
      exact HFIN.out
  · have hFl : ∀ b, foot j mb rv L b → b < w.heap.size := fun b hb => (foot_sub H.out hb).2
    have hplt : p.place < (List.replicate p.many ([] : List UInt8)).length := by simpa using f1
    have cA := padd_any hM p.number p.place p.many p.data hplt (by dsimp only; omega) (by dsimp only; omega) (by dsimp only; simp; omega)
    obtain ⟨X, hXX⟩ : ∃ X, X = (⟨(frm, (p.number : Int)), List.replicate p.many [], p.many, p4, s4⟩ : KE).add p.place p.data := ⟨_, rfl⟩
    have hk4 := (hK4.block K hKl (fun h => by have := hFl K h; omega)).trans HX3.out
    have hq4 := (hK4.block P (by omega) (fun h => by have := hFl P h; omega)).trans HX3P.out
    have HK4 := Lib.hid hk4
    have HKW4 : Hid (Kept w w4 G) := Lib.hid ((kept_below HB3.out (Nat.le_refl _)).trans (hK4.mono fun b _ hb => HSUB.out b hb) fun b hb => .inl hb)
    have HJ4 := Lib.hid hJ4
    have HFD : Hid (findP (L.map KE.k) (frm, (p.number : Int)) p.many = none) := Lib.hid (findP_not fun y hy hyk => hno y hy hyk)
    have hz4 := hK4.size
    obtain ⟨c0, c1, c2, c3⟩ : w4.cell? ⟨P, 0, none⟩ = some (.int .i64 (p.number : Int)) ∧ w4.cell? ⟨P, 1, none⟩ = some (.int .i64 (p.place : Int)) ∧ w4.cell? ⟨P, 2, none⟩ = some (.int .i64 (p.many : Int)) ∧ w4.cell? ⟨P, 3, none⟩ = some (.string (tx p.data)) := ⟨(blk_cells hq4).1 0, (blk_cells hq4).1 1, (blk_cells hq4).1 2, (blk_cells hq4).1 3⟩
    unfold partV at cA
    dsimp only at cA
    clear hK4 hJ4 hM hk4 hq4 hno
    go_wp2_with fail
    refine cA.mono ?_
    rintro r w5 ⟨rfl, hMX, hK5⟩
    clear cA c0 c1 c2 c3
    rw [← hXX] at hMX
    have hx5 := (hK5.block K (Array.getElem?_eq_some_iff.1 HK4.out).1 (fun e => e.elim (fun h => by omega) (fun h => by omega))).trans HK4.out
    obtain ⟨z0, z1⟩ : w5.cell? ⟨K, 0, none⟩ = some (.int .i64 frm) ∧ w5.cell? ⟨K, 1, none⟩ = some (.int .i64 (p.number : Int)) := ⟨(blk_cells hx5).1 0, (blk_cells hx5).1 1⟩
    have hXp : X.p = p4 := by rw [hXX]; exact (KE.add_same _ _ _).2.1
    have hXs : X.s = s4 := by rw [hXX]; exact (KE.add_same _ _ _).2.2
    have hXk : X.key = (frm, (p.number : Int)) := by rw [hXX]; exact (KE.add_same _ _ _).1
    have hXK : X.k = (newP (frm, (p.number : Int)) p.many).add p.place p.data := by rw [hXX]; exact KE.add_k _ _ _
    have hlf : w5.cell? ⟨p4, 1, none⟩ = some (.int .i64 (X.left : Int)) := by rw [← hXp]; exact (blk_cells hMX.obj).1 1
    have hJ5 : JAt w5 (foot j mb rv L) j mb rv4 n (dropL L (frm, (p.number : Int))) := HJ4.out.kept hK5 (fun b hb he => by have := (foot_sub H.out hb).2; rcases he with he | he <;> omega)
    have HLL : Hid ((dropL L (frm, (p.number : Int))).length ≤ 16) := Lib.hid (Nat.le_trans (dropL_sub L _).length_le (by have := HJ.out.most; simpa using this))
    have hKw5 : Kept w w5 G := (HKW4.out.trans (hK5.mono fun b _ hb => HFR.out b (by rcases hb with hb | hb <;> omega)) fun b hb => .inl hb)
    have HJ5 := Lib.hid hJ5
    have HKW := Lib.hid hKw5
    have HMX := Lib.hid hMX
    have HXK := Lib.hid hXK
    have HXP := Lib.hid hXp
    have HXS := Lib.hid hXs
    have HXKY := Lib.hid hXk
    have hz5 := hK5.size
    have HOK : Hid (okK X.k) := Lib.hid (by rw [hXK]; exact okK_add (okK_new _ (by omega) hpm) HP.out (by unfold newP; simp))
    clear hx5 hJ5 hKw5 hMX hK5 hXK
    by_cases hl0 : 0 < X.left
    · have b1 : (0 : Int) < (X.left : Int) := by omega
      have hres := HST.out
      have hl0' : 0 < ((newP (frm, (p.number : Int)) p.many).add p.place p.data).left := by rw [← HXK.out]; exact hl0
      unfold stepJ at hres
      rw [HFD.out] at hres
      dsimp only at hres
      rw [if_pos hl0', ← HXK.out] at hres
      have HRS := Lib.hid hres
      have hLo : ∀ y ∈ dropL L (frm, (p.number : Int)), y ∈ L ∧ y.key ≠ (frm, (p.number : Int)) := fun y hy => by
        obtain ⟨h1, h2⟩ := List.mem_filter.1 hy
        exact ⟨h1, by simpa using h2⟩
      have cK := pkeep_new (G := fun b => foot j mb rv L b ∨ w3.heap.size ≤ b) (HJ5.out.mono fun b _ hb => .inl hb) HMX.out (by rw [hXk]; exact hgood) (fun y hy => by rw [hXk]; exact (hLo y hy).2) (fun y hy => by rw [HXP.out]; have := (H.out.msg y (hLo y hy).1).ltp; omega) (fun y hy => by rw [HXS.out]; have := (H.out.msg y (hLo y hy).1).lts; omega) (.inr (by rw [HXP.out]; exact hp4)) (.inr (by rw [HXS.out]; exact hs4)) (fun b hb => .inr (by omega)) hn (by have := HLL.out; omega)
      rw [HXP.out] at cK
      rw [hXk] at cK
      unfold Key.v at cK
      clear hres hl0' hXp hXs hXk hXX
      go_wp2_with fail
      refine cK.mono ?_
      rintro r w6 ⟨rfl, hJK⟩
      have hfin : JTakePost w G j mb n OUT J' (.returned (.tuple #[.slice none 0 0, .bool false, .int .i64 0])) w6 := by
        obtain ⟨e1, e2⟩ := Prod.mk.inj HRS.out
        obtain ⟨rv6, hJ6, hK6⟩ := hJK
        have sub : ∀ b, foot j mb rv L b ∨ w3.heap.size ≤ b → G b := fun b hb => hb.elim (fun h => HSUB.out b h) (fun h => HFR.out b (by omega))
        exact ⟨.slice none 0 0, 0, rv6, n + 1, _, by rw [← e2, List.map_append, room_k, drop_k]; rfl, by rw [← e1]; rfl, by rw [← e1]; exact World.ownsRow_nil _ _ _ _, hJ6.mono fun b _ hb => sub b hb, Nat.le_refl _, HKW.out.trans (hK6.mono fun b _ hb => sub b hb) fun b hb => .inl hb⟩
      clear cK z0 z1 hlf
      have HFIN := Lib.hid hfin
      clear hfin
      go_wp2_with fail
      go_ret3
      exact HFIN.out
    · have b1 : ¬ (0 : Int) < (X.left : Int) := by omega
      have hl0'' : X.left = 0 := by omega
      have hres := HST.out
      have hl0' : ¬ 0 < ((newP (frm, (p.number : Int)) p.many).add p.place p.data).left := by rw [← HXK.out]; exact hl0
      unfold stepJ at hres
      rw [HFD.out] at hres
      dsimp only at hres
      rw [if_neg hl0', ← HXK.out] at hres
      have HRS := Lib.hid hres
      have cD := pdrop_core HJ5.out (frm, (p.number : Int)) hgood (by have := HLL.out; omega)
      unfold Key.v at cD
      have HFU : Hid (Full X.parts) := Lib.hid (HOK.out.full hl0'')
      clear hres hl0' hl0'' hXp hXs hXk hXX
      go_wp2_with fail
      refine cD.mono ?_
      rintro r w6 ⟨rfl, rv6, hJ6, hK6⟩
      clear cD z0 z1 hlf
      obtain ⟨a1, a2, a3, a4, a5, a6⟩ := HJ5.out.far HMX.out
      have hM6 : MsgAt w6 X := HMX.out.same (hK6.block _ HMX.out.ltp (fun h => h.elim a1 fun h => h.elim a2 a3)) (hK6.block _ HMX.out.lts (fun h => h.elim a4 fun h => h.elim a5 a6))
      have cJ := joined_any hM6 HFU.out
      rw [HXP.out] at cJ
      have HJ6 := Lib.hid hJ6
      have hz6 := hK6.size
      have hKw6 : Kept w w6 G := HKW.out.trans (hK6.mono fun b _ hb => HSUB.out b (hb.elim (fun h => .inl h) fun h => h.elim (fun h => .inr (.inl h)) fun h => HJ5.out.gr b h)) fun b hb => .inl hb
      have HKW6 := Lib.hid hKw6
      clear hJ6 hK6 hM6 hKw6 a1 a2 a3 a4 a5 a6
      go_wp2_with fail
      refine cJ.mono ?_
      rintro r w7 ⟨v7, rfl, ho7, hb7⟩
      clear cJ
      have hfin : JTakePost w G j mb n OUT J' (.returned (.tuple #[v7, .bool true, .int .i64 0])) w7 := by
        obtain ⟨e1, e2⟩ := Prod.mk.inj HRS.out
        refine ⟨v7, _, rv6, n, dropL L (frm, (p.number : Int)), ?_, by rw [← e1]; rfl, by rw [← e1]; exact own_base ho7 (Nat.le_trans HKW.out.size hz6), ((dropL_twice L (frm, (p.number : Int)) ▸ HJ6.out).grow hb7).mono fun b _ hb => HSUB.out b hb, by omega, HKW6.out.trans (kept_below hb7 (Nat.le_refl _)) fun b hb => .inl hb⟩
        rw [← e2]
        exact drop_k _ _
      have HFIN := Lib.hid hfin
      clear hfin ho7 hb7
      go_wp2_with fail
      go_ret3
      exact HFIN.out
end Go.Proofs.YtfmaocinckeagaaDoor
