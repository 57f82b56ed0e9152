/-
  The program's ring: look, walked. No statement is proved here. No condition.
-/
import Derived.Test.YtplpfhgdanclhaaRLook
namespace Go.Proofs.Ytplpfhgdanclhaa
open Go.RowKit

theorem topTo_most (S : List (List UInt8)) (base : Nat) (hb : base ≤ 4611686018427387904) : ∀ j, topTo S base j ≤ 4611686018427387904 := by
  intro j
  induction j with
  | zero => exact hb
  | succ j ih =>
    rw [topTo_snoc]
    cases hp : pcOf (S.getD j []) j S.length with
    | none => exact ih
    | some p => have := (pcOf_fine hp).2.1; show max _ _ ≤ _; omega

theorem PcAt.form {w : World} {N : Nat → Prop} {o : Option Pc} {x : Value} (h : PcAt w N o x) : ∃ Au nu cu, x = .agg #[.int .i64 (numO o : Int), .bool (lastO o), .slice Au nu cu] ∧ RdN w N (.slice Au nu cu) (dataO o) := by
  obtain ⟨u, h1, h2⟩ := h
  obtain ⟨Au, cu, hue, -⟩ := id h2
  cases o with
  | none => exact ⟨Au, _, cu, by rw [h1, hue]; rfl, hue ▸ h2⟩
  | some p => exact ⟨Au, _, cu, by rw [h1, hue]; rfl, hue ▸ h2⟩

set_option maxHeartbeats 4000000 in
set_option maxRecDepth 100000 in
theorem plook_any {w : World} {G S : Nat → Prop} {r q : Nat} {R : RG} {D : DS} (h : RgAt w r q R) (hR : R.fine) (hD : PD w G S q D) (hF : Fine D) (hG : ∀ b, G b → b < w.heap.size ∧ b ≠ r) (hdead : D.dead = false) (hroom : R.first + R.count ≤ D.lasts.length) :
    Calls Try.prog 35 #[.pointer (some ⟨r, 0, none⟩)] w fun e w' => ∃ g, e = .returned (.tuple #[.slice (some ⟨g, 0, none⟩) R.count R.count, .int .i64 0]) ∧ w.heap.size ≤ g ∧ g < w'.heap.size ∧ LookInv w w' r q R (seen D R.first R.count) g R.count := by
  obtain ⟨ip, hip, hpz0, hpz1, hpz2⟩ := info_parts info_PcR
  have hsl := seen_length hroom
  obtain ⟨T, hT⟩ : ∃ T, T = seen D R.first R.count := ⟨_, rfl⟩
  rw [← hT] at hsl ⊢
  have i1 := hR.room
  have i2 := hR.pos
  have i3 := hR.most
  have c2 := h.c2
  have hmk := run_make (P := Try.prog) w 69 81 ip _ Try.underlying69 hip hpz0 .i64 .i64 (R.count : Int) (R.count : Int) (by omega) (Int.le_refl _) (by rw [hpz2]; omega) (by omega)
  rw [hpz1, Int.toNat_natCast] at hmk
  have htm := there_made w T (fun x => w.heap.size < x)
  rw [hsl] at htm
  obtain ⟨w1, hw1⟩ : ∃ w1, w1 = w.alloc (.cells (madeCells (Value.agg #[.int .i64 0, .bool false, .slice none 0 0]).cells (R.count * 3)) 81) := ⟨_, rfl⟩
  rw [← hw1] at hmk htm
  have hb1 : Below w.heap.size w w1 := by rw [hw1]; exact (Below.refl _ _).alloc (Nat.le_refl _) _
  have hz1 : w1.heap.size = w.heap.size + 1 := by rw [hw1]; simp
  have hinv0 : LookInv w w1 r q R T w.heap.size 0 := ⟨Kept.ofBelow hb1, h.kept (hb1.block r h.lt), htm, i3⟩
  have lr := h.lt
  have H := Lib.hid h
  have HD := Lib.hid hD
  have HF := Lib.hid hF
  have HG := Lib.hid hG
  have HT := Lib.hid hT
  have HI0 := Lib.hid hinv0
  obtain ⟨g0, hg0⟩ : ∃ g0, g0 = w.heap.size := ⟨_, rfl⟩
  have HG0 := Lib.hid hg0
  rw [← hg0] at HI0 hmk
  have hzz : g0 < w1.heap.size := by omega
  clear h hD hF hG hR htm hw1 hb1 hinv0 hT hg0
  go_enter Try.func35, Try.ntmps35
  go_wp2_with fail
  go_loopw [17] (fun v wr => ∃ j : Nat, v = .int .i64 j ∧ j ≤ R.count ∧ g0 < wr.heap.size ∧ Hid (LookInv w wr r q R T g0 j)) (fun v _ => R.count - (intOf v).toNat)
  case atStart => exact ⟨0, rfl, Nat.zero_le _, hzz, HI0⟩
  case round =>
    obtain ⟨j, rfl, hj, hgr, hinv⟩ := hrel
    clear HI0 hmk
    by_cases hjl : j < R.count
    · have a1 : (j : Int) < (R.count : Int) := by omega
      have a0 : (0 : Int) ≤ (j : Int) := by omega
      have hkw := hinv.out.kept
      have hsw := hkw.size
      have hrg := hinv.out.ring
      have hpd : PD wr.drew G S q D := HD.out.kept (fun _ h => h) (fun _ h => h) (fun b hb hm => hkw.block b hb (fun e => (HG.out b hm.1).2 e)) (fun b _ hi hb => hkw.block b hb (fun e => not_sec H.out (by decide) (e ▸ hi)))
      have hrd := pRead_any G S q D ((R.first : Int) + (j : Int)) wr.drew hpd HF.out.ok HF.out.lasts
      have hread : D.read ((R.first : Int) + (j : Int)) = (0, T.getD j []) := by
        unfold DS.read inside
        rw [hdead, decide_eq_true (by omega), decide_eq_true (by omega), HT.out, seen_get hroom hjl]
        rfl
      have hlen : (T.getD j []).length = 512 := by rw [HT.out, seen_get hroom hjl]; exact look_length HF.out.ok (by omega)
      rw [hread] at hrd
      have hwr : IntKind.i64.wrap ((R.first : Int) + (j : Int)) = (R.first : Int) + (j : Int) := by rw [IntKind.wrap_i64]; omega
      have hst : wr.drew.cell? ⟨r, 0, none⟩ = some (.pointer (some ⟨q, 0, none⟩)) ∧ wr.drew.cell? ⟨r, 1, none⟩ = some (.int .i64 (R.first : Int)) := ⟨hrg.c0, hrg.c1⟩
      have hkeep : ∀ W, Below wr.drew.heap.size wr.drew W → W.cell? ⟨r, 0, none⟩ = some (.pointer (some ⟨q, 0, none⟩)) ∧ W.cell? ⟨r, 1, none⟩ = some (.int .i64 (R.first : Int)) := fun W hW =>
        ⟨(hW.cell (p := ⟨r, 0, none⟩) hrg.lt).trans hst.1, (hW.cell (p := ⟨r, 1, none⟩) hrg.lt).trans hst.2⟩
      have HRD := Lib.hid hrd
      have HK := Lib.hid hkeep
      have HKW := Lib.hid hkw
      have HRG := Lib.hid hrg
      clear hrd hkeep hkw hrg hpd hread
      go_upto_region 5 with fail
      go_region_held3 (fun w' => w'.cell? ⟨r, 0, none⟩ = some (.pointer (some ⟨q, 0, none⟩)) ∧ w'.cell? ⟨r, 1, none⟩ = some (.int .i64 (R.first : Int))) (first | exact hst | exact hst2)
        (first
          | (go_at_call 37; refine HRD.out.mono ?_; rintro e w2 ⟨v2, n2, rfl, hn2, ho2, hb2⟩; have hst2 := HK.out w2 hb2))
      obtain ⟨s, hs⟩ : ∃ s, s = T.getD j [] := ⟨_, rfl⟩
      have ho2' : w2.ownsRow wr.drew.heap.size 99 1 v2 n2 (BS s) := by rw [hs]; exact ho2
      have hr2 := Rd.own ho2'
      obtain ⟨A2, c2', hv2, -⟩ := id hr2
      have hv2' : ∃ A n c, v2 = .slice A n c := ⟨_, _, _, hv2⟩
      clear hv2
      obtain ⟨A2, m2, c2', rfl⟩ := hv2'
      rw [← hs] at hlen
      have hpi := ppieceIn_any s _ w2 hr2 hlen
      obtain ⟨o, ho⟩ : ∃ o, o = pcIn s := ⟨_, rfl⟩
      rw [← ho] at hpi
      have hpc : pcOf s j R.count = o.filter fun p => p.n % R.count == j := by rw [ho]; exact pcOf_pcIn hlen j R.count
      have hfi : ∀ p, o = some p → p.fine := fun p hp => (pcIn_some hlen (ho.symm.trans hp)).1
      have hTj : T.getD j [] = s := hs.symm
      have hb2w : Below wr.heap.size wr w2 := (Below.refl _ _).drew.trans hb2
      have HPC := Lib.hid hpc
      have HFI := Lib.hid hfi
      have HTJ := Lib.hid hTj
      have HB2 := Lib.hid hb2w
      clear ho2 ho2' hr2 hs hpc hfi hTj hb2w hst2 hst ho hb2 hn2 hlen HRD HK
      go_wp2_with fail
      refine hpi.mono ?_
      rintro e w3 ⟨x, rfl, hx, hb3⟩
      clear hpi
      obtain ⟨Au, nu, cu, rfl, hu3⟩ := hx.form
      have hs2 := HB2.out.size
      have hs3 := hb3.size
      have hb3w : Below wr.heap.size wr w3 := HB2.out.trans (Joins.below_le hb3 HB2.out.size)
      have HU3 := Lib.hid hu3
      have HB3 := Lib.hid hb3w
      obtain ⟨num, hnum⟩ : ∃ num, num = numO o := ⟨_, rfl⟩
      obtain ⟨lst, hlst⟩ : ∃ lst, lst = lastO o := ⟨_, rfl⟩
      rw [← hnum, ← hlst]
      obtain ⟨w4, hw4⟩ : ∃ w4, w4 = w3.alloc (.cells #[.int .i64 (num : Int), .bool lst, .slice Au nu cu] 81) := ⟨_, rfl⟩
      have HW4 := Lib.hid hw4
      have hn4 : w4.heap[w3.heap.size]? = some (.cells #[.int .i64 (num : Int), .bool lst, .slice Au nu cu] 81 (0, 0)) := by rw [hw4]; exact heap_alloc_new _ _
      have hb4 : Below w3.heap.size w3 w4 := by rw [hw4]; exact (Below.refl _ _).alloc (Nat.le_refl _) _
      have hb4w : Below wr.heap.size wr w4 := hb3w.trans (Joins.below_le hb4 hb3w.size)
      have hinv4 : LookInv w w4 r q R T g0 j := ⟨HKW.out.trans (Kept.ofBelow hb4w) (fun _ h => .inl h), HRG.out.kept (hb4w.block r HRG.out.lt), hinv.out.there.kept (fun _ h _ => h) hb4w.size (hb4w.block g0 hgr) (fun b _ hb => hb4w.block b hb), hinv.out.top⟩
      have hu4 : RdN w4 (fun x => w.heap.size < x) (.slice Au nu cu) (dataO o) := hu3.kept (fun b hb _ => by have := HG0.out; omega) hb4.size (fun b _ hb => hb4.block b hb)
      have p0 : w4.cell? ⟨w3.heap.size, 0, none⟩ = some (.int .i64 (num : Int)) := (row7 hn4).1 0
      have p1 : w4.cell? ⟨w3.heap.size, 1, none⟩ = some (.bool lst) := (row7 hn4).1 1
      have p2 : w4.cell? ⟨w3.heap.size, 2, none⟩ = some (.slice Au nu cu) := (row7 hn4).1 2
      have k2 : w4.cell? ⟨r, 2, none⟩ = some (.int .i64 (R.count : Int)) := hinv4.ring.c2
      have HINV4 := Lib.hid hinv4
      have HU4 := Lib.hid hu4
      have HNUM := Lib.hid hnum
      have HLST := Lib.hid hlst
      have hs4 := hb4.size
      have hg4 : g0 < w4.heap.size := by omega
      have hsz4 : w3.heap.size < w4.heap.size := (Array.getElem?_eq_some_iff.1 hn4).1
      clear hw4 hn4 hb4 hb4w hinv4 hu4 hu3 hb3w hx hnum hlst hb3
      cases o with
      | none =>
        have hno : pcOf s j R.count = none := HPC.out
        have HNO := Lib.hid hno
        clear hno
        go_upto_region 9 with fail
        rw [← HW4.out]
        go_quiet (fail)
        have hnx : LookInv w (w4.drewN nq) r q R T g0 (j + 1) := by
          have hh : pcOf (T.getD j []) j T.length = none := by rw [HTJ.out, hsl]; exact HNO.out
          have ht : topTo T R.top (j + 1) = topTo T R.top j := by rw [topTo_snoc, hh]
          refine ⟨HINV4.out.kept.trans ⟨rfl, rfl, rfl, Nat.le_refl _, fun _ _ _ => rfl⟩ (fun _ h => .inl h), ?_, ?_, ?_⟩
          · rw [ht]; exact HINV4.out.ring
          · rw [thereTo_same _ _ hh]; exact HINV4.out.there
          · rw [ht]; exact HINV4.out.top
        have HNX := Lib.hid hnx
        clear hnx p0 p1 p2 k2
        go_wp2_with fail
        exact ⟨⟨j + 1, by go_num, hjl, hg4, HNX⟩, by simp [intOf]; omega⟩
      | some p =>
        have hnp : num = p.n := HNUM.out
        have hfine := HFI.out p rfl
        have hn1 := hfine.1
        have hn2 := hfine.2.1
        have hcz : ¬ R.count = 0 := by omega
        have hmod : (num : Int).tmod (R.count : Int) = ((num % R.count : Nat) : Int) := by rw [Int.tmod_eq_emod_of_nonneg (by omega)]; exact (Int.natCast_emod _ _).symm
        obtain ⟨m, hm⟩ : ∃ m, m = num % R.count := ⟨_, rfl⟩
        rw [← hm] at hmod
        have hpc : pcOf s j R.count = if m = j then some p else none := by
          rw [HPC.out]
          by_cases h : m = j
          · rw [if_pos h]; exact Option.filter_eq_some_iff.2 ⟨rfl, by rw [beq_iff_eq, ← hnp, ← hm]; exact h⟩
          · rw [if_neg h]; exact Option.filter_eq_none_iff.2 fun q hq => by obtain rfl := Option.some.inj hq; rw [beq_iff_eq, ← hnp, ← hm]; exact h
        have HNP := Lib.hid hnp
        have hn1' : 1 ≤ num := by omega
        have hn2' : num ≤ 4611686018427387904 := by omega
        clear hm hfine hnp hn1 hn2
        by_cases hmj : m = j
        · have hme : ((m : Int) == (j : Int)) = true := by rw [hmj]; simp
          rw [if_pos hmj] at hpc
          have HPC2 := Lib.hid hpc
          clear hpc hmj
          go_upto_region 9 with fail
          rw [← HW4.out]
          go_quiet (fail)
          obtain ⟨w5, hw5⟩ : ∃ w5, w5 = w4.drewN nq := ⟨_, rfl⟩
          rw [← hw5]
          have hinv5 : LookInv w w5 r q R T g0 j := by rw [hw5]; exact ⟨HINV4.out.kept.trans ⟨rfl, rfl, rfl, Nat.le_refl _, fun _ _ _ => rfl⟩ (fun _ h => .inl h), HINV4.out.ring, HINV4.out.there, HINV4.out.top⟩
          have hu5 : RdN w5 (fun x => w.heap.size < x) (.slice Au nu cu) (dataO (some p)) := by rw [hw5]; exact HU4.out
          have p0' : w5.cell? ⟨w3.heap.size, 0, none⟩ = some (.int .i64 (num : Int)) := by rw [hw5]; exact p0
          have p1' : w5.cell? ⟨w3.heap.size, 1, none⟩ = some (.bool lst) := by rw [hw5]; exact p1
          have p2' : w5.cell? ⟨w3.heap.size, 2, none⟩ = some (.slice Au nu cu) := by rw [hw5]; exact p2
          have hs5 : w5.heap.size = w4.heap.size := by rw [hw5]; rfl
          obtain ⟨C, hC, hCs, -⟩ := hinv5.there
          rw [thereTo_length, hsl] at hCs
          have e0 : w5.cell? ⟨g0, j * 3, none⟩ = some (C[j * 3]'(by omega)) := ((row7 hC).1 _).trans (Array.getElem?_eq_getElem (by omega))
          have e1 : w5.cell? ⟨g0, j * 3 + 1, none⟩ = some (C[j * 3 + 1]'(by omega)) := ((row7 hC).1 _).trans (Array.getElem?_eq_getElem (by omega))
          have e2 : w5.cell? ⟨g0, j * 3 + 2, none⟩ = some (C[j * 3 + 2]'(by omega)) := ((row7 hC).1 _).trans (Array.getElem?_eq_getElem (by omega))
          generalize C[j * 3]'(by omega) = y0 at e0
          generalize C[j * 3 + 1]'(by omega) = y1 at e1
          generalize C[j * 3 + 2]'(by omega) = y2 at e2
          have f0 := (row7 hC).2 (j * 3)
          have f1 := (row7 hC).2 (j * 3 + 1)
          have f2 := (row7 hC).2 (j * 3 + 2)
          have hput := hinv5.there.put (j := j) (by rw [thereTo_length]; omega) (fun x hx => by have := HG0.out; omega) (some p) Au nu cu hu5
          rw [← HNUM.out, ← HLST.out] at hput
          have HPUT := Lib.hid hput
          have HINV5 := Lib.hid hinv5
          have ng : w3.heap.size ≠ g0 := by omega
          have ngr : r ≠ g0 := by have := HG0.out; omega
          clear p0 p1 p2 k2 hw5 hC hCs hput hinv5 hu5
          go_upto_region 11 with fail
          obtain ⟨w6, hw6⟩ : ∃ w6, w6 = ((w5.setCell ⟨g0, j * 3, none⟩ (.int .i64 (num : Int))).setCell ⟨g0, j * 3 + 1, none⟩ (.bool lst)).setCell ⟨g0, j * 3 + 2, none⟩ (.slice Au nu cu) := ⟨_, rfl⟩
          rw [← hw6]
          rw [← hw6] at HPUT
          have ho6 : ∀ x, x ≠ g0 → w6.heap[x]? = w5.heap[x]? := fun x hx => by rw [hw6, set_other hx, set_other hx, set_other hx]
          have hs6 : w6.heap.size = w5.heap.size := by rw [hw6]; simp
          have hrg6 : RgAt w6 r q { R with top := topTo T R.top j } := HINV5.out.ring.kept (ho6 r ngr)
          have hkk6 : Kept w w6 (fun x => x = r) := by
            have k6 : Kept w5 w6 (fun x => x = g0) := by
              rw [hw6]
              exact ((Kept.setCell w5 ⟨g0, j * 3, none⟩ _ (fun x => x = g0) rfl).trans (Kept.setCell _ ⟨g0, j * 3 + 1, none⟩ _ (fun x => x = g0) rfl) (fun _ h => .inl h)).trans (Kept.setCell _ ⟨g0, j * 3 + 2, none⟩ _ (fun x => x = g0) rfl) (fun _ h => .inl h)
            exact HINV5.out.kept.trans k6 (fun x hx => .inr (by have := HG0.out; omega))
          have q0 : w6.cell? ⟨w3.heap.size, 0, none⟩ = some (.int .i64 (num : Int)) := (World.cell?_of_block (a := ⟨w3.heap.size, 0, none⟩) (ho6 _ ng)).trans p0'
          have q5 : w6.cell? ⟨r, 5, none⟩ = some (.int .i64 ((topTo T R.top j : Nat) : Int)) := hrg6.c5
          have z5 := hrg6.fz 5
          obtain ⟨tp, htp⟩ : ∃ tp, tp = topTo T R.top j := ⟨_, rfl⟩
          rw [← htp] at q5
          have HRG6 := Lib.hid hrg6
          have HKK6 := Lib.hid hkk6
          have HTP := Lib.hid htp
          have nr : w3.heap.size ≠ r := by have := HG0.out; omega
          clear hw6 ho6 hrg6 hkk6 htp p0' p1' p2' e0 e1 e2 f0 f1 f2
          go_region
          have hmx : (if tp < num then (num : Int) else (tp : Int)) = ((max tp num : Nat) : Int) := by split <;> omega
          have hnx : LookInv w (w6.setCell ⟨r, 5, none⟩ (.int .i64 (if tp < num then (num : Int) else (tp : Int)))).drew r q R T g0 (j + 1) := by
            have hh : pcOf (T.getD j []) j T.length = some p := by rw [HTJ.out, hsl]; exact HPC2.out
            have ht : topTo T R.top (j + 1) = max tp num := by rw [topTo_snoc, hh, HTP.out, HNP.out]
            rw [hmx]
            refine ⟨(HKK6.out.trans (Kept.setCell _ ⟨r, 5, none⟩ _ (fun x => x = r) rfl) (fun _ h => .inl h)).trans (Kept.drew _ _) (fun _ h => .inl h), ?_, ?_, ?_⟩
            · rw [ht]; exact HRG6.out.top (max tp num)
            · rw [thereTo_next, hh]
              exact HPUT.out.kept (fun _ h _ => h) (by simp) (set_other (Ne.symm ngr)) (fun b hb _ => set_other (by have := HG0.out; show b ≠ r; omega))
            · exact topTo_most _ _ i3 _
          have HNX := Lib.hid hnx
          have hgl6 : g0 < (w6.setCell ⟨r, 5, none⟩ (.int .i64 (if tp < num then (num : Int) else (tp : Int)))).drew.heap.size := by simp; omega
          clear hnx hmx q0 q5 z5
          go_wp2_with fail
          exact ⟨⟨j + 1, by go_num, hjl, hgl6, HNX⟩, by simp [intOf]; omega⟩
        · have hme : ((m : Int) == (j : Int)) = false := by simp; omega
          rw [if_neg hmj] at hpc
          have HNO := Lib.hid hpc
          clear hpc
          go_upto_region 9 with fail
          rw [← HW4.out]
          go_quiet (fail)
          have hnx : LookInv w (w4.drewN nq) r q R T g0 (j + 1) := by
            have hh : pcOf (T.getD j []) j T.length = none := by rw [HTJ.out, hsl]; exact HNO.out
            have ht : topTo T R.top (j + 1) = topTo T R.top j := by rw [topTo_snoc, hh]
            refine ⟨HINV4.out.kept.trans ⟨rfl, rfl, rfl, Nat.le_refl _, fun _ _ _ => rfl⟩ (fun _ h => .inl h), ?_, ?_, ?_⟩
            · rw [ht]; exact HINV4.out.ring
            · rw [thereTo_same _ _ hh]; exact HINV4.out.there
            · rw [ht]; exact HINV4.out.top
          have HNX := Lib.hid hnx
          clear hnx p0 p1 p2 k2
          go_wp2_with fail
          exact ⟨⟨j + 1, by go_num, hjl, hg4, HNX⟩, by simp [intOf]; omega⟩
    · have a1 : ¬ (j : Int) < (R.count : Int) := by omega
      obtain rfl : j = R.count := by omega
      go_wp2_with fail
      go_ret2
      exact ⟨g0, rfl, by have := HG0.out; omega, hgr, hinv.out⟩
end Go.Proofs.Ytplpfhgdanclhaa
