/-
  NetOrder walked. No statement is proved here. No condition.
-/
import Derived.Test.YtmnaekeecjlapaaKStep
namespace Go.Proofs.Ytmnaekeecjlapaa
open Go.RowKit

/-- how it stands behind i steps, of which a packets have been taken: the net's row is what was sent and is not taken -/
structure OI (w wr : World) (p i a : Nat) (s7 : Value) (N : NT) (v : Value) (sent : List PK) : Prop where
  net : PNetM wr w.heap.size p 58 36 v N
  ok : N.ok i
  row : N.row = sent.drop a
  le : a ≤ sent.length
  most : sent.length ≤ i
  own : pkR.Own wr w.heap.size 36 s7 sent
  bel : Below w.heap.size w wr
  apart : ∀ g, v.ownBlock = some g → s7.ownBlock ≠ some g
section
variable {w wr w' : World} {p i a : Nat} {s7 v : Value} {N : NT} {sent : List PK}
theorem OI.grow (h : OI w wr p i a s7 N v sent) (hb : Below wr.heap.size wr w') : OI w w' p i a s7 N v sent :=
  ⟨h.net.grow hb, h.ok, h.row, h.le, h.most, h.own.below hb, h.bel.trans (Joins.below_le hb h.bel.size), h.apart⟩
/-- a call of the program has been made -/
theorem OI.step (h : OI w wr p i a s7 N v sent) {v' : Value} {N' : NT} {j : Nat} (hn : PNetM w' w.heap.size p 58 36 v' N') (hb : Below w.heap.size wr w') (hm : Moved p v wr w') (hv : ∀ g, v'.ownBlock = some g → v.ownBlock = some g ∨ wr.heap.size ≤ g)
    (hok : N'.ok j) : PNetM w' w.heap.size p 58 36 v' N' ∧ N'.ok j ∧ pkR.Own w' w.heap.size 36 s7 sent ∧ Below w.heap.size w w' ∧ (∀ g, v'.ownBlock = some g → s7.ownBlock ≠ some g) := by
  have hf : ∀ g, s7.ownBlock = some g → w'.heap[g]? = wr.heap[g]? := fun g hg => hm g (h.own.lt g hg).2 (fun e => (own_type h.own hg).ne h.net.ty (by decide) e) (fun e => h.apart g e hg)
  exact ⟨hn, hok, own_far h.own hf, h.bel.trans hb, fun g hg hs => (hv g hg).elim (fun e => h.apart g e hs) fun e => by have := (h.own.lt g hs).2; omega⟩
end
set_option maxHeartbeats 4000000 in
set_option maxRecDepth 100000 in
theorem order_walk (l : List PS) (tk : List Bool) (u t : Value) (w : World) (hu : psR.N w Any u l) (ht : bR.N w Any t tk) :
    Calls Try.prog 6 #[u, t] w fun e w' => e = .returned (.bool true) ∧ Below w.heap.size w w' := by
  obtain ⟨A, c, rfl, hlc, hcm⟩ := hu.slice
  obtain ⟨At, ct, rfl, htc, htm⟩ := ht.slice
  have HU := Lib.hid hu
  have HT := Lib.hid ht
  clear hu ht hlc hcm htc htm
  have cA := awake_any w
  have hzp := zero_pk
  by_cases hlong : 150 < l.length
  · have h1 : (150 : Int) < (l.length : Int) := by omega
    go_enter Try.func6, Try.ntmps6
    go_wp2_with fail
    refine cA.mono ?_
    rintro e w1 ⟨rfl, hb⟩
    have HB := Lib.hid hb
    clear cA hb
    go_wp2_with fail
    go_ret
    exact ⟨rfl, HB.out⟩
  · have h1 : ¬ (150 : Int) < (l.length : Int) := by omega
    go_enter Try.func6, Try.ntmps6
    go_wp2_with fail
    refine cA.mono ?_
    rintro e w1 ⟨rfl, hb1⟩
    have cN := pnew_any 1000 w1
    have hs1 := hb1.size
    have HB1 := Lib.hid hb1
    clear cA hb1
    go_wp2_with fail
    refine cN.mono ?_
    rintro e w2 h
    rcases h with ⟨h, -⟩ | ⟨-, rfl, hN2, hb2⟩
    · exact absurd (show newErr 1000 = 0 from rfl) h
    clear cN
    obtain ⟨p, hp⟩ : ∃ p, p = w1.heap.size := ⟨_, rfl⟩
    rw [← hp] at hN2 ⊢
    have hO : OI w w2 p 0 0 (.slice none 0 0) (NT.new 1000) (.slice none 0 0) [] := ⟨⟨hN2.net, by omega, Rec.Own.none _ _ _ _⟩, NT.new_ok (by decide), rfl, Nat.le_refl _, Nat.le_refl _, Rec.Own.none _ _ _ _, HB1.out.trans (Joins.below_le hb2 hs1), fun g hg => by cases hg⟩
    have HO := Lib.hid hO
    clear hO hb2 hN2 HB1 hs1 hp
    go_wp2_with fail
    go_loopw [7, 8, 9] (fun s7 s8 s9 wr => ∃ (i a : Nat) (N : NT) (v : Value) (sent : List PK) (As : Option Addr) (cs : Nat), s9 = .int .i64 (i : Int) ∧ s8 = .int .i64 (a : Int) ∧ s7 = .slice As sent.length cs ∧ i ≤ l.length ∧ Hid (OI w wr p i a s7 N v sent)) (fun _ _ s9 _ => l.length - (intOf s9).toNat)
    case atStart => exact ⟨0, 0, _, _, [], none, 0, rfl, rfl, rfl, Nat.zero_le _, HO⟩
    case round =>
      obtain ⟨i, a, N, v, sent, As, cs, rfl, rfl, rfl, hi, hI⟩ := hrel
      obtain ⟨wz, hwz⟩ : ∃ wz : World, wz = wr := ⟨_, rfl⟩
      subst hwz
      by_cases hil : i < l.length
      · have a1 : (i : Int) < (l.length : Int) := by omega
        have a0 : (0 : Int) ≤ (i : Int) := by omega
        obtain ⟨s, hsi⟩ : ∃ s, l[i]? = some s := ⟨_, List.getElem?_eq_getElem hil⟩
        obtain ⟨b, o, n', k', hv, -, hbl, -, x1, x2, x3, -⟩ := ps_cell HU.out hsi
        injection hv with e1 e2 e3
        subst e1 e3
        clear e2
        have HX : Hid (∀ W, Below w.heap.size w W → W.cell? ⟨b, o + i * 5 + 1, none⟩ = some (.int .i64 s.frm) ∧ W.cell? ⟨b, o + i * 5 + 2, none⟩ = some (.int .i64 s.dst) ∧ W.cell? ⟨b, o + i * 5 + 3, none⟩ = some (.string s.data)) := Lib.hid fun W hW => ⟨(hW.cell (p := ⟨b, _, none⟩) hbl).trans x1, (hW.cell (p := ⟨b, _, none⟩) hbl).trans x2, (hW.cell (p := ⟨b, _, none⟩) hbl).trans x3⟩
        clear x1 x2 x3
        obtain ⟨Ad, cd, wcv, hcv, hrd, hbc, hsc, -⟩ := conv_bytes s.data wz.drew s.hd
        have hbc' : Below wz.heap.size wz wcv := ⟨hbc.os, hbc.tape, hbc.output, hbc.size, hbc.block⟩
        have hIc := hI.out.grow hbc'
        have cS := psend_any N s.pk s.data.data.toList _ _ i w.heap.size p v wcv hIc.net hIc.ok (by omega) hIc.bel.size hrd (bytes_of s.data).symm
        have hst := HX.out wz.drew hI.out.bel.drew
        have hst2 := HX.out wcv hIc.bel
        have hok2 := hIc.ok.send s.pk
        have hrow2 := NT.send_row N s.pk
        obtain ⟨R, hR⟩ : ∃ R, R = N.send s.pk := ⟨_, rfl⟩
        rw [← hR] at cS hok2 hrow2
        obtain ⟨N2, E⟩ := R
        have HIC := Lib.hid hIc
        have HOK2 := Lib.hid hok2
        have HROW2 := Lib.hid hrow2
        have hsi2 := HIC.out.bel.size
        clear hR hok2 hrow2 hIc hbc' hbc hrd hsi hlong
        dsimp only [PS.pk] at cS
        go_upto_region 11 with fail
        refine wp_region_held_drew (S := (fun W : World => (W.cell? ⟨b, o + i * 5 + 1, none⟩ = some (.int .i64 s.frm) ∧ W.cell? ⟨b, o + i * 5 + 2, none⟩ = some (.int .i64 s.dst) ∧ W.cell? ⟨b, o + i * 5 + 3, none⟩ = some (.string s.data)))) (by kernel_rfl) hst (fun hHeld => ?_)
        refine takeD (i := 0) (d := 34) (v := .pointer (some ⟨p, 0, none⟩)) rfl rfl (by kernel_rfl) (by kernel_rfl) (by kernel_rfl) (fun _ _ _ h => h) (.inl ⟨by rfl, fun w hSw => by dsimp only at hSw; go_simp; try with_reducible rfl⟩) (by assumption) ?_
        simp only [Act.put, List.setIfInBounds_toArray, List.set_cons_zero, List.set_cons_succ]
        refine takeD (i := 1) (d := 35) (v := .slice (some ⟨b, o, none⟩) l.length c) rfl rfl (by kernel_rfl) (by kernel_rfl) (by kernel_rfl) (fun _ _ _ h => h) (.inl ⟨by rfl, fun w hSw => by dsimp only at hSw; go_simp; try with_reducible rfl⟩) (by assumption) ?_
        simp only [Act.put, List.setIfInBounds_toArray, List.set_cons_zero, List.set_cons_succ]
        refine takeD (i := 2) (d := 36) (v := .int .i64 (i : Int)) rfl rfl (by kernel_rfl) (by kernel_rfl) (by kernel_rfl) (fun _ _ _ h => h) (.inl ⟨by rfl, fun w hSw => by dsimp only at hSw; go_simp; try with_reducible rfl⟩) (by assumption) ?_
        simp only [Act.put, List.setIfInBounds_toArray, List.set_cons_zero, List.set_cons_succ]
        refine takeD (i := 3) (d := 37) (v := .pointer (some ⟨b, o + i * 5, none⟩)) rfl rfl (by kernel_rfl) (by kernel_rfl) (by kernel_rfl) (fun _ _ _ h => h) (.inl ⟨by rfl, fun w hSw => by dsimp only at hSw; go_simp; try with_reducible rfl⟩) (by assumption) ?_
        simp only [Act.put, List.setIfInBounds_toArray, List.set_cons_zero, List.set_cons_succ]
        refine takeD (i := 4) (d := 38) (v := .pointer (some ⟨b, o + i * 5 + 1, none⟩)) rfl rfl (by kernel_rfl) (by kernel_rfl) (by kernel_rfl) (fun _ _ _ h => h) (.inl ⟨by rfl, fun w hSw => by dsimp only at hSw; go_simp; try with_reducible rfl⟩) (by assumption) ?_
        simp only [Act.put, List.setIfInBounds_toArray, List.set_cons_zero, List.set_cons_succ]
        refine takeD (i := 5) (d := 39) (v := .int .i64 s.frm) rfl rfl (by kernel_rfl) (by kernel_rfl) (by kernel_rfl) (fun _ _ _ h => h) (.inl ⟨by rfl, fun w hSw => by dsimp only at hSw; go_simp; try with_reducible rfl⟩) (by assumption) ?_
        simp only [Act.put, List.setIfInBounds_toArray, List.set_cons_zero, List.set_cons_succ]
        refine takeD (i := 6) (d := 40) (v := .slice (some ⟨b, o, none⟩) l.length c) rfl rfl (by kernel_rfl) (by kernel_rfl) (by kernel_rfl) (fun _ _ _ h => h) (.inl ⟨by rfl, fun w hSw => by dsimp only at hSw; go_simp; try with_reducible rfl⟩) (by assumption) ?_
        simp only [Act.put, List.setIfInBounds_toArray, List.set_cons_zero, List.set_cons_succ]
        refine takeD (i := 7) (d := 41) (v := .int .i64 (i : Int)) rfl rfl (by kernel_rfl) (by kernel_rfl) (by kernel_rfl) (fun _ _ _ h => h) (.inl ⟨by rfl, fun w hSw => by dsimp only at hSw; go_simp; try with_reducible rfl⟩) (by assumption) ?_
        simp only [Act.put, List.setIfInBounds_toArray, List.set_cons_zero, List.set_cons_succ]
        refine takeD (i := 8) (d := 42) (v := .pointer (some ⟨b, o + i * 5, none⟩)) rfl rfl (by kernel_rfl) (by kernel_rfl) (by kernel_rfl) (fun _ _ _ h => h) (.inl ⟨by rfl, fun w hSw => by dsimp only at hSw; go_simp; try with_reducible rfl⟩) (by assumption) ?_
        simp only [Act.put, List.setIfInBounds_toArray, List.set_cons_zero, List.set_cons_succ]
        refine takeD (i := 9) (d := 43) (v := .pointer (some ⟨b, o + i * 5 + 2, none⟩)) rfl rfl (by kernel_rfl) (by kernel_rfl) (by kernel_rfl) (fun _ _ _ h => h) (.inl ⟨by rfl, fun w hSw => by dsimp only at hSw; go_simp; try with_reducible rfl⟩) (by assumption) ?_
        simp only [Act.put, List.setIfInBounds_toArray, List.set_cons_zero, List.set_cons_succ]
        refine takeD (i := 10) (d := 44) (v := .int .i64 s.dst) rfl rfl (by kernel_rfl) (by kernel_rfl) (by kernel_rfl) (fun _ _ _ h => h) (.inl ⟨by rfl, fun w hSw => by dsimp only at hSw; go_simp; try with_reducible rfl⟩) (by assumption) ?_
        simp only [Act.put, List.setIfInBounds_toArray, List.set_cons_zero, List.set_cons_succ]
        refine takeD (i := 11) (d := 45) (v := .slice (some ⟨b, o, none⟩) l.length c) rfl rfl (by kernel_rfl) (by kernel_rfl) (by kernel_rfl) (fun _ _ _ h => h) (.inl ⟨by rfl, fun w hSw => by dsimp only at hSw; go_simp; try with_reducible rfl⟩) (by assumption) ?_
        simp only [Act.put, List.setIfInBounds_toArray, List.set_cons_zero, List.set_cons_succ]
        refine takeD (i := 12) (d := 46) (v := .int .i64 (i : Int)) rfl rfl (by kernel_rfl) (by kernel_rfl) (by kernel_rfl) (fun _ _ _ h => h) (.inl ⟨by rfl, fun w hSw => by dsimp only at hSw; go_simp; try with_reducible rfl⟩) (by assumption) ?_
        simp only [Act.put, List.setIfInBounds_toArray, List.set_cons_zero, List.set_cons_succ]
        refine takeD (i := 13) (d := 47) (v := .pointer (some ⟨b, o + i * 5, none⟩)) rfl rfl (by kernel_rfl) (by kernel_rfl) (by kernel_rfl) (fun _ _ _ h => h) (.inl ⟨by rfl, fun w hSw => by dsimp only at hSw; go_simp; try with_reducible rfl⟩) (by assumption) ?_
        simp only [Act.put, List.setIfInBounds_toArray, List.set_cons_zero, List.set_cons_succ]
        refine takeD (i := 14) (d := 48) (v := .pointer (some ⟨b, o + i * 5 + 3, none⟩)) rfl rfl (by kernel_rfl) (by kernel_rfl) (by kernel_rfl) (fun _ _ _ h => h) (.inl ⟨by rfl, fun w hSw => by dsimp only at hSw; go_simp; try with_reducible rfl⟩) (by assumption) ?_
        simp only [Act.put, List.setIfInBounds_toArray, List.set_cons_zero, List.set_cons_succ]
        refine takeD (i := 15) (d := 49) (v := .string s.data) rfl rfl (by kernel_rfl) (by kernel_rfl) (by kernel_rfl) (fun _ _ _ h => h) (.inl ⟨by rfl, fun w hSw => by dsimp only at hSw; go_simp; try with_reducible rfl⟩) (by assumption) ?_
        simp only [Act.put, List.setIfInBounds_toArray, List.set_cons_zero, List.set_cons_succ]
        refine wpAnyH_ready (rs := [16]) (by kernel_rfl) (by simp) ?_
        refine AllReadyH.cons rfl (fun K hK => ?_) AllReadyH.nil
        rw [if_pos (by rfl)]
        go_simp
        refine hK.out _ _ hst2 (fun hHeld2 => ?_)
        try simp only [Act.put, List.setIfInBounds_toArray, List.set_cons_zero, List.set_cons_succ]
        refine wpAnyH_ready (rs := [17]) (by kernel_rfl) (by simp) ?_
        refine AllReadyH.cons rfl (fun K2 hK2 => ?_) AllReadyH.nil
        rw [if_pos (by rfl)]
        go_simp
        go_at_call 9
        refine cS.mono ?_
        rintro e wd ⟨rfl, v2, hn2, hb2, hm2, hv2⟩
        have hst3 := HX.out wd (HIC.out.bel.trans hb2)
        dsimp only
        refine hK2.out _ _ hst3 (fun hHeld3 => ?_)
        try simp only [Act.put, List.setIfInBounds_toArray, List.set_cons_zero, List.set_cons_succ]
        refine takeD (i := 18) (d := 52) (v := .bool (E == 0)) rfl rfl (by kernel_rfl) (by kernel_rfl) (by kernel_rfl) (fun _ _ _ h => h) (.inl ⟨by rfl, fun w hSw => by dsimp only at hSw; go_simp; try with_reducible rfl⟩) (by assumption) ?_
        simp only [Act.put, List.setIfInBounds_toArray, List.set_cons_zero, List.set_cons_succ]
        refine wpAnyH_done (by kernel_rfl) ?_ _
        obtain ⟨g1, g2, g3, g4, g5⟩ := HIC.out.step hn2 hb2 hm2 hv2 HOK2.out
        have HG := Lib.hid (And.intro g1 (And.intro g2 (And.intro g3 (And.intro g4 g5))))
        have hmost := hI.out.most
        clear hn2 hb2 hm2 hv2 g1 g2 g3 g4 g5 hcv cS hst hst2 hHeld hHeld2 hHeld3 hsc hsi2
        clear hK hK2
        go_upto_if 52 with fail
        go_cut [7] (fun s7 wx => ∃ (sent' : List PK) (As' : Option Addr) (cs' : Nat), s7 = .slice As' sent'.length cs' ∧ Hid (OI w wx p (i + 1) a s7 N2 v2 sent'))
        case first =>
          obtain ⟨g1, g2, g3, g4, g5⟩ := HG.out
          rcases HROW2.out with ⟨hE, hrow⟩ | ⟨hE, hrow⟩
          · subst hE
            obtain ⟨x1, x2, x3⟩ := hst3
            obtain ⟨w3, hw3⟩ : ∃ w3, w3 = (wd.alloc (.cells #[.int .i64 s.frm, .int .i64 s.dst, .string s.data] 36)).drew := ⟨_, rfl⟩
            have hb3 : Below wd.heap.size wd w3 := by rw [hw3]; exact ((Below.refl _ _).alloc (Nat.le_refl _) _).drew
            have hx3 : w3.heap[wd.heap.size]? = some (.cells (pkR.vals s.pk).toArray 36 (0, 0)) := by rw [hw3]; exact heap_alloc_new wd _
            obtain ⟨iu, hiu, y0, y1, y2⟩ := info_parts info_PK
            have hs3 := hb3.size
            have hsd := g4.size
            obtain ⟨v4, w4, hr, ho, hg, hat⟩ := Rec.app (P := Try.prog) (t := 43) Try.underlying43 hiu y0 y1 y2 rfl (by decide) (g3.below hb3) (Rec.one_row (R := pkR) (N := Any) hx3 trivial) (by unfold maxLen; simp; omega) (by simp; omega) (by omega)
            obtain ⟨A4, c4, hv4e⟩ := ho.slice
            rw [show (sent ++ [s.pk]).length = sent.length + 1 by simp] at hv4e
            subst hv4e
            have hle := hI.out.le
            have hrow0 := hI.out.row
            have hsl : ∀ g, (Value.slice As sent.length cs).ownBlock = some g → g < wd.heap.size := fun g hg => (g3.lt g hg).2
            have hv2l : ∀ g, v2.ownBlock = some g → g < wd.heap.size := fun g hg => (g1.row.lt g hg).2
            have hO4 : OI w w4 p (i + 1) a (.slice A4 (sent.length + 1) c4) N2 v2 (sent ++ [s.pk]) :=
              ⟨(g1.grow hb3).kept (fun b hb hbq => hg.block b hb (fun e => hbq.elim (fun e2 => (own_type g3 e.symm).ne g1.ty (by decide) e2) fun e2 => g5 b e2 e.symm)), g2,
                by rw [hrow, hrow0, List.drop_append_of_le_length hle], by rw [List.length_append]; omega, by rw [List.length_append]; simp; omega, ho,
                (g4.trans (Joins.below_le hb3 hsd)).grown hg (by omega) fun g hg => (g3.lt g hg).1,
                fun g hv hs => by
                  rcases hat with hat | hat
                  · rw [hat] at hs; exact g5 g hv hs
                  · rw [hat] at hs
                    have h1 := Option.some.inj hs
                    have h2 := hv2l g hv
                    omega⟩
            have hr' : (Builtin.append_ #[43, 43] 43 #[.slice As sent.length cs, .slice (some ⟨wd.heap.size, 0, none⟩) 1 1]).run Try.prog ((wd.alloc (.cells #[.int .i64 s.frm, .int .i64 s.dst, .string s.data] 36)).drew) = .ok (.slice A4 (sent.length + 1) c4) w4 := by rw [← hw3]; exact hr
            have HR := Lib.hid hr'
            have HO4 := Lib.hid hO4
            clear hr hr' hO4 ho hg hat hb3 hx3 hw3 hiu y0 y1 y2 hsl hv2l hrow hrow0 hle g1 g2 g3 g4 g5 hs3 hsd
            go_upto_region 12 with fail
            go_region_law (refine stepApp rfl (.tmp 53) (.tmp 70) 43 rfl (.slice As sent.length cs) (.slice (some ⟨wd.heap.size, 0, none⟩) 1 1) rfl rfl (by with_reducible exact HR.out) ?_)
            all_goals go_wp2_with fail
            all_goals go_meet
            all_goals exact ⟨sent ++ [s.pk], A4, c4, by rw [List.length_append]; rfl, HO4⟩
          · have hO : OI w wd p (i + 1) a (.slice As sent.length cs) N2 v2 sent := ⟨g1, g2, by rw [hrow]; exact hI.out.row, hI.out.le, Nat.le_succ_of_le hI.out.most, g3, g4, g5⟩
            have HO := Lib.hid hO
            have hE1 : (E == 0) = false := by simpa using hE
            clear hO hrow g1 g2 g3 g4 g5 hst3
            go_wp2_with fail
            go_meet
            exact ⟨sent, As, cs, rfl, HO⟩
        case rest =>
          obtain ⟨sent', As', cs', rfl, hO⟩ := hcut
          obtain ⟨wy, hwy⟩ : ∃ wy : World, wy = wc := ⟨_, rfl⟩
          subst hwy
          clear HG HROW2 HOK2 HIC hst3
          by_cases htk : i < tk.length ∧ tk[i]? = some true
          · obtain ⟨htl, hti⟩ := htk
            have t1 : (i : Int) < (tk.length : Int) := by omega
            obtain ⟨bt, ot, nt, kt, hv, -, hbt, hct⟩ := HT.out.cell hti
            injection hv with e1 e2 e3
            subst e1 e3
            clear e2
            have x0 : wy.cell? ⟨bt, ot + i, none⟩ = some (.bool true) := by
              have h0 := (hO.out.bel.cell (p := ⟨bt, ot + i * 1 + 0, none⟩) hbt).trans (hct 0 _ rfl)
              rw [Nat.mul_one] at h0
              exact h0
            have cT := ptake_any N2 0 (i + 1) _ _ _ wy hO.out.net hO.out.ok hO.out.bel.size
            have hfs := first_sent (n := N2) hO.out.row
            have hok3 := hO.out.ok.take0 0
            cases hsa : sent'[a]? with
            | none =>
              have hle : sent'.length ≤ a := List.getElem?_eq_none_iff.1 hsa
              have e2 : (N2.take 0).2 = none := hfs.1.trans hsa
              have e3 := NT.take_none e2
              rw [e2, e3] at cT
              have HE := Lib.hid hsa
              clear hfs hsa hok3 e2 e3 hti
              go_wp2_with fail
              refine cT.mono ?_
              rintro e wd ⟨he, v3, hn3, hb3, hm3, hv3⟩
              have he : e = .returned (.tuple #[.agg #[.int .i64 0, .int .i64 0, .string ⟨#[]⟩], .bool false]) := he
              subst he
              obtain ⟨g1, g2, g3, g4, g5⟩ := hO.out.step hn3 hb3 hm3 hv3 hO.out.ok
              obtain ⟨we, hwe⟩ : ∃ we, we = wd.alloc (.cells #[.int .i64 0, .int .i64 0, .string ⟨#[]⟩] 36) := ⟨_, rfl⟩
              have hbe : Below wd.heap.size wd we := by rw [hwe]; exact (Below.refl _ _).alloc (Nat.le_refl _) _
              have hO2 : OI w we p (i + 1) a (.slice As' sent'.length cs') N2 v3 sent' := OI.grow ⟨g1, g2, hO.out.row, hO.out.le, hO.out.most, g3, g4, g5⟩ hbe
              have hO3 : ∀ n, OI w (we.drewN n) p (i + 1) a (.slice As' sent'.length cs') N2 v3 sent' := fun n => hO2.grow (below_drewN (Below.refl _ _) n)
              have HWE := Lib.hid hwe
              have HO2 := Lib.hid hO3
              clear cT hwe hO2 hO3 hbe g1 g2 g3 g4 g5 hn3 hb3 hm3 hv3 x0
              go_upto_region 15 with fail
              rw [← HWE.out]
              refine wp_region_held_drew (S := fun _ : World => True) (by kernel_rfl) trivial (fun hHeld => ?_)
              refine takeD (i := 0) (d := 87) (v := .bool false) rfl rfl (by kernel_rfl) (by kernel_rfl) (by kernel_rfl) (fun _ _ _ h => h) (.inl ⟨by rfl, fun w hSw => by dsimp only at hSw; go_simp; try with_reducible rfl⟩) (by assumption) ?_
              simp only [Act.put, List.setIfInBounds_toArray, List.set_cons_zero, List.set_cons_succ]
              refine takeD (i := 1) (d := 88) (v := .int .i64 (a : Int)) rfl rfl (by kernel_rfl) (by kernel_rfl) (by kernel_rfl) (fun _ _ _ h => h) (.inl ⟨by rfl, fun w hSw => by dsimp only at hSw; go_simp; try with_reducible rfl⟩) (by assumption) ?_
              simp only [Act.put, List.setIfInBounds_toArray, List.set_cons_zero, List.set_cons_succ]
              refine takeD (i := 2) (d := 89) (v := .slice As' sent'.length cs') rfl rfl (by kernel_rfl) (by kernel_rfl) (by kernel_rfl) (fun _ _ _ h => h) (.inl ⟨by rfl, fun w hSw => by dsimp only at hSw; go_simp; try with_reducible rfl⟩) (by assumption) ?_
              simp only [Act.put, List.setIfInBounds_toArray, List.set_cons_zero, List.set_cons_succ]
              refine takeD (i := 3) (d := 90) (v := .int .i64 (sent'.length : Int)) rfl rfl (by kernel_rfl) (by kernel_rfl) (by kernel_rfl) (fun _ _ _ h => h) (.inl ⟨by rfl, fun w hSw => by dsimp only at hSw; go_simp; try with_reducible rfl⟩) (by assumption) ?_
              simp only [Act.put, List.setIfInBounds_toArray, List.set_cons_zero, List.set_cons_succ]
              refine takeD (i := 4) (d := 91) (v := .bool false) rfl rfl (by kernel_rfl) (by kernel_rfl) (by kernel_rfl) (fun _ _ _ h => h) (.inl ⟨by rfl, fun w hSw => by dsimp only at hSw; go_simp; try with_reducible rfl⟩) (by assumption) ?_
              simp only [Act.put, List.setIfInBounds_toArray, List.set_cons_zero, List.set_cons_succ]
              refine takeD (i := 5) (d := 92) (v := .bool false) rfl rfl (by kernel_rfl) (by kernel_rfl) (by kernel_rfl) (fun _ _ _ h => h) (.inl ⟨by rfl, fun w hSw => by dsimp only at hSw; go_simp; try with_reducible rfl⟩) (by assumption) ?_
              simp only [Act.put, List.setIfInBounds_toArray, List.set_cons_zero, List.set_cons_succ]
              refine takeD (i := 6) (d := 93) (v := .bool false) rfl rfl (by kernel_rfl) (by kernel_rfl) (by kernel_rfl) (fun _ _ _ h => h) (.inl ⟨by rfl, fun w hSw => by dsimp only at hSw; go_simp; try with_reducible rfl⟩) (by assumption) ?_
              simp only [Act.put, List.setIfInBounds_toArray, List.set_cons_zero, List.set_cons_succ]
              refine takeD (i := 7) (d := 94) (v := .bool false) rfl rfl (by kernel_rfl) (by kernel_rfl) (by kernel_rfl) (fun _ _ _ h => h) (.inl ⟨by rfl, fun w hSw => by dsimp only at hSw; go_simp; try with_reducible rfl⟩) (by assumption) ?_
              simp only [Act.put, List.setIfInBounds_toArray, List.set_cons_zero, List.set_cons_succ]
              refine takeD (i := 8) (d := 95) (v := .bool false) rfl rfl (by kernel_rfl) (by kernel_rfl) (by kernel_rfl) (fun _ _ _ h => h) (.inl ⟨by rfl, fun w hSw => by dsimp only at hSw; go_simp; try with_reducible rfl⟩) (by assumption) ?_
              simp only [Act.put, List.setIfInBounds_toArray, List.set_cons_zero, List.set_cons_succ]
              refine takeD (i := 9) (d := 96) (v := undef) rfl rfl (by kernel_rfl) (by kernel_rfl) (by kernel_rfl) (fun _ _ _ h => h) (.inr ⟨by rfl, rfl⟩) (by assumption) ?_
              simp only [Act.put, List.setIfInBounds_toArray, List.set_cons_zero, List.set_cons_succ]
              refine takeD (i := 10) (d := 97) (v := undef) rfl rfl (by kernel_rfl) (by kernel_rfl) (by kernel_rfl) (fun _ _ _ h => h) (.inr ⟨by rfl, rfl⟩) (by assumption) ?_
              simp only [Act.put, List.setIfInBounds_toArray, List.set_cons_zero, List.set_cons_succ]
              refine takeD (i := 11) (d := 98) (v := undef) rfl rfl (by kernel_rfl) (by kernel_rfl) (by kernel_rfl) (fun _ _ _ h => h) (.inr ⟨by rfl, rfl⟩) (by assumption) ?_
              simp only [Act.put, List.setIfInBounds_toArray, List.set_cons_zero, List.set_cons_succ]
              refine takeD (i := 12) (d := 99) (v := undef) rfl rfl (by kernel_rfl) (by kernel_rfl) (by kernel_rfl) (fun _ _ _ h => h) (.inr ⟨by rfl, rfl⟩) (by assumption) ?_
              simp only [Act.put, List.setIfInBounds_toArray, List.set_cons_zero, List.set_cons_succ]
              refine takeD (i := 13) (d := 100) (v := undef) rfl rfl (by kernel_rfl) (by kernel_rfl) (by kernel_rfl) (fun _ _ _ h => h) (.inr ⟨by rfl, rfl⟩) (by assumption) ?_
              simp only [Act.put, List.setIfInBounds_toArray, List.set_cons_zero, List.set_cons_succ]
              refine takeD (i := 14) (d := 101) (v := undef) rfl rfl (by kernel_rfl) (by kernel_rfl) (by kernel_rfl) (fun _ _ _ h => h) (.inr ⟨by rfl, rfl⟩) (by assumption) ?_
              simp only [Act.put, List.setIfInBounds_toArray, List.set_cons_zero, List.set_cons_succ]
              refine takeD (i := 15) (d := 102) (v := .bool false) rfl rfl (by kernel_rfl) (by kernel_rfl) (by kernel_rfl) (fun _ _ _ h => h) (.inl ⟨by rfl, fun w hSw => by dsimp only at hSw; go_simp; try with_reducible rfl⟩) (by assumption) ?_
              simp only [Act.put, List.setIfInBounds_toArray, List.set_cons_zero, List.set_cons_succ]
              refine takeD (i := 16) (d := 103) (v := .bool false) rfl rfl (by kernel_rfl) (by kernel_rfl) (by kernel_rfl) (fun _ _ _ h => h) (.inl ⟨by rfl, fun w hSw => by dsimp only at hSw; go_simp; try with_reducible rfl⟩) (by assumption) ?_
              simp only [Act.put, List.setIfInBounds_toArray, List.set_cons_zero, List.set_cons_succ]
              refine wpAnyH_done (by kernel_rfl) ?_ _
              clear hHeld
              go_wp2_with fail
              exact ⟨⟨i + 1, a, _, _, sent', As', cs', by go_num, rfl, rfl, hil, Lib.hid (HO2.out _)⟩, by simp [intOf]; omega⟩
            | some x =>
              have hle : (a : Int) < (sent'.length : Int) := by have := (List.getElem?_eq_some_iff.1 hsa).1; omega
              have e2 : (N2.take 0).2 = some x := hfs.1.trans hsa
              have e3 := hfs.2 x hsa
              obtain ⟨N3, hN3⟩ : ∃ N3, N3 = (N2.take 0).1 := ⟨_, rfl⟩
              rw [e2, ← hN3] at cT
              rw [← hN3] at e3 hok3
              have HE := Lib.hid hsa
              have HE3 := Lib.hid e3
              have HOK3 := Lib.hid hok3
              clear hfs hsa hok3 e2 e3 hti hN3
              go_wp2_with fail
              refine cT.mono ?_
              rintro e wd ⟨he, v3, hn3, hb3, hm3, hv3⟩
              have he : e = .returned (.tuple #[.agg #[.int .i64 x.frm, .int .i64 x.dst, .string x.data], .bool true]) := he
              subst he
              obtain ⟨g1, g2, g3, g4, g5⟩ := hO.out.step hn3 hb3 hm3 hv3 HOK3.out
              obtain ⟨we, hwe⟩ : ∃ we, we = wd.alloc (.cells #[.int .i64 x.frm, .int .i64 x.dst, .string x.data] 36) := ⟨_, rfl⟩
              have hbe : Below wd.heap.size wd we := by rw [hwe]; exact (Below.refl _ _).alloc (Nat.le_refl _) _
              have hxe : we.heap[wd.heap.size]? = some (.cells #[.int .i64 x.frm, .int .i64 x.dst, .string x.data] 36 (0, 0)) := by rw [hwe]; exact heap_alloc_new wd _
              have hal : a < sent'.length := by omega
              obtain ⟨bs, os, ns, ks, hv, -, hbs, d0, d1, d2⟩ := pk_cell (g3.below hbe).n HE.out
              injection hv with e1 e2 e3
              subst e1 e3
              clear e2
              obtain ⟨c0, c1, c2⟩ : we.cell? ⟨wd.heap.size, 0, none⟩ = some (.int .i64 x.frm) ∧ we.cell? ⟨wd.heap.size, 1, none⟩ = some (.int .i64 x.dst) ∧ we.cell? ⟨wd.heap.size, 2, none⟩ = some (.string x.data) := ⟨(blk_cells hxe).1 0, (blk_cells hxe).1 1, (blk_cells hxe).1 2⟩
              have hO2 : OI w we p (i + 1) (a + 1) (.slice (some ⟨bs, os, none⟩) sent'.length cs') N3 v3 sent' := OI.grow ⟨g1, g2, HE3.out, hal, hO.out.most, g3, g4, g5⟩ hbe
              have hO3 : OI w we.drew p (i + 1) (a + 1) (.slice (some ⟨bs, os, none⟩) sent'.length cs') N3 v3 sent' := hO2.grow (Below.refl _ _).drew
              have HWE := Lib.hid hwe
              have HO2 := Lib.hid hO3
              have ha0 : a < 1000 := by have := hO.out.most; omega
              clear cT hwe hO2 hO3 hbe g1 g2 g3 g4 g5 hn3 hb3 hm3 hv3 x0 hxe hbs
              go_upto_region 15 with fail
              rw [← HWE.out]
              refine wp_region_held_drew (S := fun W : World => (W.cell? ⟨wd.heap.size, 0, none⟩ = some (.int .i64 x.frm) ∧ W.cell? ⟨wd.heap.size, 1, none⟩ = some (.int .i64 x.dst) ∧ W.cell? ⟨wd.heap.size, 2, none⟩ = some (.string x.data)) ∧ W.cell? ⟨bs, os + a * 3, none⟩ = some (.int .i64 x.frm) ∧ W.cell? ⟨bs, os + a * 3 + 1, none⟩ = some (.int .i64 x.dst) ∧ W.cell? ⟨bs, os + a * 3 + 2, none⟩ = some (.string x.data)) (by kernel_rfl) ⟨⟨c0, c1, c2⟩, d0, d1, d2⟩ (fun hHeld => ?_)
              refine takeD (i := 0) (d := 87) (v := .bool true) rfl rfl (by kernel_rfl) (by kernel_rfl) (by kernel_rfl) (fun _ _ _ h => h) (.inl ⟨by rfl, fun w hSw => by dsimp only at hSw; go_simp; try with_reducible rfl⟩) (by assumption) ?_
              simp only [Act.put, List.setIfInBounds_toArray, List.set_cons_zero, List.set_cons_succ]
              refine takeD (i := 1) (d := 88) (v := .int .i64 (a : Int)) rfl rfl (by kernel_rfl) (by kernel_rfl) (by kernel_rfl) (fun _ _ _ h => h) (.inl ⟨by rfl, fun w hSw => by dsimp only at hSw; go_simp; try with_reducible rfl⟩) (by assumption) ?_
              simp only [Act.put, List.setIfInBounds_toArray, List.set_cons_zero, List.set_cons_succ]
              refine takeD (i := 2) (d := 89) (v := .slice (some ⟨bs, os, none⟩) sent'.length cs') rfl rfl (by kernel_rfl) (by kernel_rfl) (by kernel_rfl) (fun _ _ _ h => h) (.inl ⟨by rfl, fun w hSw => by dsimp only at hSw; go_simp; try with_reducible rfl⟩) (by assumption) ?_
              simp only [Act.put, List.setIfInBounds_toArray, List.set_cons_zero, List.set_cons_succ]
              refine takeD (i := 3) (d := 90) (v := .int .i64 (sent'.length : Int)) rfl rfl (by kernel_rfl) (by kernel_rfl) (by kernel_rfl) (fun _ _ _ h => h) (.inl ⟨by rfl, fun w hSw => by dsimp only at hSw; go_simp; try with_reducible rfl⟩) (by assumption) ?_
              simp only [Act.put, List.setIfInBounds_toArray, List.set_cons_zero, List.set_cons_succ]
              refine takeD (i := 4) (d := 91) (v := .bool true) rfl rfl (by kernel_rfl) (by kernel_rfl) (by kernel_rfl) (fun _ _ _ h => h) (.inl ⟨by rfl, fun w hSw => by dsimp only at hSw; go_simp; try with_reducible rfl⟩) (by assumption) ?_
              simp only [Act.put, List.setIfInBounds_toArray, List.set_cons_zero, List.set_cons_succ]
              refine takeD (i := 5) (d := 92) (v := .bool false) rfl rfl (by kernel_rfl) (by kernel_rfl) (by kernel_rfl) (fun _ _ _ h => h) (.inl ⟨by rfl, fun w hSw => by dsimp only at hSw; go_simp; try with_reducible rfl⟩) (by assumption) ?_
              simp only [Act.put, List.setIfInBounds_toArray, List.set_cons_zero, List.set_cons_succ]
              refine takeD (i := 6) (d := 93) (v := .bool false) rfl rfl (by kernel_rfl) (by kernel_rfl) (by kernel_rfl) (fun _ _ _ h => h) (.inl ⟨by rfl, fun w hSw => by dsimp only at hSw; go_simp; try with_reducible rfl⟩) (by assumption) ?_
              simp only [Act.put, List.setIfInBounds_toArray, List.set_cons_zero, List.set_cons_succ]
              refine takeD (i := 7) (d := 94) (v := .bool true) rfl rfl (by kernel_rfl) (by kernel_rfl) (by kernel_rfl) (fun _ _ _ h => h) (.inl ⟨by rfl, fun w hSw => by dsimp only at hSw; go_simp; try with_reducible rfl⟩) (by assumption) ?_
              simp only [Act.put, List.setIfInBounds_toArray, List.set_cons_zero, List.set_cons_succ]
              refine takeD (i := 8) (d := 95) (v := .bool true) rfl rfl (by kernel_rfl) (by kernel_rfl) (by kernel_rfl) (fun _ _ _ h => h) (.inl ⟨by rfl, fun w hSw => by dsimp only at hSw; go_simp; try with_reducible rfl⟩) (by assumption) ?_
              simp only [Act.put, List.setIfInBounds_toArray, List.set_cons_zero, List.set_cons_succ]
              refine takeD (i := 9) (d := 96) (v := .agg #[.int .i64 x.frm, .int .i64 x.dst, .string x.data]) rfl rfl (by kernel_rfl) (by kernel_rfl) (by kernel_rfl) (fun _ _ _ h => h) (.inl ⟨by rfl, fun w hSw => by dsimp only at hSw; go_simp; try with_reducible rfl⟩) (by assumption) ?_
              simp only [Act.put, List.setIfInBounds_toArray, List.set_cons_zero, List.set_cons_succ]
              refine takeD (i := 10) (d := 97) (v := .slice (some ⟨bs, os, none⟩) sent'.length cs') rfl rfl (by kernel_rfl) (by kernel_rfl) (by kernel_rfl) (fun _ _ _ h => h) (.inl ⟨by rfl, fun w hSw => by dsimp only at hSw; go_simp; try with_reducible rfl⟩) (by assumption) ?_
              simp only [Act.put, List.setIfInBounds_toArray, List.set_cons_zero, List.set_cons_succ]
              refine takeD (i := 11) (d := 98) (v := .int .i64 (a : Int)) rfl rfl (by kernel_rfl) (by kernel_rfl) (by kernel_rfl) (fun _ _ _ h => h) (.inl ⟨by rfl, fun w hSw => by dsimp only at hSw; go_simp; try with_reducible rfl⟩) (by assumption) ?_
              simp only [Act.put, List.setIfInBounds_toArray, List.set_cons_zero, List.set_cons_succ]
              refine takeD (i := 12) (d := 99) (v := .pointer (some ⟨bs, os + a * 3, none⟩)) rfl rfl (by kernel_rfl) (by kernel_rfl) (by kernel_rfl) (fun _ _ _ h => h) (.inl ⟨by rfl, fun w hSw => by dsimp only at hSw; go_simp; try with_reducible rfl⟩) (by assumption) ?_
              simp only [Act.put, List.setIfInBounds_toArray, List.set_cons_zero, List.set_cons_succ]
              refine takeD (i := 13) (d := 100) (v := .agg #[.int .i64 x.frm, .int .i64 x.dst, .string x.data]) rfl rfl (by kernel_rfl) (by kernel_rfl) (by kernel_rfl) (fun _ _ _ h => h) (.inl ⟨by rfl, fun w hSw => by dsimp only at hSw; go_simp; try with_reducible rfl⟩) (by assumption) ?_
              simp only [Act.put, List.setIfInBounds_toArray, List.set_cons_zero, List.set_cons_succ]
              refine takeD (i := 14) (d := 101) (v := .bool false) rfl rfl (by kernel_rfl) (by kernel_rfl) (by kernel_rfl) (fun _ _ _ h => h) (.inl ⟨by rfl, fun w hSw => by dsimp only at hSw; go_simp; try with_reducible rfl⟩) (by assumption) ?_
              simp only [Act.put, List.setIfInBounds_toArray, List.set_cons_zero, List.set_cons_succ]
              refine takeD (i := 15) (d := 102) (v := .bool false) rfl rfl (by kernel_rfl) (by kernel_rfl) (by kernel_rfl) (fun _ _ _ h => h) (.inl ⟨by rfl, fun w hSw => by dsimp only at hSw; go_simp; try with_reducible rfl⟩) (by assumption) ?_
              simp only [Act.put, List.setIfInBounds_toArray, List.set_cons_zero, List.set_cons_succ]
              refine takeD (i := 16) (d := 103) (v := .bool false) rfl rfl (by kernel_rfl) (by kernel_rfl) (by kernel_rfl) (fun _ _ _ h => h) (.inl ⟨by rfl, fun w hSw => by dsimp only at hSw; go_simp; try with_reducible rfl⟩) (by assumption) ?_
              simp only [Act.put, List.setIfInBounds_toArray, List.set_cons_zero, List.set_cons_succ]
              refine wpAnyH_done (by kernel_rfl) ?_ _
              clear hHeld c0 c1 c2 d0 d1 d2
              go_wp2_with fail
              exact ⟨⟨i + 1, a + 1, _, _, sent', some ⟨bs, os, none⟩, cs', by go_num, by go_num, rfl, hil, HO2⟩, by simp [intOf]; omega⟩
          · by_cases htl : i < tk.length
            · have t1 : (i : Int) < (tk.length : Int) := by omega
              have hti : tk[i]? = some false := by
                rw [List.getElem?_eq_getElem htl]
                cases hb : tk[i] with
                | false => rfl
                | true => exact absurd ⟨htl, by rw [List.getElem?_eq_getElem htl, hb]⟩ htk
              obtain ⟨bt, ot, nt, kt, hv, -, hbt, hct⟩ := HT.out.cell hti
              injection hv with e1 e2 e3
              subst e1 e3
              clear e2
              have x0 : wy.cell? ⟨bt, ot + i, none⟩ = some (.bool false) := by
                have h0 := (hO.out.bel.cell (p := ⟨bt, ot + i * 1 + 0, none⟩) hbt).trans (hct 0 _ rfl)
                rw [Nat.mul_one] at h0
                exact h0
              clear hti htk hct
              go_wp2_with fail
              exact ⟨⟨i + 1, a, _, _, sent', As', cs', by go_num, rfl, rfl, hil, hO⟩, by simp [intOf]; omega⟩
            · have t1 : ¬ (i : Int) < (tk.length : Int) := by omega
              clear htk
              go_wp2_with fail
              exact ⟨⟨i + 1, a, _, _, sent', As', cs', by go_num, rfl, rfl, hil, hO⟩, by simp [intOf]; omega⟩
      · have a1 : ¬ (i : Int) < (l.length : Int) := by omega
        have hlen150 : i ≤ 150 := by omega
        have hL2 : ∃ (a2 : Nat) (N2 : NT) (v2 : Value), OI w wz p i a2 (.slice As sent.length cs) N2 v2 sent := ⟨a, N, v, hI.out⟩
        go_wp2_with fail
        go_loopw [8] (fun s8 wr => ∃ (a2 : Nat) (N2 : NT) (v2 : Value), s8 = .int .i64 (a2 : Int) ∧ Hid (OI w wr p i a2 (.slice As sent.length cs) N2 v2 sent)) (fun s8 _ => sent.length - (intOf s8).toNat)
        case atStart => exact ⟨a, N, v, rfl, hI⟩
        case round =>
          obtain ⟨a2, N2, v2, rfl, hJ⟩ := hrel
          obtain ⟨wy, hwy⟩ : ∃ wy : World, wy = wr := ⟨_, rfl⟩
          subst hwy
          by_cases hal : a2 < sent.length
          · have b1 : (a2 : Int) < (sent.length : Int) := by omega
            have cT := ptake_any N2 0 i _ _ _ wy hJ.out.net hJ.out.ok hJ.out.bel.size
            have hfs := first_sent (n := N2) hJ.out.row
            have hok3 := hJ.out.ok.take0 0
            obtain ⟨x, hsa⟩ : ∃ x, sent[a2]? = some x := ⟨_, List.getElem?_eq_getElem hal⟩
            have e2 : (N2.take 0).2 = some x := hfs.1.trans hsa
            have e3 := hfs.2 x hsa
            obtain ⟨N3, hN3⟩ : ∃ N3, N3 = (N2.take 0).1 := ⟨_, rfl⟩
            rw [e2, ← hN3] at cT
            rw [← hN3] at e3 hok3
            have HE := Lib.hid hsa
            have HE3 := Lib.hid e3
            have HOK3 := Lib.hid hok3
            clear hfs hsa hok3 e2 e3 hN3 hL2
            go_wp2_with fail
            refine cT.mono ?_
            rintro e wd ⟨he, v3, hn3, hb3, hm3, hv3⟩
            have he : e = .returned (.tuple #[.agg #[.int .i64 x.frm, .int .i64 x.dst, .string x.data], .bool true]) := he
            subst he
            obtain ⟨g1, g2, g3, g4, g5⟩ := hJ.out.step hn3 hb3 hm3 hv3 HOK3.out
            obtain ⟨we, hwe⟩ : ∃ we, we = wd.alloc (.cells #[.int .i64 x.frm, .int .i64 x.dst, .string x.data] 36) := ⟨_, rfl⟩
            have hbe : Below wd.heap.size wd we := by rw [hwe]; exact (Below.refl _ _).alloc (Nat.le_refl _) _
            have hxe : we.heap[wd.heap.size]? = some (.cells #[.int .i64 x.frm, .int .i64 x.dst, .string x.data] 36 (0, 0)) := by rw [hwe]; exact heap_alloc_new wd _
            obtain ⟨bs, os, ns, ks, hv, -, hbs, d0, d1, d2⟩ := pk_cell (g3.below hbe).n HE.out
            injection hv with e1 e2 e3
            subst e1 e3
            clear e2
            obtain ⟨c0, c1, c2⟩ : we.cell? ⟨wd.heap.size, 0, none⟩ = some (.int .i64 x.frm) ∧ we.cell? ⟨wd.heap.size, 1, none⟩ = some (.int .i64 x.dst) ∧ we.cell? ⟨wd.heap.size, 2, none⟩ = some (.string x.data) := ⟨(blk_cells hxe).1 0, (blk_cells hxe).1 1, (blk_cells hxe).1 2⟩
            have hO2 : OI w we p i (a2 + 1) (.slice (some ⟨bs, os, none⟩) sent.length cs) N3 v3 sent := OI.grow ⟨g1, g2, HE3.out, hal, hJ.out.most, g3, g4, g5⟩ hbe
            have hO3 : OI w we.drew p i (a2 + 1) (.slice (some ⟨bs, os, none⟩) sent.length cs) N3 v3 sent := hO2.grow (Below.refl _ _).drew
            have HWE := Lib.hid hwe
            have HO2 := Lib.hid hO3
            have ha0 : a2 < 1000 := by have := hJ.out.most; omega
            clear cT hwe hO2 hO3 hbe g1 g2 g3 g4 g5 hn3 hb3 hm3 hv3 hxe hbs
            go_upto_region 21 with fail
            rw [← HWE.out]
            refine wp_region_held_drew (S := fun W : World => (W.cell? ⟨wd.heap.size, 0, none⟩ = some (.int .i64 x.frm) ∧ W.cell? ⟨wd.heap.size, 1, none⟩ = some (.int .i64 x.dst) ∧ W.cell? ⟨wd.heap.size, 2, none⟩ = some (.string x.data)) ∧ W.cell? ⟨bs, os + a2 * 3, none⟩ = some (.int .i64 x.frm) ∧ W.cell? ⟨bs, os + a2 * 3 + 1, none⟩ = some (.int .i64 x.dst) ∧ W.cell? ⟨bs, os + a2 * 3 + 2, none⟩ = some (.string x.data)) (by kernel_rfl) ⟨⟨c0, c1, c2⟩, d0, d1, d2⟩ (fun hHeld => ?_)
            refine takeD (i := 0) (d := 116) (v := .bool true) rfl rfl (by kernel_rfl) (by kernel_rfl) (by kernel_rfl) (fun _ _ _ h => h) (.inl ⟨by rfl, fun w hSw => by dsimp only at hSw; go_simp; try with_reducible rfl⟩) (by assumption) ?_
            simp only [Act.put, List.setIfInBounds_toArray, List.set_cons_zero, List.set_cons_succ]
            refine takeD (i := 1) (d := 117) (v := .bool false) rfl rfl (by kernel_rfl) (by kernel_rfl) (by kernel_rfl) (fun _ _ _ h => h) (.inl ⟨by rfl, fun w hSw => by dsimp only at hSw; go_simp; try with_reducible rfl⟩) (by assumption) ?_
            simp only [Act.put, List.setIfInBounds_toArray, List.set_cons_zero, List.set_cons_succ]
            refine takeD (i := 2) (d := 118) (v := .bool false) rfl rfl (by kernel_rfl) (by kernel_rfl) (by kernel_rfl) (fun _ _ _ h => h) (.inl ⟨by rfl, fun w hSw => by dsimp only at hSw; go_simp; try with_reducible rfl⟩) (by assumption) ?_
            simp only [Act.put, List.setIfInBounds_toArray, List.set_cons_zero, List.set_cons_succ]
            refine takeD (i := 3) (d := 119) (v := .agg #[.int .i64 x.frm, .int .i64 x.dst, .string x.data]) rfl rfl (by kernel_rfl) (by kernel_rfl) (by kernel_rfl) (fun _ _ _ h => h) (.inl ⟨by rfl, fun w hSw => by dsimp only at hSw; go_simp; try with_reducible rfl⟩) (by assumption) ?_
            simp only [Act.put, List.setIfInBounds_toArray, List.set_cons_zero, List.set_cons_succ]
            refine takeD (i := 4) (d := 120) (v := .slice (some ⟨bs, os, none⟩) sent.length cs) rfl rfl (by kernel_rfl) (by kernel_rfl) (by kernel_rfl) (fun _ _ _ h => h) (.inl ⟨by rfl, fun w hSw => by dsimp only at hSw; go_simp; try with_reducible rfl⟩) (by assumption) ?_
            simp only [Act.put, List.setIfInBounds_toArray, List.set_cons_zero, List.set_cons_succ]
            refine takeD (i := 5) (d := 121) (v := .int .i64 (a2 : Int)) rfl rfl (by kernel_rfl) (by kernel_rfl) (by kernel_rfl) (fun _ _ _ h => h) (.inl ⟨by rfl, fun w hSw => by dsimp only at hSw; go_simp; try with_reducible rfl⟩) (by assumption) ?_
            simp only [Act.put, List.setIfInBounds_toArray, List.set_cons_zero, List.set_cons_succ]
            refine takeD (i := 6) (d := 122) (v := .pointer (some ⟨bs, os + a2 * 3, none⟩)) rfl rfl (by kernel_rfl) (by kernel_rfl) (by kernel_rfl) (fun _ _ _ h => h) (.inl ⟨by rfl, fun w hSw => by dsimp only at hSw; go_simp; try with_reducible rfl⟩) (by assumption) ?_
            simp only [Act.put, List.setIfInBounds_toArray, List.set_cons_zero, List.set_cons_succ]
            refine takeD (i := 7) (d := 123) (v := .agg #[.int .i64 x.frm, .int .i64 x.dst, .string x.data]) rfl rfl (by kernel_rfl) (by kernel_rfl) (by kernel_rfl) (fun _ _ _ h => h) (.inl ⟨by rfl, fun w hSw => by dsimp only at hSw; go_simp; try with_reducible rfl⟩) (by assumption) ?_
            simp only [Act.put, List.setIfInBounds_toArray, List.set_cons_zero, List.set_cons_succ]
            refine takeD (i := 8) (d := 124) (v := .bool false) rfl rfl (by kernel_rfl) (by kernel_rfl) (by kernel_rfl) (fun _ _ _ h => h) (.inl ⟨by rfl, fun w hSw => by dsimp only at hSw; go_simp; try with_reducible rfl⟩) (by assumption) ?_
            simp only [Act.put, List.setIfInBounds_toArray, List.set_cons_zero, List.set_cons_succ]
            refine takeD (i := 9) (d := 125) (v := .bool false) rfl rfl (by kernel_rfl) (by kernel_rfl) (by kernel_rfl) (fun _ _ _ h => h) (.inl ⟨by rfl, fun w hSw => by dsimp only at hSw; go_simp; try with_reducible rfl⟩) (by assumption) ?_
            simp only [Act.put, List.setIfInBounds_toArray, List.set_cons_zero, List.set_cons_succ]
            refine wpAnyH_done (by kernel_rfl) ?_ _
            clear hHeld c0 c1 c2 d0 d1 d2
            go_wp2_with fail
            exact ⟨⟨a2 + 1, _, _, by go_num, HO2⟩, by simp [intOf]; omega⟩
          · have b1 : ¬ (a2 : Int) < (sent.length : Int) := by omega
            have cL := plen_any N2 _ _ _ wy hJ.out.net
            have hrow : N2.row = [] := by rw [hJ.out.row]; exact List.drop_eq_nil_of_le (by omega)
            rw [hrow] at cL
            have HBL := Lib.hid hJ.out.bel
            clear hrow
            go_wp2_with fail
            refine cL.mono ?_
            rintro e wd ⟨rfl, rfl⟩
            clear cL
            go_wp2_with fail
            go_ret
            exact ⟨rfl, HBL.out⟩
end Go.Proofs.Ytmnaekeecjlapaa
