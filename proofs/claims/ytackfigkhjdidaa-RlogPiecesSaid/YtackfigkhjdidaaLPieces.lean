/-
  Pieces of one log merged into another that began as it: the law, walked. No statement is proved here. No condition.
-/
import Derived.Test.YtackfigkhjdidaaLPiecesM
import Derived.Lib.SliceRun
namespace Go.Proofs.Ytackfigkhjdidaa
open Go.RowKit

def pieceR : Rec (Int × Int) where
  vals p := [.int .i64 p.1, .int .i64 p.2]
  size := 2
  len _ := rfl
  one p u hu := by simp at hu; rcases hu with rfl | rfl <;> rfl
/-- the first log in memory -/
structure M1 (w0 w : World) (A : Option Addr) (c : Nat) (L : List EN) (i : Nat) (t : Int) : Prop where
  gr : Gr L i t
  ent : ∃ rs, EntO w w0.heap.size (.slice A L.length c) rs L
  bel : Below w0.heap.size w0 w
theorem wrap_u8i {n : Nat} (h : n ≤ 255) : IntKind.u8.wrap (n : Int) = (n : Int) := by simp [IntKind.wrap, IntKind.bits, IntKind.signed]; omega
theorem u64_nat {n : Int} (h : 0 ≤ n ∧ n ≤ 9223372036854775807) : IntKind.u64.wrap n = n := by simp [IntKind.wrap, IntKind.bits, IntKind.signed]; omega
theorem mod_of (z : Int) (n : Nat) : ∃ r : Nat, r ≤ n ∧ (IntKind.u64.wrap z).tmod ((n : Int) + 1) = (r : Int) := by
  have hw : 0 ≤ IntKind.u64.wrap z := by rw [show IntKind.u64.wrap z = z % 18446744073709551616 by simp [IntKind.wrap, IntKind.bits, IntKind.signed]]; omega
  refine ⟨((IntKind.u64.wrap z).tmod ((n : Int) + 1)).toNat, ?_, ?_⟩
  · have h1 := Int.tmod_lt_of_pos (IntKind.u64.wrap z) (show (0 : Int) < (n : Int) + 1 by omega)
    have h2 := Int.tmod_nonneg ((n : Int) + 1) hw
    omega
  · exact (Int.toNat_of_nonneg (Int.tmod_nonneg _ hw)).symm
theorem EntO.far {w w' : World} {B : Nat} {v v2 : Value} {rs rs2 : List RE} {l l2 : List EN} (h : EntO w B v rs l) (h2 : EntO w B v2 rs2 l2) (hf : ∀ b, b < w.heap.size → v2.ownBlock ≠ some b → w'.heap[b]? = w.heap[b]?) (hne : ∀ b, v2.ownBlock = some b → v.ownBlock ≠ some b) : EntO w' B v rs l :=
  ⟨row_same h.row fun b hb => hf b (h.row.lt b hb).2 fun e => hne b e hb, h.len, fun i r e hr hx => ⟨(h.ent i r e hr hx).1, row_same (h.ent i r e hr hx).2 fun b hb => hf b ((h.ent i r e hr hx).2.lt b hb).2 fun e2 => by
    obtain ⟨c1, h1⟩ := row_type (h.ent i r _ hr hx).2 hb
    obtain ⟨c2, h3⟩ := row_type h2.row e2
    exact apart_T h1 h3 (by decide) rfl⟩⟩
/-- both logs in memory -/
structure M2 (w0 w : World) (A : Option Addr) (c : Nat) (L : List EN) (k : Nat) (A5 : Option Addr) (c5 : Nat) (M : List EN) (i : Nat) (u : Int) : Prop where
  gm : Gm L k M i u
  entM : ∃ rs, EntO w w0.heap.size (.slice A5 M.length c5) rs M
  entL : ∃ rs, EntO w w0.heap.size (.slice A L.length c) rs L
  ne : ∀ b, (Value.slice A5 M.length c5).ownBlock = some b → (Value.slice A L.length c).ownBlock ≠ some b
  bel : Below w0.heap.size w0 w
/-- one entry more of the other log -/
theorem M2.push {w0 w : World} {A : Option Addr} {c : Nat} {L : List EN} {k : Nat} {A5 : Option Addr} {c5 : Nat} {M : List EN} {i : Nat} {u : Int} (h : M2 w0 w A c L k A5 c5 M i u) (hM : M.length ≤ 1000) (hi : i ≤ 40) (u' : Int) (h1 : u ≤ u') (h2 : u' ≤ u + 6) (h3 : u' % 2 = 0) (h4 : 1 ≤ u') :
    ∃ A7 c7 w7, (Builtin.append_ #[31, 31] 31 #[.slice A5 M.length c5, .slice (some ⟨w.heap.size, 0, none⟩) 1 1]).run Try.prog (w.alloc (.cells #[.int .i64 u', .int .u8 1, .string ⟨#[]⟩, .slice none 0 0] 50)) = .ok (.slice A7 (M.length + 1) c7) w7 ∧ Hid (M2 w0 w7 A c L k A7 c7 (M ++ [⟨u', 1, ⟨#[]⟩, []⟩]) (i + 1) u') := by
  obtain ⟨rs, he⟩ := h.entM
  obtain ⟨rl, hl⟩ := h.entL
  obtain ⟨A7, c7, w7, hap, he7, hB7, -, hf, hat, hs⟩ := push_one he ⟨u', 1, ⟨#[]⟩, []⟩ rfl hM h.bel.size
  refine ⟨A7, c7, w7, hap, Lib.hid ⟨h.gm.step h1 h2 h3 h4 hi, he7, ⟨rl, hl.far he hf h.ne⟩, fun b hb => ?_, h.bel.trans hB7⟩⟩
  have hb' : (Value.slice A7 (M.length + 1) c7).ownBlock = some b := by cases A7 <;> exact hb
  rcases hat b hb' with e | e
  · exact h.ne b e
  · intro e2
    have := (hl.row.lt b e2).2
    omega
/-- a row's beginning, copied: entries of one's own -/
theorem copied_ents {w w3 : World} {B : Nat} {A A5 : Option Addr} {c c5 k : Nat} {rs : List RE} {L : List EN} (he : EntO w B (.slice A L.length c) rs L) (hk : k ≤ L.length) (ho : entR.Own w3 B 50 (.slice A5 k c5) (rs.take k)) (hb : Below w.heap.size w w3) : EntO w3 B (.slice A5 k c5) (rs.take k) (L.take k) :=
  ⟨ho, by rw [List.length_take, List.length_take, he.len], fun i r e hr hx => by
    rw [List.getElem?_take] at hr hx
    split at hr
    · rename_i hi
      rw [if_pos hi] at hx
      have := he.ent i r e hr hx
      exact ⟨this.1, this.2.below hb⟩
    · cases hr⟩
theorem row_till {w : World} {N : Nat → Prop} {A : Option Addr} {c k : Nat} {rs : List RE} (h : entR.N w N (.slice A rs.length c) rs) (hk : k ≤ rs.length) : entR.N w N (.slice A k c) (rs.take k) := by
  have := RowN.take (k := k) h hk
  unfold Rec.N
  rw [row_take, List.length_take, Nat.min_eq_left hk]
  exact this
/-- what a way shows, by the name of its proof: 'inferInstanceAs' lays such a proof in a theorem of its own -/
def WayTo {G : Prop} (_ : G) : Type := PLift G
instance wayTo {G : Prop} (h : G) : Nonempty (WayTo h) := ⟨PLift.up h⟩
theorem way_out {G : Prop} (h : Nonempty (PLift G)) : G := h.elim fun x => x.down

set_option maxHeartbeats 8000000 in
set_option maxRecDepth 100000 in
theorem pieces_walk (ts os : List UInt8) (leaves cut : Int) (ps : List (Int × Int)) (v0 v2 v4 : Value) (w : World) (h0 : Rd w w.heap.size v0 ts) (h2 : Rd w w.heap.size v2 os) (h4 : pieceR.N w Any v4 ps) :
    Calls Try.prog 9 #[v0, .int .i64 leaves, v2, .int .i64 cut, v4] w fun e w' => e = .returned (.bool true) ∧ Below w.heap.size w w' := by
  have h00 := h0
  have h22 := h2
  obtain ⟨A0, c0, hv0, hl0, hm0, -, -⟩ := h00
  obtain ⟨A2, c2, hv2, hl2, hm2, -, -⟩ := h22
  subst hv0 hv2
  obtain ⟨A4, c4, rfl, hl4, hm4⟩ := h4.slice
  unfold maxLen at hm0 hm2 hm4
  have H := Lib.hid (And.intro h0 (And.intro h2 h4))
  clear h0 h2 h4
  have cA : ∀ W, Calls Try.prog 25 #[] W fun e w' => e = .returned (.bool true) ∧ Below W.heap.size W w' := awake_any
  go_enter Try.func9, Try.ntmps9
  by_cases g0 : (ts.length : Int) > 40
  · go_wp2_with fail
    refine (cA w).mono ?_
    rintro e w2 ⟨rfl, hb2⟩
    have HF := Lib.hid hb2
    clear cA hb2
    go_wp2_with fail
    go_ret
    exact ⟨rfl, HF.out⟩
  by_cases g2 : (os.length : Int) > 40
  · go_wp2_with fail
    refine (cA w).mono ?_
    rintro e w2 ⟨rfl, hb2⟩
    have HF := Lib.hid hb2
    clear cA hb2
    go_wp2_with fail
    go_ret
    exact ⟨rfl, HF.out⟩
  by_cases g4 : (ps.length : Int) > 40
  · go_wp2_with fail
    refine (cA w).mono ?_
    rintro e w2 ⟨rfl, hb2⟩
    have HF := Lib.hid hb2
    clear cA hb2
    go_wp2_with fail
    go_ret
    exact ⟨rfl, HF.out⟩
  go_wp2_with fail
  refine (cA w).mono ?_
  rintro e w1 ⟨rfl, hb1⟩
  clear cA
  have HM : Hid (M1 w w1 none 0 [] 0 1) := Lib.hid ⟨⟨rfl, rfl, fun e he => by simp at he, by decide, by decide, by decide, by decide⟩, ⟨[], Rec.Own.none _ _ _ _, rfl, fun i r e hr _ => by simp at hr⟩, hb1⟩
  have k0 : ts.length ≤ 40 := by omega
  have k2 : os.length ≤ 40 := by omega
  have k4 : ps.length ≤ 40 := by omega
  clear hb1 g0 g2 g4
  go_wp2_with fail
  go_loopw [11, 12, 13] (fun s11 s12 s13 wr => ∃ (i : Nat) (t : Int) (L : List EN) (A : Option Addr) (c : Nat), s13 = .int .i64 (i : Int) ∧ s12 = .int .i64 t ∧ s11 = .slice A L.length c ∧ i ≤ ts.length ∧ Hid (M1 w wr A c L i t)) (fun _ _ s13 _ => ts.length - (intOf s13).toNat)
  case atStart => exact ⟨0, 1, [], none, 0, rfl, rfl, rfl, Nat.zero_le _, HM⟩
  case round =>
    clear HM
    obtain ⟨i, t, L, A, c, rfl, rfl, rfl, hi, hM⟩ := hrel
    obtain ⟨wz, hwz⟩ : ∃ wz : World, wz = wr := ⟨_, rfl⟩
    subst hwz
    by_cases hil : i < ts.length
    · refine way_out (inferInstanceAs (Nonempty (WayTo (G := _) (by
        have a1 : (i : Int) < (ts.length : Int) := by omega
        have a0 : (0 : Int) ≤ (i : Int) := by omega
        obtain ⟨x, hx⟩ : ∃ x, ts[i]? = some x := ⟨_, List.getElem?_eq_getElem hil⟩
        have hrd := H.out.1.below hM.out.bel hM.out.bel.size
        obtain ⟨A', c', hv, -, -, -, hcl⟩ := hrd
        injection hv with e1 e2 e3
        obtain ⟨b, o, hA, -, hcells⟩ := hcl (by intro e; rw [e] at hil; simp at hil)
        subst e1 hA e3
        have hcell := hcells i x hx
        obtain ⟨m, hm3, hmod⟩ := u8_mod x
        obtain ⟨xn, hxn⟩ : ∃ xn : Int, xn = (x.toNat : Int) := ⟨_, rfl⟩
        rw [← hxn] at hcell hmod
        have hx3 : ¬ xn = 0 ∨ xn = 0 := by omega
        clear hxn hx3
        have hgr := hM.out.gr
        have hlo := hgr.lo
        have hhi := hgr.hi
        obtain ⟨q1, q2, q3, q4⟩ : wrap64 (m : Int) = (m : Int) ∧ wrap64 ((m : Int) * 2) = (m : Int) * 2 ∧ wrap64 (t + (m : Int) * 2) = t + (m : Int) * 2 ∧ IntKind.u8.wrap (m : Int) = (m : Int) := ⟨wrap_fit (by omega), wrap_fit (by omega), wrap_fit (by omega), wrap_u8i (by omega)⟩
        have q5 : IntKind.u8.wrap (i : Int) = (i : Int) := wrap_u8i (by omega)
        clear hcells hcl hx e2
        have HGR := Lib.hid hgr
        clear hgr hlo hhi
        go_upto_region 9 with fail
        clear hcell hmod
        obtain ⟨t', ht'⟩ : ∃ t', t' = wrap64 (t + (m : Int) * 2) := ⟨_, rfl⟩
        rw [← ht']
        rw [q3] at ht'
        clear q1 q2 q3 q4
        obtain ⟨d, hd⟩ : ∃ d : ByteArray, d = ⟨[UInt8.ofNat i].toArray⟩ := ⟨_, rfl⟩
        have hds : d.size ≤ 256 := by rw [hd]; show (1 : Nat) ≤ 256; decide
        have cv := conv_str (Rd.lit wz 5 (i : Int) (UInt8.ofNat i) (by rw [UInt8.toNat_ofNat']; omega))
        rw [← hd] at cv
        obtain ⟨wb, hwb⟩ : ∃ wb, wb = wz.alloc (.cells #[.int .u8 (i : Int)] 5) := ⟨_, rfl⟩
        have hbb : Below wz.heap.size wz wb := by rw [hwb]; exact (Below.refl _ _).alloc (Nat.le_refl _) _
        obtain ⟨rs, he⟩ := hM.out.ent
        have hBb := hM.out.bel.trans (Joins.below_le hbb hM.out.bel.size)
        obtain ⟨A7, c7, w7, hap, he7, hB7, -⟩ := push_one (he.below hbb) ⟨t', 2, d, []⟩ rfl (by rw [HGR.out.len]; omega) hBb.size
        have hgr7 := HGR.out.step hm3 ht' hds (by omega)
        have hl7 : (L ++ [(⟨t', 2, d, []⟩ : EN)]).length = L.length + 1 := by simp
        have HM7 : Hid (M1 w w7 A7 c7 (L ++ [⟨t', 2, d, []⟩]) (i + 1) t') := Lib.hid ⟨hgr7, he7, hBb.trans hB7⟩
        have hwbs : wb.heap.size = wz.heap.size + 1 := by rw [hwb]; simp
        dsimp only at hap
        rw [hwbs, hwb] at hap
        have HAP := Lib.hid hap
        have HL7 := Lib.hid hl7
        clear hd hds hwb hbb he hBb hap he7 hB7 hgr7 hl7 ht' hwbs hM
        go_wp2_with (at_builtin; go_must (refine Lib.wpList_append_run _ rfl (.tmp 65) (.tmp 72) 31 31 rfl _ _ rfl rfl _ _ HAP.out ?_))
        exact ⟨⟨i + 1, t', _, A7, c7, by go_num, rfl, by rw [HL7.out], hil, HM7⟩, by simp [intOf]; omega⟩))))
    · have a1 : ¬ (i : Int) < (ts.length : Int) := by omega
      have hie : i = ts.length := by omega
      have hgr := hM.out.gr
      have hLl : L.length ≤ 40 := by rw [hgr.len]; omega
      obtain ⟨k, hkl, hk⟩ := mod_of leaves L.length
      have HU200 := Lib.hid (hgr.low (k := k) (by omega))
      have hk14 : wrap64 ((IntKind.u64.wrap leaves).tmod ((L.length : Int) + 1)) = (k : Int) := by rw [hk, wrap_fit (n := (k : Int)) (by omega)]
      have HA : Hid (AllP L ∧ ∀ e ∈ L, e.list = []) := Lib.hid ⟨⟨hgr.fol, fun e he => (hgr.odd e he).1, hLl⟩, fun e he => (hgr.odd e he).2⟩
      obtain ⟨rs, he⟩ := hM.out.ent
      have HEN := Lib.hid he
      have HB := Lib.hid hM.out.bel
      have hcap : L.length ≤ c := by
        obtain ⟨A', c', hv, h1, -⟩ := he.n.slice
        injection hv with _ _ e
        rw [e]
        exact h1
      have hsl := fun W => tillE W A L.length c k (by omega)
      obtain ⟨ie, hie', z0, z1, z2⟩ := info_parts info_cEntry
      have hrl := he.len
      have hk1 : entR.N wz Any (.slice A k c) (rs.take k) := by
        have h0 := he.row.n.any
        rw [← hrl] at h0
        exact row_till h0 (by omega)
      have hrkl : (rs.take k).length = k := by rw [List.length_take]; omega
      obtain ⟨A5, c5, w3, hap, ho5, hb5⟩ := lit_app (R := entR) (w := wz) (B := wz.heap.size) (t := 31) Try.underlying31 hie' z0 z1 z2 rfl (by decide) hk1 (by rw [hrkl]; unfold maxLen; omega) (by rw [hrkl]; omega) (Nat.le_refl _)
      rw [hrkl] at hap ho5
      have HM5 : Hid (∃ rs', EntO w3 w.heap.size (.slice A5 k c5) rs' (L.take k)) := Lib.hid ⟨_, copied_ents he hkl (own_base ho5 HB.out.size) hb5⟩
      have HNE : Hid (∀ b, (Value.slice A5 k c5).ownBlock = some b → (Value.slice A L.length c).ownBlock ≠ some b) := Lib.hid fun b hb e => by
        have h1 := (ho5.lt b hb).1
        have h2 := (he.row.lt b e).2
        omega
      have HE3 := Lib.hid (he.below hb5)
      have HB3 := Lib.hid (HB.out.trans (Joins.below_le hb5 HB.out.size))
      obtain ⟨n5, hn5⟩ : ∃ n5, n5 = k := ⟨_, rfl⟩
      have hap2 : (Builtin.append_ #[31, 31] 31 #[.slice (some ⟨wz.heap.size, 0, none⟩) 0 0, .slice A k c]).run Try.prog (wz.alloc (.cells #[] 50)) = .ok (.slice A5 n5 c5) w3 := by rw [hn5]; exact hap
      have HN5 := Lib.hid hn5
      have HAP := Lib.hid hap2
      have HK14 := Lib.hid hk14
      clear hM hgr he hie hk hk14 hcap hie' z0 z1 z2 hk1 hrkl hrl ho5 hb5 hap hap2 hn5 hi hil HEN HB
      go_upto_region 11 with fail
      rw [HK14.out]
      clear HK14
      go_upto_if 88 with (at_builtin; go_must (refine Lib.wpList_append_run _ rfl (.tmp 82) (.tmp 85) 31 31 rfl _ _ rfl rfl _ _ HAP.out ?_))
      clear HAP hsl
      obtain ⟨u0, hu0⟩ : ∃ u0, u0 = lastTerm 0 (L.take k) := ⟨_, rfl⟩
      have HU0 := Lib.hid hu0
      have hcell : 0 < k → ∃ b o, A = some ⟨b, o, none⟩ ∧ w3.cell? ⟨b, o + (k - 1) * 4, none⟩ = some (.int .i64 u0) := fun hk0 => by
        obtain ⟨x, hx⟩ : ∃ x, L[k - 1]? = some x := ⟨_, List.getElem?_eq_getElem (by omega)⟩
        obtain ⟨b, o, n', k', A3, c3, hv, -, -, -, y0, -, -, -⟩ := HE3.out.n.cell hx
        injection hv with e1 e2 e3
        refine ⟨b, o, e1, ?_⟩
        have := getLast_take hx
        rw [show k - 1 + 1 = k by omega] at this
        rw [hu0, this, lastTerm_snoc]
        exact y0
      clear hu0
      go_cut [16] (fun s16 wx => s16 = .int .i64 u0 ∧ wx = w3)
      case first =>
        by_cases hk0 : (k : Int) > 0
        · obtain ⟨b, o, e1, hc⟩ := hcell (by omega)
          subst e1
          clear hcell
          go_wp2_with fail
          go_meet
          exact ⟨rfl, rfl⟩
        · have h0 : u0 = 0 := by
            rw [HU0.out, show k = 0 by omega]
            rfl
          clear hcell
          go_wp2_with fail
          go_meet
          exact ⟨by rw [h0], rfl⟩
      case rest =>
        obtain ⟨rfl, rfl⟩ := hcut
        clear hcell
        obtain ⟨w3, hw3⟩ : ∃ w3 : World, w3 = wc := ⟨_, rfl⟩
        subst hw3
        have hkl2 : (L.take k).length = k := by rw [List.length_take, Nat.min_eq_left hkl]
        have HM2 : Hid (M2 w w3 A c L k A5 c5 (L.take k) 0 u0) := Lib.hid (by
          have hu : u0 = lastTerm 0 (L.take k) := HU0.out
          have hr := last_range HA.out.1 (f := k)
          refine ⟨⟨⟨[], by rw [List.append_nil], fun e he => by simp at he, rfl⟩, (follows_split k HA.out.1.fol).1, by rw [hu]; exact Int.le_refl _, by omega, ?_⟩, by rw [hkl2]; exact HM5.out, ⟨_, HE3.out⟩, by rw [hkl2]; exact HNE.out, HB3.out⟩
          have h1 := HU200.out
          omega)
        clear HM5 HE3 HNE HB3 HU0 HU200 hkl2
        go_wp2_with fail
        rw [show n5 = (L.take k).length by rw [HN5.out, List.length_take, Nat.min_eq_left hkl]]
        go_loopw [15, 16, 17] (fun s15 s16 s17 wr => ∃ (i : Nat) (u : Int) (M : List EN) (A5 : Option Addr) (c5 : Nat), s17 = .int .i64 (i : Int) ∧ s16 = .int .i64 u ∧ s15 = .slice A5 M.length c5 ∧ i ≤ os.length ∧ Hid (M2 w wr A c L k A5 c5 M i u)) (fun _ _ s17 _ => os.length - (intOf s17).toNat)
        case atStart => exact ⟨0, u0, L.take k, A5, c5, rfl, rfl, rfl, Nat.zero_le _, HM2⟩
        case round =>
          clear HM2
          obtain ⟨i, u, M, A5, c5, rfl, rfl, rfl, hi, hM⟩ := hrel
          obtain ⟨wz, hwz⟩ : ∃ wz : World, wz = wr := ⟨_, rfl⟩
          subst hwz
          have hMl : M.length ≤ 1000 := by
            obtain ⟨O, ho, -, hol⟩ := hM.out.gm.ex
            rw [ho, List.length_append, List.length_take, hol]
            omega
          by_cases hil : i < os.length
          · refine way_out (inferInstanceAs (Nonempty (WayTo (G := _) (by
              have a1 : (i : Int) < (os.length : Int) := by omega
              have a0 : (0 : Int) ≤ (i : Int) := by omega
              obtain ⟨x, hx⟩ : ∃ x, os[i]? = some x := ⟨_, List.getElem?_eq_getElem hil⟩
              have hrd := H.out.2.1.below hM.out.bel hM.out.bel.size
              obtain ⟨A', c', hv, -, -, -, hcl⟩ := hrd
              injection hv with e1 e2 e3
              obtain ⟨b, o, hA', -, hcells⟩ := hcl (by intro e; rw [e] at hil; simp at hil)
              subst e1 hA' e3
              have hcell := hcells i x hx
              obtain ⟨m, hm3, hmod⟩ := u8_mod x
              obtain ⟨xn, hxn⟩ : ∃ xn : Int, xn = (x.toNat : Int) := ⟨_, rfl⟩
              rw [← hxn] at hcell hmod
              have hlo := hM.out.gm.lo
              have hhi := hM.out.gm.hi
              obtain ⟨u1, hu1⟩ : ∃ u1, u1 = wrap64 (u + (m : Int) * 2) := ⟨_, rfl⟩
              have HM1 : Hid (u1 = u + (m : Int) * 2 ∧ 0 ≤ u ∧ u ≤ 200 + 6 * (i : Int) ∧ m < 3) := Lib.hid ⟨by rw [hu1, wrap_fit (by omega)], hlo, hhi, hm3⟩
              have HMl := Lib.hid hMl
              obtain ⟨q1, q2, q4⟩ : wrap64 (m : Int) = (m : Int) ∧ wrap64 ((m : Int) * 2) = (m : Int) * 2 ∧ IntKind.u8.wrap (m : Int) = (m : Int) := ⟨wrap_fit (by omega), wrap_fit (by omega), wrap_u8i (by omega)⟩
              have HU1 := Lib.hid hu1
              clear hcells hcl hx e2 hxn hlo hhi hu1 hm3 hMl
              go_upto_region 18 with fail
              go_cut [16] (fun s16 wx => s16 = .int .i64 u1 ∧ wx = wz)
              case first =>
                go_wp2_with fail
                go_meet
                exact ⟨by rw [HU1.out], rfl⟩
              case rest =>
                obtain ⟨rfl, hwc0⟩ := hcut
                subst hwc0
                clear HU1 q1 q2 q4 hmod hcell
                have hu10 : 0 ≤ u1 := by have h1 := HM1.out; omega
                have hu11 : u1 ≤ 1000 := by have h1 := HM1.out; omega
                have htm : u1.tmod 2 = u1 % 2 := Int.tmod_eq_emod_of_nonneg hu10
                obtain ⟨up, hup⟩ : ∃ up : Int, up = if u1 = 0 then 2 else if u1 % 2 = 1 then u1 + 1 else u1 := ⟨_, rfl⟩
                have HUP : Hid (u ≤ up ∧ up ≤ u + 6 ∧ up % 2 = 0 ∧ 1 ≤ up) := Lib.hid (by
                  have h1 := HM1.out
                  rw [hup]
                  split
                  · omega
                  · split <;> omega)
                have HUPD := Lib.hid hup
                have HTT := Lib.hid (And.intro hu10 (And.intro hu11 htm))
                have HIL := Lib.hid (And.intro hi hil)
                clear hup hu10 hu11 htm hi hil
                apply (‹∀ (a : Act) (w : World), Code.wp _ _ _ a w → _›)
                refine wp_seq_k ?_
                intro K1 aK1
                obtain ⟨wq, hwq⟩ : ∃ wq : World, wq = wc := ⟨_, rfl⟩
                subst hwq
                go_cut [16] (fun s16 wx => s16 = .int .i64 up ∧ wx = wq)
                case first =>
                  by_cases z0 : u1 = 0
                  · have z0' : (u1 == 0) = true := by simpa using z0
                    have HH := Lib.hid (show (2 : Int) = up by rw [HUPD.out, if_pos z0])
                    clear z0
                    go_wp2_with fail
                    go_meet
                    exact ⟨by rw [HH.out], rfl⟩
                  · have z0' : (u1 == 0) = false := by simpa using z0
                    by_cases z1 : u1 % 2 = 1
                    · have z1' : (u1.tmod 2 == 1) = true := by rw [HTT.out.2.2]; simpa using z1
                      have HH := Lib.hid (show u1 + 1 = up by rw [HUPD.out, if_neg z0, if_pos z1])
                      have z2 : wrap64 (u1 + 1) = u1 + 1 := wrap_fit (by have h1 := HTT.out.1; have h2 := HTT.out.2.1; omega)
                      have Z2 := Lib.hid z2
                      clear z0 z1 z2
                      go_wp2_with fail
                      go_meet
                      exact ⟨by first | rw [Z2.out, HH.out] | rw [HH.out], rfl⟩
                    · have z1' : (u1.tmod 2 == 1) = false := by rw [HTT.out.2.2]; simpa using z1
                      have HH := Lib.hid (show u1 = up by rw [HUPD.out, if_neg z0, if_neg z1])
                      clear z0 z1
                      go_wp2_with fail
                      go_meet
                      exact ⟨by rw [HH.out], rfl⟩
                case rest =>
                  obtain ⟨rfl, hwc1⟩ := hcut
                  subst hwc1
                  obtain ⟨A7, c7, w7, hap, HM7⟩ := M2.push hM.out HMl.out (by have := HIL.out.2; omega) up HUP.out.1 HUP.out.2.1 HUP.out.2.2.1 HUP.out.2.2.2
                  have HAP := Lib.hid hap
                  have HL7 : Hid ((M ++ [(⟨up, 1, ⟨#[]⟩, []⟩ : EN)]).length = M.length + 1) := Lib.hid (by simp)
                  have HIL2 := HIL
                  clear hap hM HM1 HTT HUPD HUP
                  apply (‹∀ (a : Act) (w : World), Code.wp _ _ _ a w → _›)
                  go_wp2_with (at_builtin; go_must (refine Lib.wpList_append_run _ rfl (.tmp 119) (.tmp 122) 31 31 rfl _ _ rfl rfl _ _ HAP.out ?_))
                  have hil2 := HIL.out
                  exact ⟨⟨i + 1, up, _, A7, c7, by go_num, rfl, by rw [HL7.out], by omega, HM7⟩, by simp [intOf]; omega⟩))))
          · have a1 : ¬ (i : Int) < (os.length : Int) := by omega
            have hgm := hM.out.gm
            obtain ⟨O, hO, hOe, hOl⟩ := hgm.ex
            obtain ⟨rsm, hem⟩ := hM.out.entM
            have cN := new_any 0 0 M (.slice A5 M.length c5) wz hem.n
            rw [refuse_zero hgm.fol hMl] at cN
            obtain ⟨cc, hcck, hcc⟩ := mod_of cut k
            have hcc2 : wrap64 ((IntKind.u64.wrap cut).tmod ((k : Int) + 1)) = (cc : Int) := by rw [hcc, wrap_fit (n := (cc : Int)) (by omega)]
            have HCC := Lib.hid hcc2
            have HO := Lib.hid (And.intro hO hOe)
            have HM := hM
            have hk40 : k ≤ 40 := by omega
            clear hM hgm hO hOe hOl hem hcc hcc2 hMl hi hil
            go_wp2_with fail
            refine cN.mono ?_
            rintro e wn ⟨hor, hbn⟩
            clear cN
            rcases hor with ⟨h, -⟩ | ⟨-, p, u, rfl, hlog, hus⟩
            · exact absurd rfl h
            have HLOG := Lib.hid hlog
            have HUS := Lib.hid hus
            have HBN := Lib.hid hbn
            have cC := cut_any _ wz.heap.size p u (cc : Int) wn hlog hus (by omega) hbn.size
            have hML : k ≤ M.length := by rw [HO.out.1, List.length_append, List.length_take, Nat.min_eq_left hkl]; omega
            have HML := Lib.hid hML
            clear hlog hus hbn hML
            go_upto_region 28 with fail
            rw [HCC.out]
            clear HCC
            go_wp2_with fail
            refine cC.mono ?_
            rintro e wc ⟨hor, hturn⟩
            clear cC
            rcases hor with ⟨hno, -⟩ | ⟨k', u', hk', hkl', rfl, hlog', hu'⟩
            · have := LG.termAt_at (g := ⟨0, 0, M⟩) (k := cc) (by have := HML.out; exact Nat.le_trans hcck this)
              rw [show ((⟨0, 0, M⟩ : LG).base : Int) + (cc : Int) = (cc : Int) by simp] at this
              have hno' : (⟨0, 0, M⟩ : LG).termAt (cc : Int) = none := hno
              rw [hno'] at this
              cases this
            have hkk : k' = cc := by simp at hk'; omega
            subst hkk
            have HM3 : Hid (M3 w wc wz.heap.size p u' ⟨0 + k', lastTerm 0 (M.take k'), M.drop k'⟩ A c L k' k) := Lib.hid (by
              have h0 : M3 w wn wz.heap.size p u ⟨0, 0, M⟩ A c L 0 k := by
                obtain ⟨rl, hel⟩ := HM.out.entL
                exact ⟨HLOG.out, HUS.out, PG.start HO.out.1 HO.out.2 hkl, ⟨rl, hel.below HBN.out⟩, HA.out.2, fun b hb => (hel.row.lt b hb).2, HBN.out.size, HM.out.bel.size, HM.out.bel.trans (Joins.below_le HBN.out HM.out.bel.size)⟩
              exact h0.turned hlog' (by rw [hu']; exact HUS.out) (PG.cut HO.out.1 HO.out.2 hkl hcck) hturn)
            obtain ⟨gg, hgg⟩ : ∃ gg : LG, gg = ⟨0 + k', lastTerm 0 (M.take k'), M.drop k'⟩ := ⟨_, rfl⟩
            rw [← hgg] at HM3
            clear hk' hkl' hlog' hu' hturn hgg HLOG HUS HBN HML HM HO
            obtain ⟨B, hB⟩ : ∃ B, B = wz.heap.size := ⟨_, rfl⟩
            rw [← hB] at HM3
            clear hB
            go_wp2_with fail
            go_loopw [14, 21] (fun s14 s21 wr => ∃ (j kk : Nat) (u : Value) (gg : LG), s21 = .int .i64 (j : Int) ∧ s14 = .int .i64 (kk : Int) ∧ j ≤ ps.length ∧ Hid (M3 w wr B p u gg A c L k' kk)) (fun _ s21 _ => ps.length - (intOf s21).toNat)
            case atStart => exact ⟨0, k, u', gg, rfl, rfl, Nat.zero_le _, HM3⟩
            case round =>
              clear HM3
              obtain ⟨j, kk, u, gg, rfl, rfl, hj, hM⟩ := hrel
              obtain ⟨wz, hwz⟩ : ∃ wz : World, wz = wr := ⟨_, rfl⟩
              subst hwz
              have hpg := hM.out.pg
              have hck := hpg.ck
              have hkL := hpg.kl
              by_cases hjl : j < ps.length
              · have a1 : (j : Int) < (ps.length : Int) := by omega
                have a0 : (0 : Int) ≤ (j : Int) := by omega
                obtain ⟨x, hx⟩ : ∃ x, ps[j]? = some x := ⟨_, List.getElem?_eq_getElem hjl⟩
                have hp := (H.out.2.2.grow hM.out.bel).cell hx
                obtain ⟨b, o, n', k9, hv, -, -, hcl⟩ := hp
                injection hv with e1 e2 e3
                subst e1 e3
                obtain ⟨x1, x2⟩ : wz.cell? ⟨b, o + j * 2, none⟩ = some (.int .i64 x.1) ∧ wz.cell? ⟨b, o + j * 2 + 1, none⟩ = some (.int .i64 x.2) := ⟨hcl 0 _ rfl, hcl 1 _ rfl⟩
                obtain ⟨f, hfl, hf⟩ := mod_of x.1 L.length
                obtain ⟨m, hml, hm⟩ := mod_many x.2 hfl
                have hf2 : wrap64 ((IntKind.u64.wrap x.1).tmod ((L.length : Int) + 1)) = (f : Int) := by rw [hf, wrap_fit (n := (f : Int)) (by omega)]
                have hm2 : wrap64 ((f : Int) + wrap64 ((IntKind.u64.wrap x.2).tmod ((L.length : Int) - (f : Int) + 1))) = ((f + m : Nat) : Int) := by rw [hm, wrap_fit (n := (m : Int)) (by omega), wrap_fit (by omega)]; push_cast; rfl
                have HF := Lib.hid hf2
                have HM := Lib.hid hm2
                have hfl2 : (f : Int) ≤ (L.length : Int) := by omega
                clear hx hcl e2 hf hm hf2 hm2
                go_upto_region 34 with fail
                rw [HF.out]
                go_upto_region 35 with fail
                rw [HM.out]
                obtain ⟨tt, htt⟩ : ∃ tt, tt = f + m := ⟨_, rfl⟩
                rw [← htt]
                have ht1 : f ≤ tt := by omega
                have ht2 : tt ≤ L.length := by omega
                clear HF HM x1 x2 hml htt
                obtain ⟨tm, htm⟩ : ∃ tm, tm = lastTerm 0 (L.take f) := ⟨_, rfl⟩
                have hcell : 0 < f → ∃ b o, A = some ⟨b, o, none⟩ ∧ wz.cell? ⟨b, o + (f - 1) * 4, none⟩ = some (.int .i64 tm) := fun hf0 => by
                  obtain ⟨y, hy⟩ : ∃ y, L[f - 1]? = some y := ⟨_, List.getElem?_eq_getElem (by omega)⟩
                  obtain ⟨rl, hel⟩ := hM.out.row
                  obtain ⟨b, o, n', k', A3, c3, hv, -, -, -, y0, -, -, -⟩ := hel.n.cell hy
                  injection hv with e1 e2 e3
                  refine ⟨b, o, e1, ?_⟩
                  have := getLast_take hy
                  rw [show f - 1 + 1 = f by omega] at this
                  rw [htm, this, lastTerm_snoc]
                  exact y0
                have HTM := Lib.hid htm
                have HPG := Lib.hid hpg
                clear htm hpg
                go_upto_if 177 with fail
                go_cut [24] (fun s24 wx => s24 = .int .i64 tm ∧ wx = wz)
                case first =>
                  refine way_out (inferInstanceAs (Nonempty (WayTo (G := _) (by
                    by_cases hf0 : (f : Int) > 0
                    · obtain ⟨b, o, e1, hc⟩ := hcell (by omega)
                      subst e1
                      clear hcell
                      go_wp2_with fail
                      go_meet
                      exact ⟨rfl, rfl⟩
                    · have h0 : tm = 0 := by
                        rw [HTM.out, show f = 0 by omega]
                        rfl
                      clear hcell
                      go_wp2_with fail
                      go_meet
                      exact ⟨by rw [h0], rfl⟩))))
                case rest =>
                  obtain ⟨rfl, hwc⟩ := hcut
                  obtain ⟨wy, hwy⟩ : ∃ wy : World, wy = wc := ⟨_, rfl⟩
                  rw [← hwy] at hwc ⊢
                  subst hwc
                  clear hwy hcell
                  obtain ⟨hpc, hoff⟩ := hM.out.piece ht1 ht2
                  have hLc : L.length ≤ c := by
                    obtain ⟨rl, hel⟩ := hM.out.row
                    obtain ⟨A', c', hv, h1, -⟩ := hel.n.slice
                    injection hv with _ _ e
                    rw [e]
                    exact h1
                  have hsl := fun W => lohiE W A L.length c f tt ht1 (by omega)
                  have cM := merge_any gg B p u _ (f : Int) tm (pc L f tt) _ wy hM.out.log hM.out.own hpc hoff hM.out.sz
                  have hok := merge_ok HA.out.1 HPG.out ht1 ht2
                  rw [← HTM.out] at hok
                  obtain ⟨MM, hMM⟩ : ∃ MM, MM = gg.merge (f : Int) tm (pc L f tt) := ⟨_, rfl⟩
                  rw [← hMM] at cM hok
                  have HOK := Lib.hid hok
                  clear hpc hoff hLc hok hMM
                  go_wp2_with fail
                  refine cM.mono ?_
                  rintro e w2 hpost
                  clear cM hsl
                  obtain ⟨rfl, ⟨u2, hlog2, hown2, -⟩, hturn⟩ := hpost
                  rcases HOK.out with ⟨hm1, hkf⟩ | ⟨first, hm1, hpg2, hfirst, hlast⟩
                  · refine way_out (inferInstanceAs (Nonempty (WayTo (G := _) (by
                      subst hm1
                      have HM2 : Hid (M3 w w2 B p u2 gg A c L k' kk) := Lib.hid (hM.out.turned hlog2 hown2 HPG.out hturn)
                      have cL := last_any gg B p u2 w2 hlog2
                      have hkf2 : ¬ (f : Int) ≤ (kk : Int) := by omega
                      clear hM hlog2 hown2 hturn HOK HPG
                      go_wp2_with fail
                      refine cL.mono ?_
                      rintro e w3 ⟨rfl, hb3⟩
                      clear cL
                      have HM3 := Lib.hid (HM2.out.below hb3)
                      clear hb3 HM2
                      go_wp2_with fail
                      exact ⟨⟨j + 1, kk, u2, gg, by go_num, rfl, by omega, HM3⟩, by simp [intOf]; omega⟩))))
                  · obtain ⟨⟨m1, m2⟩, g2⟩ := MM
                    have hm1 : (m1, m2) = (first, (0 : Int)) := hm1
                    injection hm1 with h1 h2
                    subst h1 h2
                    have HM2 : Hid (M3 w w2 B p u2 g2 A c L k' (max kk tt)) := Lib.hid (hM.out.turned hlog2 hown2 hpg2 hturn)
                    have cL := last_any g2 B p u2 w2 hlog2
                    have HFI : Hid ((m1 = 0 ∨ ((f : Int) < m1 ∧ m1 ≤ (tt : Int) ∧ g2.last = tt)) ∧ tt ≤ g2.last) := Lib.hid ⟨hfirst, hlast⟩
                    obtain ⟨la, hla⟩ : ∃ la, la = g2.last := ⟨_, rfl⟩
                    rw [← hla] at HFI
                    rw [← hla] at cL
                    clear hM hlog2 hown2 hturn HOK HPG hpg2 hfirst hlast hla
                    go_wp2_with fail
                    refine cL.mono ?_
                    rintro e w3 ⟨rfl, hb3⟩
                    clear cL
                    have HM3 := Lib.hid (HM2.out.below hb3)
                    clear hb3 HM2
                    go_upto_region 43 with fail
                    go_cut [235] (fun s235 wx => s235 = .bool false ∧ wx = w3)
                    case first =>
                      refine way_out (inferInstanceAs (Nonempty (WayTo (G := _) (by
                        have hl2 := HFI.out.2
                        have c1 : ¬ (la : Int) < (tt : Int) := by omega
                        by_cases h0 : m1 = 0
                        · subst h0
                          clear hl2
                          go_wp2_with fail
                          go_meet
                          exact ⟨rfl, rfl⟩
                        · obtain ⟨hf1, hf2, hf3⟩ : (f : Int) < m1 ∧ m1 ≤ (tt : Int) ∧ la = tt := by
                            rcases HFI.out.1 with h | h
                            · exact absurd h h0
                            · exact h
                          have c2 : ¬ m1 ≤ (f : Int) := by omega
                          have c3 : ¬ m1 > (tt : Int) := by omega
                          have c4 : ((la : Int) != (tt : Int)) = false := by rw [hf3]; simp
                          have c5 : (m1 != 0) = true := by simpa using h0
                          clear hf1 hf2 hf3 h0 hl2
                          go_wp2_with fail
                          go_meet
                          exact ⟨rfl, rfl⟩))))
                    case rest =>
                      obtain ⟨rfl, hwc⟩ := hcut
                      obtain ⟨wx, hwx⟩ : ∃ wx : World, wx = wc := ⟨_, rfl⟩
                      rw [← hwx] at hwc ⊢
                      subst hwc
                      clear hwx HFI
                      go_wp2_with fail
                      go_loopw [29] (fun s29 wr => ∃ at_ : Nat, s29 = .int .i64 (at_ : Int) ∧ k' + 1 ≤ at_ ∧ at_ ≤ L.length + 2 ∧ Hid (M3 w wr B p u2 g2 A c L k' (max kk tt))) (fun s29 _ => tt + 1 - (intOf s29).toNat)
                      case atStart => exact ⟨k' + 1, by push_cast; rfl, Nat.le_refl _, by omega, HM3⟩
                      case round =>
                        clear HM3
                        obtain ⟨at_, rfl, hk1, hk2, hM⟩ := hrel
                        obtain ⟨wv, hwv⟩ : ∃ wv : World, wv = wr := ⟨_, rfl⟩
                        subst hwv
                        by_cases hat : at_ ≤ tt
                        · refine way_out (inferInstanceAs (Nonempty (WayTo (G := _) (by
                            have b1 : (at_ : Int) ≤ (tt : Int) := by omega
                            obtain ⟨x, hx⟩ : ∃ x, L[at_ - 1]? = some x := ⟨_, List.getElem?_eq_getElem (by omega)⟩
                            have hat2 : g2.at (at_ : Int) = some x := by rw [hM.out.pg.at (by omega) (by omega)]; exact hx
                            have cE := entry_any g2 B p u2 (at_ : Int) wv hM.out.log (by omega)
                            rw [hat2, Option.getD_some, Option.isSome_some] at cE
                            have HX := Lib.hid hx
                            have HAT := Lib.hid hat
                            clear hx hat2 hat
                            go_wp2_with fail
                            refine cE.mono ?_
                            rintro e wa ⟨⟨Ax, cx, rfl, hli⟩, hba⟩
                            clear cE
                            obtain ⟨wb, hwb⟩ : ∃ wb, wb = wa.alloc (.cells #[.int .i64 x.term, .int .u8 x.kind, .string x.data, .slice Ax x.list.length cx] 50) := ⟨_, rfl⟩
                            have hbb : Below wa.heap.size wa wb := by rw [hwb]; exact (Below.refl _ _).alloc (Nat.le_refl _) _
                            have hq : wb.heap[wa.heap.size]? = some (.cells #[.int .i64 x.term, .int .u8 x.kind, .string x.data, .slice Ax x.list.length cx] 50 (0, 0)) := by rw [hwb]; exact heap_alloc_new wa _
                            have HMB := Lib.hid ((hM.out.below hba).below hbb)
                            obtain ⟨rl, hel⟩ := HMB.out.row
                            obtain ⟨b, o, n', k9, A3, c3, hv, -, -, hli2, y0, y1, y2, y3⟩ := hel.n.cell HX.out
                            injection hv with e1 e2 e3
                            subst e1 e3
                            obtain ⟨q0, q1, q2, q3⟩ : wb.cell? ⟨wa.heap.size, 0, none⟩ = some (.int .i64 x.term) ∧ wb.cell? ⟨wa.heap.size, 1, none⟩ = some (.int .u8 x.kind) ∧ wb.cell? ⟨wa.heap.size, 2, none⟩ = some (.string x.data) ∧ wb.cell? ⟨wa.heap.size, 3, none⟩ = some (.slice Ax x.list.length cx) := ⟨(blk_cells hq).1 0, (blk_cells hq).1 1, (blk_cells hq).1 2, (blk_cells hq).1 3⟩
                            have cS := same_any x x (.slice Ax x.list.length cx) (.slice A3 x.list.length c3) wb.drew (hli.grow hbb.drew) hli2.any
                            rw [EN.same_self] at cS
                            unfold EN.agg at cS
                            have HWB := Lib.hid hwb
                            clear hM hba hbb hq hli hli2 hel hwb e2
                            unfold EN.agg
                            go_upto_region 49 with fail
                            rw [← HWB.out]
                            obtain ⟨ai, hai⟩ : ∃ ai : Nat, ai = at_ - 1 := ⟨_, rfl⟩
                            have hsub : wrap64 ((at_ : Int) - 1) = (ai : Int) := by rw [wrap_fit (by omega)]; omega
                            have hsub2 : IntKind.i64.wrap ((at_ : Int) - 1) = (ai : Int) := by rw [IntKind.wrap_i64]; omega
                            rw [← hai] at y0 y1 y2 y3
                            have g0 : (0 : Int) ≤ (ai : Int) := by omega
                            have g1 : (ai : Int) < (L.length : Int) := by have := HAT.out; omega
                            clear hai
                            go_still_tail 9, (by kernel_rfl)
                            change wpList _ _ _ _ _ wb.drew
                            clear hsub hsub2 g0 g1 q0 q1 q2 q3 y0 y1 y2 y3
                            go_wp2_with fail
                            refine cS.mono ?_
                            rintro e wn2 ⟨rfl, hb2⟩
                            have HMN := Lib.hid ((HMB.out.below (Below.refl _ _).drew).below hb2)
                            clear cS hb2 HMB HWB
                            go_wp2_with fail
                            have hat := HAT.out
                            exact ⟨⟨at_ + 1, by go_num, by omega, by omega, HMN⟩, by simp [intOf]; omega⟩))))
                        · refine way_out (inferInstanceAs (Nonempty (WayTo (G := _) (by
                            have b1 : ¬ (at_ : Int) ≤ (tt : Int) := by omega
                            have HX := hM
                            go_wp2_with fail
                            exact ⟨⟨j + 1, max kk tt, u2, g2, by go_num, by congr 1; split <;> omega, by omega, HX⟩, by simp [intOf]; omega⟩))))
              · have a1 : ¬ (j : Int) < (ps.length : Int) := by omega
                have HF := Lib.hid hM.out.bel
                clear hM
                go_wp2_with fail
                go_ret
                exact ⟨rfl, HF.out⟩
end Go.Proofs.Ytackfigkhjdidaa
