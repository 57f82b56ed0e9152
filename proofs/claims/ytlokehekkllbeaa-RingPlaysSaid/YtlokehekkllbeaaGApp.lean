/-
  The document's ring (butteryref04): Append. No statement is proved here. Condition: the record lies in memory.
-/
import Derived.Test.YtlokehekkllbeaaGOpenW
import Derived.Deep.RegionLaw
import Derived.BigRegion
namespace Go.Proofs.Ytlokehekkllbeaa
open Go.RowKit

theorem put_at {S : List (List UInt8)} {p : Pc} {i : Nat} (h : p.n % S.length = i) : put S p = S.set i p.sec := by unfold put; rw [h]
/-- what Append's loop keeps: i pieces are laid -/
def ZInv (w wr : World) (N : Nat → Prop) (x : Nat) (S : List (List UInt8)) (R : RG) (rec : List UInt8) (i : Nat) : Prop :=
  XG wr (fun b => N b ∨ w.heap.size ≤ b) x (((cut (R.last + 1) rec).take i).foldl put S) R ∧ Kept w wr (fun b => N b ∧ ¬ IsSec w b)
def AppPost (w : World) (N : Nat → Prop) (x : Nat) (S : List (List UInt8)) (R : RG) (rec : List UInt8) (e : Ending) (w' : World) : Prop :=
  e = .returned (.int .i64 (xput S R rec).1) ∧ XG w' (fun b => N b ∨ w.heap.size ≤ b) x (xput S R rec).2.1 (xput S R rec).2.2 ∧ Kept w w' (fun b => N b ∧ ¬ IsSec w b)

theorem not_sec_kept {w w' : World} {F : Nat → Prop} (hk : Kept w w' (fun b => F b ∧ ¬ IsSec w b)) {b : Nat} (hl : b < w.heap.size) {C : Array Value} {T : TypeId} (hc : w'.heap[b]? = some (.cells C T (0, 0))) (hT : T ≠ 85) : ¬ IsSec w b := fun hs => by
  have h := hk.block b hl (fun h => h.2 hs)
  obtain ⟨cs, hcs⟩ := hs
  rw [h, hcs] at hc
  injection hc with hc
  injection hc with _ hc
  exact hT hc.symm
theorem own_not_sec {w w' : World} {F : Nat → Prop} (hk : Kept w w' (fun b => F b ∧ ¬ IsSec w b)) {b : Nat} {C : Array Value} {T : TypeId} (hc : w'.heap[b]? = some (.cells C T (0, 0))) (hT : T ≠ 85) (hF : F b ∨ w.heap.size ≤ b) : (F b ∧ ¬ IsSec w b) ∨ w.heap.size ≤ b := by
  rcases Nat.lt_or_ge b w.heap.size with h | h
  · exact .inl ⟨hF.resolve_right (by omega), not_sec_kept hk h hc hT⟩
  · exact .inr h
theorem xpiece_slice (A : Option Addr) (n c : Nat) (lo hi : Int) (k m : Nat) (hlo : lo = (k : Int)) (hhi : hi = (m : Int)) (hl : k ≤ m) (hc : m ≤ c) :
    ∃ A', (∀ W, (Instr.slice 39 (.slice A n c) (some (.int .i64 lo)) (some (.int .i64 hi)) none).run Try.prog W = .ok (.slice A' (m - k) (c - k)) W) ∧ (A' = A.map (·.add k) ∨ (c = k ∧ A' = A)) := by
  subst hlo hhi
  refine ⟨if c = k then A else A.map (·.add k), fun W => ?_, ?_⟩
  · rw [run_slice_lh _ _ _ _ _ elem_bytes .i64 .i64 (k : Int) (m : Int) (by omega) (by omega) (by omega), size_bytes]
    simp only [Result.andThen, sliced, Int.toNat_natCast, Nat.mul_one]
  · by_cases h : c = k
    · right; rw [if_pos h]; exact ⟨h, rfl⟩
    · left; rw [if_neg h]
/-- a part of what reads as bytes -/
theorem Rd.part {w : World} {B c k m : Nat} {A A' : Option Addr} {l : List UInt8} (h : Rd w B (.slice A l.length c) l) (hk : k ≤ m) (hm : m ≤ l.length) (hA : A' = A.map (·.add k) ∨ (c = k ∧ A' = A)) : Rd w B (.slice A' (m - k) (c - k)) ((l.drop k).take (m - k)) := by
  obtain ⟨A0, c0, he, h1, h2, h3, h4⟩ := h
  injection he with e1 _ e2
  subst e1
  subst e2
  have hl : ((l.drop k).take (m - k)).length = m - k := by rw [List.length_take, List.length_drop]; omega
  refine ⟨A', c - k, by rw [hl], by rw [hl]; omega, by omega, fun h0 => ?_, fun hn => ?_⟩
  · rcases hA with h | ⟨h, _⟩
    · cases A with
      | none => have := h3 rfl; omega
      | some a => rw [h0] at h; cases h
    · omega
  · have hmk : k < m := by
      rcases Nat.lt_or_ge k m with h | h
      · exact h
      · exfalso; apply hn; apply List.eq_nil_of_length_eq_zero; rw [hl]; omega
    obtain ⟨b, o, hAb, hb, hc⟩ := h4 (fun e => by subst e; simp at hm; omega)
    subst hAb
    rcases hA with h | ⟨h, _⟩
    · refine ⟨b, o + k, ?_, hb, fun i x hx => ?_⟩
      · rw [h]; show some ((⟨b, o, none⟩ : Addr).add k) = _; rw [plus_zero]
      · have hi : i < m - k := by have := (List.getElem?_eq_some_iff.1 hx).1; omega
        rw [List.getElem?_take, if_pos hi, List.getElem?_drop] at hx
        rw [Nat.add_assoc]
        exact hc _ _ hx
    · omega

set_option maxHeartbeats 8000000 in
set_option maxRecDepth 100000 in
theorem xappend_any {w : World} {N : Nat → Prop} {x : Nat} {S : List (List UInt8)} {R : RG} (h : XG w N x S R) (hR : R.fine) (hS : S.length = R.count) (hN : ∀ b, N b → b < w.heap.size) (rec : List UInt8) (v : Value) (hv : RdN w (fun b => ¬ N b) v rec) (hrl : rec.length < 140737488355328) :
    Calls Try.prog 11 #[.pointer (some ⟨x, 0, none⟩), v] w (AppPost w N x S R rec) := by
  obtain ⟨A, c, hve, -⟩ := id hv
  subst hve
  obtain ⟨n, hn⟩ : ∃ n, n = pieces rec.length := ⟨_, rfl⟩
  have hn1 : 1 ≤ n := by rw [hn]; exact pieces_pos _
  have cP := xpieces_any rec.length w (by omega)
  rw [← hn] at cP
  obtain ⟨vx, xs, hxa⟩ := id h
  have c0 := hxa.c0
  have c2 := hxa.c2
  have c3 := hxa.c3
  obtain ⟨Ax, cx, hvx⟩ := own_slice hxa.own
  subst hvx
  have cRm : ∀ k, Calls Try.prog 33 #[.pointer (some ⟨x, 0, none⟩)] (w.drewN k) fun e w' => e = .returned (.int .i64 (R.room' : Int)) ∧ ∃ n, w' = (w.drewN k).drewN n := fun k => xroom_any (h.drew k) hR hS
  have i1 := hR.room
  have i2 := hR.most
  have i3 := hR.up
  have i4 := hR.pos
  have i5 := hR.low
  obtain ⟨X, hX⟩ : ∃ X, X = refuseOf false R n := ⟨_, rfl⟩
  have hrr : X = if R.count < n then 40 else if R.last < R.top then 50 else if R.room' < n then 3 else if 4611686018427387904 < R.last + n then 70 else 0 := by rw [hX]; unfold refuseOf; rw [if_neg Bool.false_ne_true]
  have hno : X ≠ 0 → ∀ w', Below w.heap.size w w' → AppPost w N x S R rec (.returned (.int .i64 X)) w' := fun hx w' hb => by
    have e : xput S R rec = (X, S, R) := by unfold xput; rw [← hn, ← hX, if_pos hx]
    unfold AppPost
    rw [e]
    exact ⟨rfl, h.kept (fun b hb' _ => .inl hb') hb.size (fun b _ hl => hb.block b hl), Kept.ofBelow hb⟩
  have hdr : ∀ k, Below w.heap.size w (w.drewN k) := fun k => ⟨rfl, rfl, rfl, Nat.le_refl _, fun _ _ => rfl⟩
  have HNO := Lib.hid hno
  have HDR := Lib.hid hdr
  have HX := Lib.hid hX
  have HXG := Lib.hid h
  have HN := Lib.hid hn
  have HNL := Lib.hid hN
  have HV := Lib.hid hv
  have HRF := Lib.hid hR
  have HRM := Lib.hid cRm
  have HSL := Lib.hid hS
  have HRL : rec.length < 140737488355328 := hrl
  have hsc : (S.length : Int) = (R.count : Int) := by rw [hS]
  rw [hS] at c0
  clear hno hdr hX h hn hN hv hR cRm hxa hS hsc
  go_enter Try.func11, Try.ntmps11
  go_wp2_with fail
  refine cP.mono ?_
  rintro e w1 ⟨rfl, rfl⟩
  clear cP
  by_cases a1 : R.count < n
  · rw [if_pos a1] at hrr
    have j1 : (R.count : Int) < (n : Int) := by omega
    have hz := HNO.out (by rw [hrr]; decide) w (HDR.out 0)
    rw [hrr] at hz
    have HZ := Lib.hid hz
    clear hrr hz
    go_wp2_with fail
    go_ret
    exact HZ.out
  · rw [if_neg a1] at hrr
    have j1 : ¬ (R.count : Int) < (n : Int) := by omega
    by_cases a2 : R.last < R.top
    · rw [if_pos a2] at hrr
      have j2 : (R.last : Int) < (R.top : Int) := by omega
      have HZ : Hid (∀ k, AppPost w N x S R rec (.returned (.int .i64 50)) (w.drewN k)) := Lib.hid (fun k => by have := HNO.out (by rw [hrr]; decide) _ (HDR.out k); rwa [hrr] at this)
      clear hrr
      go_wp2_with fail
      go_quiet (fail)
      go_wp2_with fail
      go_ret
      exact HZ.out _
    · rw [if_neg a2] at hrr
      have j2 : ¬ (R.last : Int) < (R.top : Int) := by omega
      have HRR := Lib.hid hrr
      clear hrr
      go_wp2_with fail
      go_quiet (fail)
      obtain ⟨wd, hwd⟩ : ∃ wd, wd = w.drewN nq := ⟨_, rfl⟩
      have cR := HRM.out nq
      rw [← hwd] at cR ⊢
      have HWD := Lib.hid hwd
      clear hwd c0 c2 c3
      go_wp2_with fail
      refine cR.mono ?_
      rintro e w2 ⟨rfl, kk, rfl⟩
      clear cR
      obtain ⟨w2, hw2⟩ : ∃ w2, w2 = wd.drewN kk := ⟨_, rfl⟩
      have hw2' : ∃ k, w2 = w.drewN k := ⟨nq + kk, by rw [hw2, HWD.out, World.drewN_drewN]⟩
      rw [← hw2]
      clear hw2
      obtain ⟨k2, hw2⟩ := hw2'
      have hxg2 := HXG.out.drew k2
      rw [← hw2] at hxg2
      obtain ⟨v2, xs2, hxa2⟩ := id hxg2
      have c2 := hxa2.c2
      have hb2 := HDR.out k2
      rw [← hw2] at hb2
      have HXG2 := Lib.hid hxg2
      have HB2 := Lib.hid hb2
      have HW2 := Lib.hid hw2
      clear hxa2 hxg2 hb2 hw2
      obtain ⟨rm, hrm⟩ : ∃ rm, rm = R.room' := ⟨_, rfl⟩
      have hrr := HRR.out
      rw [← hrm] at hrr ⊢
      have HRM' := Lib.hid hrm
      clear hrm HRR
      by_cases a3 : rm < n
      · rw [if_pos a3] at hrr
        have j3 : (rm : Int) < (n : Int) := by omega
        have hz := HNO.out (by rw [hrr]; decide) w2 HB2.out
        rw [hrr] at hz
        have HZ := Lib.hid hz
        clear hrr hz
        go_wp2_with fail
        go_ret
        exact HZ.out
      · rw [if_neg a3] at hrr
        have j3 : ¬ (rm : Int) < (n : Int) := by omega
        by_cases a4 : 4611686018427387904 < R.last + n
        · rw [if_pos a4] at hrr
          have j4 : (4611686018427387904 : Int) - (n : Int) < (R.last : Int) := by omega
          have hz := HNO.out (by rw [hrr]; decide) w2 HB2.out
          rw [hrr] at hz
          have HZ := Lib.hid hz
          clear hrr hz
          go_wp2_with fail
          go_ret
          exact HZ.out
        · rw [if_neg a4] at hrr
          have j4 : ¬ (4611686018427387904 : Int) - (n : Int) < (R.last : Int) := by omega
          have hX0 : refuseOf false R n = 0 := by rw [← HX.out]; exact hrr
          have hxp : xput S R rec = (0, (cut (R.last + 1) rec).foldl put S, { R with last := R.last + n, top := R.last + n }) := by
            unfold xput
            rw [← HN.out, hX0, if_neg (by simp)]
          have HXP := Lib.hid hxp
          have hz0 : ZInv w w2 N x S R rec 0 := ⟨by rw [List.take_zero]; exact HXG2.out.kept (fun b hb _ => .inl hb) (Nat.le_refl _) (fun _ _ _ => rfl), Kept.ofBelow HB2.out⟩
          have HZ0 := Lib.hid hz0
          have hlast : R.last + n ≤ 4611686018427387904 := by omega
          clear hrr hX0 hxp hz0
          go_wp2_with fail
          go_loopw [6, 7] (fun i _ wr => ∃ k : Nat, i = .int .i64 k ∧ k ≤ n ∧ Hid (ZInv w wr N x S R rec k)) (fun i _ _ => n - (intOf i).toNat)
          case atStart => exact ⟨0, rfl, Nat.zero_le _, HZ0⟩
          case round =>
            clear HZ0
            obtain ⟨k, rfl, hk, hinv⟩ := hrel
            obtain ⟨wz, hwz⟩ : ∃ wz : World, wz = wr := ⟨_, rfl⟩
            subst hwz
            obtain ⟨hxg, hkw⟩ := hinv.out
            obtain ⟨vz, ys, hxz⟩ := hxg
            have hSl : (((cut (R.last + 1) rec).take k).foldl put S).length = R.count := by rw [foldl_put_length]; exact HSL.out
            by_cases hkn : k < n
            · have b1 : (k : Int) < (n : Int) := by omega
              have hcg := cut_get (R.last + 1) rec k (by rw [← HN.out]; exact hkn)
              rw [← HN.out] at hcg
              have h501 : 501 * k ≤ rec.length := by
                have h9 := HN.out
                unfold pieces at h9
                split at h9 <;> omega
              obtain ⟨m, hm⟩ : ∃ m, m = min (501 * k + 501) rec.length := ⟨_, rfl⟩
              have hkm : 501 * k ≤ m := by omega
              have hml : m ≤ rec.length := by omega
              obtain ⟨d, hd⟩ : ∃ d, d = (rec.drop (501 * k)).take 501 := ⟨_, rfl⟩
              have hdl : d.length = m - 501 * k := by rw [hd, List.length_take, List.length_drop]; omega
              have hdm : (rec.drop (501 * k)).take (m - 501 * k) = d := by
                rw [hd, List.take_eq_take_iff, List.length_drop]
                omega
              obtain ⟨A', hsl, hA'⟩ := xpiece_slice A rec.length c (501 * (k : Int)) (m : Int) (501 * k) m (by omega) rfl hkm (by obtain ⟨A0, c0, he, h1, -⟩ := HV.out; injection he with _ _ e2; omega)
              have hvz : Rd wz wz.heap.size (.slice A rec.length c) rec := (HV.out.kept (N' := fun _ => True) (fun _ _ _ => trivial) hkw.size (fun b hb hl => hkw.block b hl (fun h => hb h.1))).rd
              have hdz := hvz.part hkm hml hA'
              rw [hdm] at hdz
              obtain ⟨L, hL⟩ : ∃ L : Bool, L = (n - (k + 1) == 0) := ⟨_, rfl⟩
              rw [← hL, ← hd] at hcg
              have hbl : ((k : Int) == (n : Int) - 1) = L := by
                rw [hL]
                by_cases h : k + 1 = n
                · rw [show (n - (k + 1) == 0) = true by simp; omega]; simp; omega
                · rw [show (n - (k + 1) == 0) = false by simp; omega]; simp; omega
              obtain ⟨num, hnum⟩ : ∃ num, num = R.last + 1 + k := ⟨_, rfl⟩
              rw [← hnum] at hcg
              have c2 : wz.cell? ⟨x, 2, none⟩ = some (.int .i64 (R.last : Int)) := hxz.c2
              have hba : Below wz.heap.size wz (wz.alloc (.cells #[.int .i64 0, .bool false, .slice none 0 0] 49)).drew := ((Below.refl _ _).alloc (Nat.le_refl _) _).drew
              have c2a : (wz.alloc (.cells #[.int .i64 0, .bool false, .slice none 0 0] 49)).drew.cell? ⟨x, 2, none⟩ = some (.int .i64 (R.last : Int)) := (hba.cell (p := ⟨x, 2, none⟩) hxz.lt).trans c2
              have c2b : (wz.alloc (.cells #[.int .i64 0, .bool false, .slice none 0 0] 49)).cell? ⟨x, 2, none⟩ = some (.int .i64 (R.last : Int)) := c2a
              have m1 : IntKind.i64.wrap (501 * (k : Int)) = 501 * (k : Int) := wrapI _ (by omega) (by omega)
              have m2 : IntKind.i64.wrap (501 * (k : Int) + 501) = 501 * (k : Int) + 501 := wrapI _ (by omega) (by omega)
              have m3 : IntKind.i64.wrap ((R.last : Int) + 1) = (R.last : Int) + 1 := wrapI _ (by omega) (by omega)
              have m4 : IntKind.i64.wrap ((R.last : Int) + 1 + (k : Int)) = (num : Int) := by rw [wrapI _ (by omega) (by omega)]; omega
              have m5 : IntKind.i64.wrap ((n : Int) - 1) = (n : Int) - 1 := wrapI _ (by omega) (by omega)
              have hmin : (if (rec.length : Int) < 501 * (k : Int) + 501 then (rec.length : Int) else 501 * (k : Int) + 501) = (m : Int) := by split <;> omega
              have HXZ := Lib.hid hxz
              have HKW := Lib.hid hkw
              have HCG := Lib.hid hcg
              have HDZ := Lib.hid hdz
              have HDL := Lib.hid hdl
              have HD5 : Hid (d.length ≤ 501) := Lib.hid (by rw [hdl, hm]; omega)
              have HNUM := Lib.hid hnum
              have HSLK := Lib.hid hSl
              clear hxz hkw hcg hdz hdl hnum hSl hinv hvz hdm hd hL hm
              go_upto_region 13 with fail
              go_region
              obtain ⟨pb, hpb⟩ : ∃ pb, pb = wz.heap.size := ⟨_, rfl⟩
              obtain ⟨w3, hw3⟩ : ∃ w3, w3 = (wz.alloc (.cells #[.int .i64 (num : Int), .bool L, .slice A' (m - 501 * k) (c - 501 * k)] 49)).drew := ⟨_, rfl⟩
              rw [← hw3, ← hpb]
              have hb3 : Below wz.heap.size wz w3 := by rw [hw3]; exact ((Below.refl _ _).alloc (Nat.le_refl _) _).drew
              have hp3 : w3.heap[pb]? = some (.cells #[.int .i64 (num : Int), .bool L, .slice A' (m - 501 * k) (c - 501 * k)] 49 (0, 0)) := by rw [hw3, hpb]; exact heap_alloc_new wz _
              have hx3 := HXZ.out.kept (w' := w3) (fun _ h _ => h) hb3.size (fun b _ hl => hb3.block b hl)
              have ho3 := hx3.own
              rw [HSLK.out] at ho3
              obtain ⟨gx, cx2, rfl, hgx1, hgx2⟩ := ho3.form (by omega)
              obtain ⟨at', hat⟩ : ∃ at', at' = num % R.count := ⟨_, rfl⟩
              have hatl : at' < R.count := by rw [hat]; exact Nat.mod_lt _ (by omega)
              have hmod : (num : Int).tmod (R.count : Int) = (at' : Int) := by rw [hat, Int.tmod_eq_emod_of_nonneg (by omega)]; exact (Int.natCast_emod _ _).symm
              obtain ⟨u, hu⟩ : ∃ u, w3.cell? ⟨gx, at', none⟩ = some u := by
                rw [ho3.cellAt at' (by omega)]
                exact ⟨_, List.getElem?_eq_getElem (by have := ho3.1; omega)⟩
              have hfz := ho3.frozenAt at'
              have hcs := hx3.c0
              have hgl : gx < w3.heap.size := World.block_lt_of_cell? w3 _ hu
              have hst : w3.drew.cell? ⟨x, 0, none⟩ = some (.slice (some ⟨gx, 0, none⟩) R.count cx2) ∧ w3.drew.cell? ⟨pb, 0, none⟩ = some (.int .i64 (num : Int)) ∧ w3.drew.cell? ⟨pb, 1, none⟩ = some (.bool L) ∧ w3.drew.cell? ⟨pb, 2, none⟩ = some (.slice A' (m - 501 * k) (c - 501 * k)) ∧ w3.drew.cell? ⟨gx, at', none⟩ = some u ∧ w3.drew.frozen? ⟨gx, at', none⟩ = false :=
                ⟨hcs, (row7 hp3).1 0, (row7 hp3).1 1, (row7 hp3).1 2, hu, hfz⟩
              have hkeep : ∀ W : World, Below w3.drew.heap.size w3.drew W → W.cell? ⟨x, 0, none⟩ = some (.slice (some ⟨gx, 0, none⟩) R.count cx2) ∧ W.cell? ⟨pb, 0, none⟩ = some (.int .i64 (num : Int)) ∧ W.cell? ⟨pb, 1, none⟩ = some (.bool L) ∧ W.cell? ⟨pb, 2, none⟩ = some (.slice A' (m - 501 * k) (c - 501 * k)) ∧ W.cell? ⟨gx, at', none⟩ = some u ∧ W.frozen? ⟨gx, at', none⟩ = false := fun W hW => by
                have hpl := (Array.getElem?_eq_some_iff.1 hp3).1
                have ho := row_same ho3 (w' := W) fun p hp => hW.block p (ho3.lt p hp).2
                exact ⟨(hW.cell (p := ⟨x, 0, none⟩) hx3.lt).trans hst.1, (hW.cell (p := ⟨pb, 0, none⟩) hpl).trans hst.2.1, (hW.cell (p := ⟨pb, 1, none⟩) hpl).trans hst.2.2.1, (hW.cell (p := ⟨pb, 2, none⟩) hpl).trans hst.2.2.2.1, (hW.cell (p := ⟨gx, at', none⟩) hgl).trans hu, ho.frozenAt at'⟩
              have hd3 : Rd w3 w3.heap.size (.slice A' (m - 501 * k) (c - 501 * k)) d := HDZ.out.below hb3 hb3.size
              have cS := xsector_any ⟨num, L, d⟩ _ w3.drew HD5.out hd3
              have cS : Calls Try.prog 17 #[.agg #[.int .i64 (num : Int), .bool L, .slice A' (m - 501 * k) (c - 501 * k)]] w3.drew fun e w' => ∃ g, e = .returned (.slice (some ⟨g, 0, none⟩) 512 512) ∧ w3.drew.heap.size ≤ g ∧ w'.heap[g]? = some (.cells (BS (Pc.sec ⟨num, L, d⟩)).toArray 5 (0, 0)) ∧ Below w3.drew.heap.size w3.drew w' := cS
              have hk3 : ∀ (W : World) (z : Value), Below w3.drew.heap.size w3.drew W → (W.setCell ⟨gx, at', none⟩ z).cell? ⟨x, 0, none⟩ = some (.slice (some ⟨gx, 0, none⟩) R.count cx2) ∧ (W.setCell ⟨gx, at', none⟩ z).cell? ⟨pb, 0, none⟩ = some (.int .i64 (num : Int)) ∧ (W.setCell ⟨gx, at', none⟩ z).cell? ⟨pb, 1, none⟩ = some (.bool L) ∧ (W.setCell ⟨gx, at', none⟩ z).cell? ⟨pb, 2, none⟩ = some (.slice A' (m - 501 * k) (c - 501 * k)) := fun W z hW => by
                have h9 := hkeep W hW
                have hnx : x ≠ gx := fun e => hx3.neRow hx3.cells (by decide) (by rw [e]; rfl)
                have hnp : pb ≠ gx := fun e => hx3.neRow hp3 (by decide) (by rw [e]; rfl)
                exact ⟨(World.cell?_of_block (a := ⟨x, 0, none⟩) (set_other hnx)).trans h9.1, (World.cell?_of_block (a := ⟨pb, 0, none⟩) (set_other hnp)).trans h9.2.1, (World.cell?_of_block (a := ⟨pb, 1, none⟩) (set_other hnp)).trans h9.2.2.1, (World.cell?_of_block (a := ⟨pb, 2, none⟩) (set_other hnp)).trans h9.2.2.2.1⟩
              have HK3 := Lib.hid hk3
              clear hk3
              have HK := Lib.hid hkeep
              have HCS := Lib.hid cS
              have HX3 := Lib.hid hx3
              have HB3 := Lib.hid hb3
              have HAT := Lib.hid hat
              have j0 : (0 : Int) ≤ (at' : Int) := by omega
              have j9 : (at' : Int) < (R.count : Int) := by omega
              have jz : ¬ R.count = 0 := by omega
              have hs3w : w.heap.size ≤ w3.heap.size := Nat.le_trans HKW.out.size hb3.size
              have HS3W := Lib.hid hs3w
              clear hkeep cS hx3 hb3 hp3 ho3 hat hu hfz hcs hd3 hw3 hs3w hsl hmin m1 m2 m3 m4 m5 c2 c2a c2b hba hpb hbl hgx1 hgx2
              go_upto_region 14 with fail
              obtain ⟨s0, s1, s2, s3, s4, s5⟩ := hst
              have hst := And.intro s0 (And.intro s1 (And.intro s2 s3))
              clear s0 s1 s2 s3 s4 s5
              go_region_held3 (fun w' => w'.cell? ⟨x, 0, none⟩ = some (.slice (some ⟨gx, 0, none⟩) R.count cx2) ∧ w'.cell? ⟨pb, 0, none⟩ = some (.int .i64 (num : Int)) ∧ w'.cell? ⟨pb, 1, none⟩ = some (.bool L) ∧ w'.cell? ⟨pb, 2, none⟩ = some (.slice A' (m - 501 * k) (c - 501 * k))) (first | exact hst | exact hst2 | exact hst3)
                (first | (go_at_call 17; refine HCS.out.mono ?_; rintro e w4 ⟨g4, rfl, hg4, hh4, hb4⟩; obtain ⟨t0, t1, t2, t3, t4, t5⟩ := HK.out w4 hb4; have hst2 := And.intro t0 (And.intro t1 (And.intro t2 t3)); have hst3 := HK3.out w4 (.slice (some ⟨g4, 0, none⟩) 512 512) hb4; clear t0 t1 t2 t3))
              have hb4w : Below w3.heap.size w3 w4 := (Below.refl _ _).drew.trans hb4
              have hx4 := HX3.out.kept (w' := w4) (fun _ h _ => h) hb4w.size (fun b _ hl => hb4w.block b hl)
              have hpl : (Pc.sec ⟨num, L, d⟩).length = 512 := Pc.sec_length ⟨num, L, d⟩ HD5.out
              have hg4l : g4 < w4.heap.size := (Array.getElem?_eq_some_iff.1 hh4).1
              have hrd4 : RdN w4 (fun b => (N b ∨ w.heap.size ≤ b) ∧ U8B w4 b) (.slice (some ⟨g4, 0, none⟩) 512 512) (Pc.sec ⟨num, L, d⟩) := by
                refine ⟨some ⟨g4, 0, none⟩, 512, by rw [hpl], by rw [hpl]; exact Nat.le_refl _, by unfold maxLen; omega, (fun h => by cases h), fun _ => ⟨g4, 0, rfl, ⟨.inr (by have h8 : w3.heap.size ≤ g4 := hg4; have := HS3W.out; omega), _, hh4⟩, hg4l, fun i y hy => ?_⟩⟩
                rw [(row7 hh4).1 (0 + i), Nat.zero_add, List.getElem?_toArray]
                unfold BS
                rw [List.getElem?_map, hy]
                rfl
              have hput := hx4.put (i := at') (by rw [HSLK.out]; exact hatl) (g := gx) (cap := cx2) (by rw [HSLK.out]) hrd4
              have hnx : ZInv w (w4.setCell ⟨gx, at', none⟩ (.slice (some ⟨g4, 0, none⟩) 512 512)) N x S R rec (k + 1) := by
                refine ⟨?_, ?_⟩
                · rw [take_snoc_fold _ _ HCG.out]
                  rw [put_at (i := at') (by rw [HSLK.out]; exact HAT.out.symm)]
                  exact ⟨_, _, hput⟩
                · have h1 := HKW.out.trans (Kept.ofBelow (F := fun b => N b ∧ ¬ IsSec w b) (HB3.out.trans (Joins.below_le hb4w HB3.out.size))) (fun n h => .inl h)
                  obtain ⟨cur, hcur⟩ := row_type hx4.own (p := gx) rfl
                  exact h1.trans (Kept.setCell w4 ⟨gx, at', none⟩ _ (fun b => b = gx) rfl) (fun b hb => by rw [hb]; exact own_not_sec h1 hcur (by decide) (hx4.inv gx rfl))
              have HNX := Lib.hid hnx
              clear hnx hput hrd4 hx4 hb4w hst hst2 hst3 t4 t5 hh4 hg4 hb4
              go_wp2_with fail
              exact ⟨⟨k + 1, by go_num, hkn, HNX⟩, by simp [intOf]; omega⟩
            · have b1 : ¬ (k : Int) < (n : Int) := by omega
              obtain rfl : k = n := by omega
              have hT : ((cut (R.last + 1) rec).take k).foldl put S = (cut (R.last + 1) rec).foldl put S := by rw [List.take_of_length_le (by rw [cut_length, ← HN.out]; exact Nat.le_refl _)]
              rw [hT] at hxz
              have c2 : wz.cell? ⟨x, 2, none⟩ = some (.int .i64 (R.last : Int)) := hxz.c2
              have c3 : wz.cell? ⟨x, 3, none⟩ = some (.int .i64 (R.top : Int)) := hxz.c3
              have z2 := hxz.fz 2
              have z3 := hxz.fz 3
              have hn2 := hxz.note 2 (.int .i64 ((R.last + k : Nat) : Int)) { R with last := R.last + k } (by simp)
              have c2' := hn2.c2
              have c3' := hn2.c3
              have z3' := hn2.fz 3
              have hn3 := hn2.note 3 (.int .i64 ((R.last + k : Nat) : Int)) { R with last := R.last + k, top := R.last + k } (by simp)
              obtain ⟨lk, hlk⟩ : ∃ lk, lk = R.last + k := ⟨_, rfl⟩
              rw [← hlk] at hn2 hn3 c2' c3' z3'
              have hel : (lk : Int) = (R.last : Int) + (k : Int) := by omega
              have HEL := Lib.hid hel
              have hkx : Kept w ((wz.setCell ⟨x, 2, none⟩ (.int .i64 (lk : Int))).setCell ⟨x, 3, none⟩ (.int .i64 (lk : Int))) (fun b => N b ∧ ¬ IsSec w b) := by
                have hxN := own_not_sec hkw hxz.cells (by decide) hxz.inx
                exact (hkw.trans (Kept.setCell wz ⟨x, 2, none⟩ _ (fun b => b = x) rfl) (fun b hb => by rw [hb]; exact hxN)).trans (Kept.setCell _ ⟨x, 3, none⟩ _ (fun b => b = x) rfl) (fun b hb => by rw [hb]; exact hxN)
              have hpost : AppPost w N x S R rec (.returned (.int .i64 0)) ((wz.setCell ⟨x, 2, none⟩ (.int .i64 (lk : Int))).setCell ⟨x, 3, none⟩ (.int .i64 (lk : Int))) := by
                unfold AppPost
                rw [HXP.out, ← hlk]
                exact ⟨rfl, ⟨_, _, hn3⟩, hkx⟩
              have HPOST := Lib.hid hpost
              clear hpost hkx hn2 hn3 hxz hkw hT hel hinv
              go_wp2_with fail
              go_ret
              have hp := HPOST.out
              rw [HEL.out] at hp
              exact hp
end Go.Proofs.Ytlokehekkllbeaa
