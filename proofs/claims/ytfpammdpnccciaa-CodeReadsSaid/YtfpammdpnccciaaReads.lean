/-
  The walk of the law CodeReads: whatever is asked of a reader over any bytes, it tells what the document says. Condition: what is read has room in the memory that a call may have.
-/
import Derived.Test.YtfpammdpnccciaaRefS
import Derived.Test.YtfpammdpnccciaaWrites
import Derived.Deep.DeepCutAuto
import Derived.Deep.RegionHeld3
namespace Go.Proofs.Ytfpammdpnccciaa
open Go.RowKit

/-- The slice value reads as questions (a kind and a bound each), all of them below block B. -/
def RdA (w : World) (B : Nat) (v : Value) (qs : List (Int × Int)) : Prop :=
  ∃ A c, v = .slice A qs.length c ∧ (qs ≠ [] → ∃ b o, A = some ⟨b, o, none⟩ ∧ b < B ∧ ∀ i q, qs[i]? = some q → w.cell? ⟨b, o + i * 2, none⟩ = some (.int .i64 q.1) ∧ w.cell? ⟨b, o + i * 2 + 1, none⟩ = some (.int .i64 q.2))

theorem Rd.same {w w' : World} {B : Nat} {v : Value} {l : List UInt8} (h : Rd w B v l) (hk : ∀ k, v.ownBlock = some k → w'.heap[k]? = w.heap[k]?) : Rd w' B v l := by
  obtain ⟨A, c, rfl, h1, h2, h3, h4⟩ := h
  refine ⟨A, c, rfl, h1, h2, h3, fun hn => ?_⟩
  obtain ⟨b, o, rfl, hb, hc⟩ := h4 hn
  exact ⟨b, o, rfl, hb, fun i x hx => (World.cell?_of_block (a := ⟨b, o + i, none⟩) (hk b rfl)).trans (hc i x hx)⟩

/-- What is written to one reader's cell does not touch another one. -/
theorem Rdr.apart {T T' : TypeId} {w w' : World} {R X : Nat} {st st' : Option (List UInt8)} (h : Rdr T w X st) (h' : Rdr T' w R st') (hne : X ≠ R) (hg : w.grownBy w' (some R)) : Rdr T w' X st := by
  obtain ⟨v, hh, hr⟩ := h
  obtain ⟨v', hh', hr'⟩ := h'
  have hX := (Array.getElem?_eq_some_iff.1 hh).1
  refine ⟨v, (hg.block X hX (fun e => hne (by injection e))).trans hh, ?_⟩
  obtain ⟨A, c, rfl, h1, h2, h3, h4⟩ := hr
  obtain ⟨A', c', rfl, _⟩ := hr'
  refine ⟨A, c, rfl, h1, h2, h3, fun hn => ?_⟩
  obtain ⟨b, o, rfl, hb, hc⟩ := h4 hn
  refine ⟨b, o, rfl, hb, fun i x hx => (World.cell?_of_block (a := ⟨b, o + i, none⟩) (hg.block b (Nat.lt_trans hb hX) ?_)).trans (hc i x hx)⟩
  intro e
  injection e with e
  subst e
  have h0 := hc i x hx
  rw [(row_cells hh').1 (o + i)] at h0
  match o + i, h0 with
  | 0, h0 => simp at h0
  | 1, h0 => simp at h0
  | k + 2, h0 => simp at h0

theorem Rdr.below {T : TypeId} {B : Nat} {w w' : World} {R : Nat} {st : Option (List UInt8)} (h : Rdr T w R st) (hb : Below B w w') (hR : R < B) : Rdr T w' R st := by
  obtain ⟨v, hh, hr⟩ := h
  exact ⟨v, (hb.block R hR).trans hh, hr.keep (Nat.le_refl _) fun p hp => hb.cell (by omega)⟩

/-- a new reader, and that its bytes lie in new memory -/
theorem New_new (l : List UInt8) (v : Value) (w : World) (hr : Rd w w.heap.size v l) (hl : l.length ≤ 140737488355328) :
    Calls Try.prog 12 #[v] w fun e w' => ∃ R u, e = .returned (.pointer (some ⟨R, 0, none⟩)) ∧ w.heap.size ≤ R ∧ w'.heap[R]? = some (.cells #[u, .bool false] 56 (0, 0)) ∧ Rd w' R u l ∧ (∀ k, u.ownBlock = some k → w.heap.size ≤ k ∧ k < R) ∧ Below w.heap.size w w' := by
  go_enter Try.func12, Try.ntmps12
  go_wp2_with fail
  refine (copied_any l v 0 _ hr (by omega) (by omega) hl).mono ?_
  rintro e w1 ⟨v1, rfl, ho1, hb1⟩
  have hd := Rd.own ho1
  have HD := Lib.hid hd
  have HO := Lib.hid ho1
  obtain ⟨A, c, rfl, _⟩ := hd
  clear ho1
  go_wp2_with fail
  go_ret
  exact ⟨w1.heap.size, _, rfl, hb1.size, heap_alloc_new w1 _, HD.out.keep (Nat.le_refl _) fun p hp => World.cell?_alloc_lt w1 _ p hp, fun k hk => HO.out.lt k hk, hb1.alloc hb1.size _⟩

set_option maxRecDepth 100000 in
set_option maxHeartbeats 2000000 in
theorem reads_walk (l : List UInt8) (qs : List (Int × Int)) (b a : Value) (w : World) (hb : Rd w w.heap.size b l) (ha : RdA w w.heap.size a qs) (hl : l.length ≤ 140737488351232) (hq : qs.length ≤ 9223372036854775807) :
    Calls Try.prog 5 #[b, a] w fun e w' => e = .returned (.bool true) ∧ Below w.heap.size w w' := by
  obtain ⟨i0, hi, hz0, hz1, hz2⟩ := info_parts info_u8
  have HB := Lib.hid hb
  obtain ⟨A, ca, rfl, -⟩ := hb
  obtain ⟨A2, cq, rfl, hcell⟩ := ha
  by_cases hmany : 100 < qs.length
  · have hm' : (100 : Int) < (qs.length : Int) := by omega
    clear hcell
    go_enter Try.func5, Try.ntmps5
    go_wp2_with fail
    go_ret
    exact ⟨rfl, Below.refl _ _⟩
  · have hm' : ¬ (100 : Int) < (qs.length : Int) := by omega
    have HCELL := Lib.hid hcell
    clear hcell hq
    have hlit : (w.alloc (.cells #[] 5)).ownsRow w.heap.size 5 1 (.slice (some ⟨w.heap.size, 0, none⟩) 0 0) 0 (BS []) := World.ownsRow_lit w #[] 0 (Nat.le_refl _) (by unfold maxLen; omega) rfl
    have hbl : Below w.heap.size w (w.alloc (.cells #[] 5)) := (Below.refl _ _).alloc (Nat.le_refl _) _
    have hr0 : Rd (w.alloc (.cells #[] 5)) (w.heap.size + 1) (.slice A l.length ca) l := HB.out.below hbl (by omega)
    go_enter Try.func5, Try.ntmps5
    go_wp2_with (first
      | (at_builtin; refine wpList_app rfl (.tmp 13) (.tmp 14) 23 rfl w.heap.size 5 i0 Try.underlying23 hi hz0 hz1 hz2 _ _ [] l 0 rfl rfl hlit _ hr0 (by simp only [List.length_nil]; omega) (by simp) ?_; intro vi w0 ho0 hg0; have hb0 := hbl.grown hg0 hbl.size (fun k h => (hlit.lt k h).1); clear hlit hbl hr0 hg0)
      | fail)
    have hoi := own_as ho0 (List.nil_append l) rfl
    have hri := Rd.own hoi
    have HOI := Lib.hid hoi
    clear ho0 hoi
    refine (New_new l vi _ hri (by omega)).mono ?_
    rintro e w1 ⟨R, u, rfl, hR, hRh, hRd, hRo, hb1⟩
    have hb1' := hb0.trans (hb1.mono hb0.size)
    have hRlt : R < w1.heap.size := (Array.getElem?_eq_some_iff.1 hRh).1
    have hoi1 : w1.ownsRow w.heap.size 5 1 vi l.length (BS l) := own_same HOI.out fun p hp => hb1.block p (HOI.out.lt p hp).2
    have htop : ∀ k, vi.ownBlock = some k → w.heap.size ≤ k ∧ k < w0.heap.size := fun k hk => HOI.out.lt k hk
    have hw01 := hb1.size
    obtain ⟨Ai, ci, hvi, -⟩ := hri
    subst hvi
    have HTOP := Lib.hid htop
    have HRO := Lib.hid hRo
    have HRD := Lib.hid hRd
    have HRH := Lib.hid hRh
    clear htop hRo hRd hRh hb1
    go_wp2_with fail
    go_loopw [7] (fun j wx => ∃ (r : Nat) (xs : List Value), j = .int .i64 r ∧ r ≤ l.length ∧ Wr w.heap.size w0.heap.size w1 wx ∧ wx.ownsRow w.heap.size 5 1 (.slice Ai l.length ci) l.length xs) (fun j _ => l.length - (intOf j).toNat)
    case atStart => exact ⟨0, _, rfl, by omega, ⟨rfl, rfl, rfl, Nat.le_refl _, fun _ _ _ => rfl⟩, hoi1⟩
    case round =>
      obtain ⟨r, xs, rfl, hr, hwx, hox⟩ := hrel
      clear hoi1
      by_cases hrl : r < l.length
      · have hrl' : (r : Int) < (l.length : Int) := by omega
        obtain ⟨g, cap, hform, hg1, hg2⟩ := hox.form (by omega)
        injection hform with e1 _ e3
        subst e1
        subst e3
        have hlx : xs.length = l.length := by simpa using hox.1
        obtain ⟨y, hcg⟩ : ∃ y, wr.cell? ⟨g, r, none⟩ = some y := ⟨xs[r]'(by omega), by rw [hox.cellAt r (by omega)]; exact List.getElem?_eq_getElem (by omega)⟩
        have hfg : wr.frozen? ⟨g, r, none⟩ = false := hox.frozenAt r
        have hst2 := hox.stored r (.int .u8 5)
        have htg := (HTOP.out g rfl).2
        have HST := Lib.hid hst2
        have HWX := Lib.hid hwx
        clear hst2 hwx hox hlx
        go_wp2_with fail
        refine ⟨⟨r + 1, _, by go_num, hrl, ?_, HST.out.1⟩, by simp [intOf]; omega⟩
        have h1 := HWX.out
        have h2 := HST.out.2
        exact ⟨h2.os.trans h1.1, h2.tape.trans h1.2.1, h2.output.trans h1.2.2.1, Nat.le_trans h1.2.2.2.1 h2.size, fun p hp hps => (h2.block p (Nat.lt_of_lt_of_le hps h1.2.2.2.1) (fun e => by injection e with e; omega)).trans (h1.2.2.2.2 p hp hps)⟩
      · have hrl' : ¬ (r : Int) < (l.length : Int) := by omega
        have hbx : Below w.heap.size w wr := hwx.below hb1' (Nat.le_refl _)
        have hRr : Rdr 56 wr R (some l) := ⟨u, (hwx.2.2.2.2 R (.inr hR) hRlt).trans HRH.out, HRD.out.same fun k hk => by
          have hk1 := HRO.out k hk
          exact hwx.2.2.2.2 k (.inr hk1.1) (by omega)⟩
        have hlit : (wr.alloc (.cells #[] 5)).ownsRow w.heap.size 5 1 (.slice (some ⟨wr.heap.size, 0, none⟩) 0 0) 0 (BS []) := World.ownsRow_lit wr #[] 0 hbx.size (by unfold maxLen; omega) rfl
        have hbl := hbx.alloc hbx.size (.cells #[] 5)
        have hr0 : Rd (wr.alloc (.cells #[] 5)) (wr.heap.size + 1) (.slice A l.length ca) l := HB.out.below hbl (by have := hbx.size; omega)
        have HRR := Lib.hid (hRr.alloc (.cells #[] 5))
        have hRlt2 : R < wr.heap.size := hRr.lt
        clear hwx hox hRr
        go_wp2_with (first
          | (at_builtin; refine wpList_app rfl (.tmp 27) (.tmp 28) 23 rfl wr.heap.size 5 i0 Try.underlying23 hi hz0 hz1 hz2 _ _ [] l 0 rfl rfl (World.ownsRow_lit wr #[] 0 (Nat.le_refl _) (by unfold maxLen; omega) rfl) _ hr0 (by simp only [List.length_nil]; omega) (by simp) ?_; intro vx w4 ho4 hg4; have O4 := Lib.hid ho4; have G4 := Lib.hid hg4; obtain ⟨Ax, cx, hvx, -⟩ := Rd.own ho4; subst hvx; clear ho4 hg4)
          | fail)
        have hb4 : Below wr.heap.size (wr.alloc (.cells #[] 5)) w4 := (Below.refl _ _).grown G4.out (by simp) (fun k h => by injection h with h; subst h; exact Nat.le_refl _)
        have hb4w := hbl.trans (hb4.mono hbx.size)
        have hs4 : wr.heap.size < w4.heap.size := Nat.lt_of_lt_of_le (by simp) hb4.size
        have hR4 : Rdr 56 w4 R (some l) := HRR.out.below hb4 hRlt2
        have hX4 : Rdr 41 (w4.alloc (.cells #[.slice Ax l.length cx, .bool false] 41)) w4.heap.size (some l) := ⟨_, heap_alloc_new w4 _, (Rd.own (l := l) (own_as O4.out (List.nil_append l) rfl)).keep (Nat.le_refl _) fun p hp => World.cell?_alloc_lt w4 _ p hp⟩
        have hR4' := hR4.alloc (.cells #[.slice Ax l.length cx, .bool false] 41)
        have hbw4 := hb4w.alloc hb4w.size (.cells #[.slice Ax l.length cx, .bool false] 41)
        obtain ⟨X, hX⟩ : ∃ X, X = w4.heap.size := ⟨_, rfl⟩
        have hRX : R < X := by omega
        have hwX : w.heap.size ≤ X := by have := hb4w.size; omega
        have hwR : w.heap.size ≤ R := by have := hb0.size; omega
        rw [← hX] at hX4
        rw [← hX]
        clear hX hR4 hb4 hb4w hs4 hbx hbl hr0 hlit hb1' hRlt hRlt2 hw01 hb0 hR
        go_loopw [9] (fun i wx => ∃ (k : Nat) (st : Option (List UInt8)), i = .int .i64 k ∧ k ≤ qs.length ∧ Rdr 56 wx R st ∧ Rdr 41 wx X st ∧ Below w.heap.size w wx) (fun i _ => qs.length + 1 - (intOf i).toNat)
        case atStart => exact ⟨0, some l, rfl, by omega, hR4', hX4, hbw4⟩
        case round =>
          obtain ⟨k, st, rfl, hk, hr, hx, hbw⟩ := hrel
          clear hR4' hX4 hbw4
          have hk' : (k : Int) ≤ (qs.length : Int) := by omega
          obtain ⟨vx, hhx, hrx⟩ := id hx
          obtain ⟨Ay, cy, rfl, -⟩ := hrx
          have hcx0 : ∀ q, (wr.drewN q).cell? ⟨X, 0, none⟩ = some (.slice Ay (st.getD []).length cy) := fun q => (row_cells (w := wr.drewN q) hhx).1 0
          have hcx1 : ∀ q, (wr.drewN q).cell? ⟨X, 1, none⟩ = some (.bool st.isNone) := fun q => (row_cells (w := wr.drewN q) hhx).1 1
          have hrq : ∀ q, Rdr 56 (wr.drewN q) R st := fun _ => hr
          have hok : ∀ q, Calls Try.prog 17 #[.pointer (some ⟨R, 0, none⟩)] (wr.drewN q) fun e w' => e = .returned (.bool st.isSome) ∧ w' = wr.drewN q := fun q => (ok_any R st _ (hrq q)).mono fun e w' h => ⟨h.1, h.2.symm⟩
          have hleft : ∀ q, Calls Try.prog 18 #[.pointer (some ⟨R, 0, none⟩)] (wr.drewN q) fun e w' => e = .returned (.int .i64 ((st.getD []).length : Int)) ∧ w' = wr.drewN q := fun q => (left_any R st _ (hrq q)).mono fun e w' h => ⟨h.1, h.2.symm⟩
          have hdone : ∀ q, Calls Try.prog 19 #[.pointer (some ⟨R, 0, none⟩)] (wr.drewN q) fun e w' => e = .returned (.bool (st == some [])) ∧ w' = wr.drewN q := fun q => (done_any R st _ (hrq q)).mono fun e w' h => ⟨h.1, h.2.symm⟩
          have HOK := Lib.hid hok
          have HLEFT := Lib.hid hleft
          have HDONE := Lib.hid hdone
          have HR := Lib.hid hr
          have HX := Lib.hid hx
          clear hok hleft hdone hrq hr hx hhx
          go_upto_region 13 with fail
          go_cut [73] (fun x wx => x = .bool false ∧ ∃ q, wx = wr.drewN q)
          case first =>
            cases st with
            | none =>
              go_quiet ((first | (go_at_call 17; exact Calls.quiet_of_same (HOK.out _)) | (go_at_call 18; exact Calls.quiet_of_same (HLEFT.out _)) | (go_at_call 19; exact Calls.quiet_of_same (HDONE.out _))))
              all_goals
                go_wp2_with fail
                go_meet
                exact ⟨by simp, _, rfl⟩
            | some t =>
              cases t with
              | nil =>
                go_quiet ((first | (go_at_call 17; exact Calls.quiet_of_same (HOK.out _)) | (go_at_call 18; exact Calls.quiet_of_same (HLEFT.out _)) | (go_at_call 19; exact Calls.quiet_of_same (HDONE.out _))))
                all_goals
                  go_wp2_with fail
                  go_meet
                  exact ⟨by simp, _, rfl⟩
              | cons y t =>
                have hne : (((y :: t).length : Int) == 0) = false := by simp; omega
                go_quiet ((first | (go_at_call 17; exact Calls.quiet_of_same (HOK.out _)) | (go_at_call 18; exact Calls.quiet_of_same (HLEFT.out _)) | (go_at_call 19; exact Calls.quiet_of_same (HDONE.out _))))
                all_goals
                  go_wp2_with fail
                  go_meet
                  exact ⟨by simp; omega, _, rfl⟩
          case rest =>
            obtain ⟨rfl, q, rfl⟩ := hcut
            have hr : Rdr 56 (wr.drewN q) R st := HR.out
            have hx : Rdr 41 (wr.drewN q) X st := HX.out
            have hbw' : Below w.heap.size w (wr.drewN q) := ⟨hbw.os, hbw.tape, hbw.output, hbw.size, hbw.block⟩
            clear hcx0 hcx1 HOK HLEFT HDONE hbw
            by_cases hkl : k < qs.length
            · obtain ⟨g, o, rfl, hg, hc⟩ := HCELL.out (fun h => by subst h; exact absurd hkl (Nat.not_lt_zero _))
              obtain ⟨⟨kind, most⟩, hqk⟩ : ∃ p, qs[k]? = some p := ⟨_, List.getElem?_eq_getElem hkl⟩
              obtain ⟨hk1, hk2⟩ := hc k _ hqk
              have hkk : (k : Int) < (qs.length : Int) := by omega
              have hke : ((k : Int) == (qs.length : Int)) = false := by simp; omega
              have hc1 : (wr.drewN q).cell? ⟨g, o + k * 2, none⟩ = some (.int .i64 kind) := (hbw'.cell (p := ⟨g, o + k * 2, none⟩) hg).trans hk1
              have hc2 : (wr.drewN q).cell? ⟨g, o + k * 2 + 1, none⟩ = some (.int .i64 most) := (hbw'.cell (p := ⟨g, o + k * 2 + 1, none⟩) hg).trans hk2
              obtain ⟨W, hW⟩ : ∃ W, W = wr.drewN q := ⟨_, rfl⟩
              rw [← hW] at hr hx hbw' hc1 hc2
              rw [← hW]
              clear hW hqk hc
              have HK2 := Lib.hid hk2
              clear hk1 hk2
              by_cases hk0 : kind = 0
              · subst hk0
                go_wp2_with fail
                refine (Num_any R st _ hr).mono ?_
                rintro e z1 ⟨rfl, hg1, hr1⟩
                have hx1 := hx.apart hr (by omega) hg1
                have hb1 := hbw'.grown hg1 hbw'.size (fun k h => by injection h with h; omega)
                go_wp2_with fail
                refine (xNum_any X st _ hx1).mono ?_
                rintro e z2 ⟨rfl, hg2, hx2⟩
                have hr2 := hr1.apart hx1 (by omega) hg2
                have hb2 := hb1.grown hg2 hb1.size (fun k h => by injection h with h; omega)
                go_wp2_with fail
                refine ⟨⟨k + 1, _, by go_num, hkl, hr2, hx2, hb2⟩, by simp [intOf]; omega⟩
              · have h0 : (kind == 0) = false := by simpa using hk0
                by_cases hk1 : kind = 1
                · subst hk1
                  clear hk0
                  go_upto_region 23 with fail
                  go_cut [111] (fun x wx => x = .bool false ∧ ∃ st', Rdr 56 wx R st' ∧ Rdr 41 wx X st' ∧ Below w.heap.size w wx)
                  case first =>
                    have hr' : Rdr 56 W.drew R st := hr
                    have hx' : Rdr 41 W.drew X st := hx
                    have hc' : W.drew.cell? ⟨g, o + k * 2 + 1, none⟩ = some (.int .i64 most) := hc2
                    have hbd := hbw'.drew
                    clear hr hx hbw' hc1
                    go_region_held3 (fun w' => w'.cell? ⟨g, o + k * 2 + 1, none⟩ = some (.int .i64 most)) (go_keep)
                      (first
                        | (go_at_call 14; refine (Count_any R most st _ hr').mono ?_; rintro e z1 ⟨rfl, hg1, hr1⟩; have hx1 := hx'.apart hr' (by omega) hg1; have hb1 := hbd.grown hg1 hbd.size (fun k h => by injection h with h; omega); have hz1' : z1.cell? ⟨g, o + k * 2 + 1, none⟩ = some (.int .i64 most) := (hb1.cell (p := ⟨g, o + k * 2 + 1, none⟩) hg).trans HK2.out)
                        | (go_at_call 27; refine (xCount_any X most st _ hx1).mono ?_; rintro e z2 ⟨rfl, hg2, hx2⟩; have hr2 := hr1.apart hx1 (by omega) hg2; have hb2 := hb1.grown hg2 hb1.size (fun k h => by injection h with h; omega); have hz2' : z2.cell? ⟨g, o + k * 2 + 1, none⟩ = some (.int .i64 most) := (hb2.cell (p := ⟨g, o + k * 2 + 1, none⟩) hg).trans HK2.out))
                    all_goals
                      go_wp2_with fail
                      go_meet
                      exact ⟨by simp, _, hr2, hx2, hb2⟩
                  case rest =>
                    obtain ⟨rfl, st', hr2, hx2, hb2⟩ := hcut
                    go_wp2_with fail
                    refine ⟨⟨k + 1, _, by go_num, hkl, hr2, hx2, hb2⟩, by simp [intOf]; omega⟩
                · have h1 : (kind == 1) = false := by simpa using hk1
                  by_cases hk2' : kind = 2
                  · subst hk2'
                    clear hk0 hk1
                    go_upto_region 26 with fail
                    go_cut [128] (fun x wx => x = .bool false ∧ ∃ st', Rdr 56 wx R st' ∧ Rdr 41 wx X st' ∧ Below w.heap.size w wx)
                    case first =>
                      have hr' : Rdr 56 W.drew R st := hr
                      have hx' : Rdr 41 W.drew X st := hx
                      have hc' : W.drew.cell? ⟨g, o + k * 2 + 1, none⟩ = some (.int .i64 most) := hc2
                      have hbd := hbw'.drew
                      clear hr hx hbw' hc1
                      go_region_held3 (fun w' => w'.cell? ⟨g, o + k * 2 + 1, none⟩ = some (.int .i64 most)) (go_keep)
                        (first
                          | (go_at_call 15; refine (Str_any R most st _ hr').mono ?_; rintro e z1 ⟨rfl, hg1, hr1⟩; have hx1 := hx'.apart hr' (by omega) hg1; have hb1 := hbd.grown hg1 hbd.size (fun k h => by injection h with h; omega); have hz1' : z1.cell? ⟨g, o + k * 2 + 1, none⟩ = some (.int .i64 most) := (hb1.cell (p := ⟨g, o + k * 2 + 1, none⟩) hg).trans HK2.out)
                          | (go_at_call 28; refine (xStr_any X most st _ hx1).mono ?_; rintro e z2 ⟨rfl, hg2, hx2⟩; have hr2 := hr1.apart hx1 (by omega) hg2; have hb2 := hb1.grown hg2 hb1.size (fun k h => by injection h with h; omega); have hz2' : z2.cell? ⟨g, o + k * 2 + 1, none⟩ = some (.int .i64 most) := (hb2.cell (p := ⟨g, o + k * 2 + 1, none⟩) hg).trans HK2.out))
                      all_goals
                        go_wp2_with fail
                        go_meet
                        exact ⟨by simp, _, hr2, hx2, hb2⟩
                    case rest =>
                      obtain ⟨rfl, st', hr2, hx2, hb2⟩ := hcut
                      go_wp2_with fail
                      refine ⟨⟨k + 1, _, by go_num, hkl, hr2, hx2, hb2⟩, by simp [intOf]; omega⟩
                  · have h2 : (kind == 2) = false := by simpa using hk2'
                    clear hk0 hk1 hk2'
                    go_wp2_with fail
                    refine (Flag_any R st _ hr).mono ?_
                    rintro e z1 ⟨rfl, hg1, hr1⟩
                    have hx1 := hx.apart hr (by omega) hg1
                    have hb1 := hbw'.grown hg1 hbw'.size (fun k h => by injection h with h; omega)
                    go_wp2_with fail
                    refine (xFlag_any X st _ hx1).mono ?_
                    rintro e z2 ⟨rfl, hg2, hx2⟩
                    have hr2 := hr1.apart hx1 (by omega) hg2
                    have hb2 := hb1.grown hg2 hb1.size (fun k h => by injection h with h; omega)
                    go_wp2_with fail
                    refine ⟨⟨k + 1, _, by go_num, hkl, hr2, hx2, hb2⟩, by simp [intOf]; omega⟩
            · have hke : k = qs.length := by omega
              have hke' : ((k : Int) == (qs.length : Int)) = true := by simp; omega
              clear hke
              go_wp2_with fail
              go_ret
              exact ⟨rfl, hbw'⟩
end Go.Proofs.Ytfpammdpnccciaa
