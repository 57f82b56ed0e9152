/-
  Who has won: the document's. No statement is proved here. No condition.
-/
import Derived.Test.YtblbcoknefgcaaaBRank
import Derived.Test.YtblbcoknefgcaaaBTurns
namespace Go.Proofs.Ytblbcoknefgcaaa
open Go.RowKit

/-- how many of these are among the votes -/
def cntHas (m r : List Int) : Nat := (r.filter fun x => hasI m x).length
theorem cntHas_le (m r : List Int) : cntHas m r ≤ r.length := List.length_filter_le _ _
theorem cntHas_snoc {m l : List Int} {k : Nat} {x : Int} (h : l[k]? = some x) : cntHas m (l.take (k + 1)) = cntHas m (l.take k) + (if hasI m x = true then 1 else 0) := by
  unfold cntHas
  rw [filter_snoc _ h]
theorem won_has (l m : List Int) : won l m = decide ((cntHas m (wo [] l) : Int) > ((wo [] l).length : Int) - (cntHas m (wo [] l) : Int)) := by
  have h1 : lack l m = ((wo [] l).filter fun x => !hasI m x).length := by unfold lack; rw [wo_filter m l]; rfl
  have h2 := List.length_eq_countP_add_countP (fun x => hasI m x) (l := wo [] l)
  have h3 : (wo [] l).countP (fun x => decide (¬ hasI m x = true)) = ((wo [] l).filter fun x => !hasI m x).length := by
    rw [List.countP_eq_length_filter]
    congr 2
    funext x
    cases hasI m x <;> rfl
  have h4 : (wo [] l).countP (fun x => hasI m x) = cntHas m (wo [] l) := List.countP_eq_length_filter
  unfold won majority
  rw [Bool.eq_iff_iff]
  simp only [decide_eq_true_eq]
  omega
set_option maxHeartbeats 4000000 in
theorem wonR_any (l m : List Int) (a b : Value) (w : World) (ha : inR.N w Any a l) (hb : inR.N w Any b m) (hl : l.length ≤ 1000) :
    Calls Try.prog 33 #[a, b] w fun e w' => e = .returned (.bool (won l m)) ∧ Below w.heap.size w w' := by
  have c1 := onceR_any l a w ha hl
  have H := Lib.hid hb
  have HF0 := Lib.hid (won_has l m)
  clear ha hb
  go_enter Try.func33, Try.ntmps33
  go_wp2_with fail
  refine c1.mono ?_
  rintro e w1 ⟨v1, rfl, ho1, hb1⟩
  clear c1
  obtain ⟨A1, k1, rfl⟩ := ho1.slice
  have HM := Lib.hid (H.out.grow hb1)
  have HX := Lib.hid ho1.n.any
  have HB := Lib.hid hb1
  have hl1 : (wo [] l).length ≤ 1000 := Nat.le_trans (wo_len _ _) hl
  obtain ⟨r, hr⟩ : ∃ r, r = wo [] l := ⟨_, rfl⟩
  rw [← hr] at HF0
  rw [← hr] at hl1 HX ⊢
  clear hb1 ho1 hr
  go_wp2_with fail
  go_loop [6, 7] (fun s5 s8 => ∃ i : Nat, s8 = .int .i64 (i : Int) ∧ s5 = .int .i64 (cntHas m (r.take i) : Int) ∧ i ≤ r.length) (fun _ s8 => r.length - (RowKit.intOf s8).toNat)
  case atStart => exact ⟨0, rfl, rfl, Nat.zero_le _⟩
  case round =>
    obtain ⟨i, rfl, rfl, hi⟩ := hrel
    obtain ⟨cn, hcn⟩ : ∃ cn, cn = cntHas m (r.take i) := ⟨_, rfl⟩
    have hcl : cn ≤ 1000 := by rw [hcn]; exact Nat.le_trans (cntHas_le _ _) (by rw [List.length_take]; omega)
    rw [← hcn]
    have HCN := Lib.hid hcn
    clear hcn
    by_cases hil : i < r.length
    · have a1 : (i : Int) < (r.length : Int) := by omega
      have a0 : (0 : Int) ≤ (i : Int) := by omega
      obtain ⟨x, hx⟩ : ∃ x, r[i]? = some x := ⟨_, List.getElem?_eq_getElem hil⟩
      obtain ⟨g, o, rfl, y0⟩ := in_cell HX.out hx
      have cH := hasR_any m _ x w1 HM.out
      have hst := cntHas_snoc (m := m) hx
      rw [← HCN.out] at hst
      have HST := Lib.hid hst
      clear hx hst
      go_wp2_with fail
      refine cH.mono ?_
      rintro e w' ⟨rfl, rfl⟩
      clear cH
      cases hc : hasI m x
      · have HL : Hid (cntHas m (r.take (i + 1)) = cn) := Lib.hid (by rw [HST.out, hc]; rfl)
        clear hc
        go_wp2_with fail
        go_round
        case rel => exact ⟨i + 1, by go_num, by rw [HL.out], by omega⟩
        case measure => simp [RowKit.intOf]; omega
      · have HL : Hid (cntHas m (r.take (i + 1)) = cn + 1) := Lib.hid (by rw [HST.out, hc]; rfl)
        clear hc
        go_wp2_with fail
        go_round
        case rel => exact ⟨i + 1, by go_num, by rw [HL.out]; go_num, by omega⟩
        case measure => simp [RowKit.intOf]; omega
    · have a1 : ¬ (i : Int) < (r.length : Int) := by omega
      have HL : Hid (won l m = decide ((cn : Int) > (r.length : Int) - (cn : Int))) := Lib.hid (by rw [HF0.out, HCN.out, List.take_of_length_le (by omega)])
      go_wp2_with fail
      go_ret
      exact ⟨by rw [HL.out] <;> rfl, HB.out⟩
end Go.Proofs.Ytblbcoknefgcaaa
