/-
  DedupMap's helper: do the keys of a list rise? No statement is proved here. No condition.
-/
import Derived.Test.YtlgjidoehnhnoaaEMapM
import Derived.Test.YtlgjidoehnhnoaaERef
namespace Go.Proofs.Ytlgjidoehnhnoaa
open Go.RowKit

theorem rise_at {M : List PP} (h : rise M) {i : Nat} {p q : PP} (hp : M[i]? = some p) (hq : M[i + 1]? = some q) : bLt p.key q.key = true := by
  have h1 := List.pairwise_iff_getElem.1 h
  obtain ⟨l1, e1⟩ := List.getElem?_eq_some_iff.1 hp
  obtain ⟨l2, e2⟩ := List.getElem?_eq_some_iff.1 hq
  have := h1 i (i + 1) (by simpa using l1) (by simpa using l2) (Nat.lt_succ_self _)
  rw [List.getElem_map, List.getElem_map, e1, e2] at this
  exact this
set_option maxHeartbeats 4000000 in
set_option maxRecDepth 100000 in
theorem rising_any (M : List PP) (v : Value) (w : World) (h : pairR.N w Any v M) (hr : rise M) :
    Calls Try.prog 27 #[v] w fun e w' => e = .returned (.bool true) ∧ Below w.heap.size w w' := by
  obtain ⟨A, c, rfl, hlc, hcm⟩ := h.slice
  have HN := Lib.hid h
  have HR := Lib.hid hr
  unfold maxLen at hcm
  clear h hr
  go_enter Try.func27, Try.ntmps27
  go_wp2_with fail
  go_loopw [3] (fun s3 wr => ∃ i : Nat, s3 = .int .i64 ((i : Int) + 1) ∧ i ≤ M.length ∧ Hid (Below w.heap.size w wr)) (fun s3 _ => M.length + 1 - (intOf s3).toNat)
  case atStart => exact ⟨0, rfl, Nat.zero_le _, Lib.hid (Below.refl _ _)⟩
  case round =>
    obtain ⟨i, rfl, hi, hB⟩ := hrel
    obtain ⟨wz, hwz⟩ : ∃ wz : World, wz = wr := ⟨_, rfl⟩
    subst hwz
    by_cases hil : i + 1 < M.length
    · have a1 : (i : Int) + 1 < (M.length : Int) := by omega
      obtain ⟨p, hpi⟩ : ∃ p, M[i]? = some p := ⟨_, List.getElem?_eq_getElem (by omega)⟩
      obtain ⟨q, hqi⟩ : ∃ q, M[i + 1]? = some q := ⟨_, List.getElem?_eq_getElem hil⟩
      obtain ⟨b, o, n', k', hv, -, hbs, c0, c1⟩ := pair_cell (HN.out.grow hB.out) hpi
      obtain ⟨b', o', n'', k'', hv', -, -, d0, d1⟩ := pair_cell (HN.out.grow hB.out) hqi
      injection hv with e1 e2 e3
      subst e1 e2 e3
      injection hv' with e1 e2 e3
      injection e1 with e1
      injection e1 with e0 e1
      subst e0 e1
      have hlt : Op.bytesLess p.key.toList q.key.toList = true := rise_at HR.out hpi hqi
      have w1 : IntKind.i64.wrap ((i : Int) + 1 - 1) = (i : Int) := IntWalk.i64_in _ (by omega) |>.trans (by omega)
      have w2 : wrap64 ((i : Int) + 1 - 1) = (i : Int) := by unfold wrap64; omega
      have t1 : ((i : Int) + 1).toNat = i + 1 := by omega
      have b1 : (0 : Int) ≤ (i : Int) := by omega
      have b2 : (i : Int) < (M.length : Int) := by omega
      have b3 : (0 : Int) ≤ (i : Int) + 1 := by omega
      have HB2 := Lib.hid (hB.out.drew)
      clear hpi hqi e2 e3
      go_upto_region 4 with fail
      go_region
      go_wp2_with fail
      exact ⟨⟨i + 1, by go_num, by omega, HB2⟩, by simp [intOf]; omega⟩
    · have a1 : ¬ (i : Int) + 1 < (M.length : Int) := by omega
      go_wp2_with fail
      go_ret
      exact ⟨rfl, hB.out⟩
end Go.Proofs.Ytlgjidoehnhnoaa
