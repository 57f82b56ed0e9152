/-
  What a majority has: the program's. No statement is proved here. No condition.
-/
import Derived.Test.YtblbcoknefgcaaaBSort
import Derived.Test.YtblbcoknefgcaaaBWon
import Derived.Test.YtblbcoknefgcaaaBMem
namespace Go.Proofs.Ytblbcoknefgcaaa
open Go.RowKit

/-- a voter's index -/
def idxB (at_ : List Int) (v : Int) : Int := if (decide (1 ≤ v) && decide (v ≤ (at_.length : Int))) = true then (at_[(v - 1).toNat]?).getD 0 else 0
theorem index_any (v : Int) (at_ : List Int) (a : Value) (w : World) (ha : inR.N w Any a at_) :
    Calls Try.prog 74 #[.int .i64 v, a] w fun e w' => e = .returned (.int .i64 (idxB at_ v)) ∧ w = w' := by
  obtain ⟨A, c, rfl, hlc, hcm⟩ := ha.slice
  have hlm : at_.length ≤ maxLen := Nat.le_trans hlc hcm
  unfold maxLen at hlm
  have HA := Lib.hid ha
  clear ha hlc hcm
  by_cases hv1 : v < 1
  · have HF : Hid (idxB at_ v = 0) := Lib.hid (by unfold idxB; rw [show decide (1 ≤ v) = false by simp; omega]; rfl)
    go_enter Try.func74, Try.ntmps74
    go_wp2_with fail
    go_ret
    exact ⟨by rw [HF.out] <;> rfl, rfl⟩
  by_cases hvl : v > (at_.length : Int)
  · have HF : Hid (idxB at_ v = 0) := Lib.hid (by unfold idxB; rw [show decide (v ≤ (at_.length : Int)) = false by simpa using hvl, Bool.and_false]; rfl)
    go_enter Try.func74, Try.ntmps74
    go_wp2_with fail
    go_ret
    exact ⟨by rw [HF.out] <;> rfl, rfl⟩
  obtain ⟨k, hk⟩ : ∃ k : Nat, v = (k : Int) + 1 := ⟨(v - 1).toNat, by omega⟩
  obtain ⟨x, hx⟩ : ∃ x, at_[k]? = some x := ⟨_, List.getElem?_eq_getElem (by omega)⟩
  have HF : Hid (idxB at_ v = x) := Lib.hid (by
    unfold idxB
    rw [show decide (1 ≤ v) = true by simp; omega, show decide (v ≤ (at_.length : Int)) = true by simp; omega, show (v - 1).toNat = k by omega, hx]
    rfl)
  obtain ⟨g, o, rfl, y0⟩ := in_cell HA.out hx
  have hsub : wrap64 (v - 1) = (k : Int) := by unfold wrap64; omega
  have b0 : (0 : Int) ≤ (k : Int) := by omega
  have b1 : (k : Int) < (at_.length : Int) := by omega
  have HK := Lib.hid hk
  have hv6 : ¬ v > (at_.length : Int) := hvl
  subst hk
  have hsub2 : (k : Int) + 1 - 1 = (k : Int) := by omega
  clear hx HK hsub
  go_enter Try.func74, Try.ntmps74
  go_wp2_with fail
  go_ret
  exact ⟨by rw [HF.out] <;> rfl, rfl⟩
def commonL (l at_ : List Int) : List Int := (wo [] l).map (idxB at_)
def common (l at_ : List Int) : Int := if (wo [] l).length = 0 then 0 else max 0 (((commonL l at_).mergeSort leI)[(wo [] l).length - majority (wo [] l).length]?.getD 0)
theorem mixed_step {l at_ : List Int} {i : Nat} {x : Int} (h : l[i]? = some x) : ((l.take i).map (idxB at_) ++ l.drop i)[i]? = some x ∧ ((l.take i).map (idxB at_) ++ l.drop i).set i (idxB at_ x) = (l.take (i + 1)).map (idxB at_) ++ l.drop (i + 1) := by
  have hl := (List.getElem?_eq_some_iff.1 h).1
  have hlen : ((l.take i).map (idxB at_)).length = i := by rw [List.length_map, List.length_take, Nat.min_eq_left (Nat.le_of_lt hl)]
  have hd : l.drop i = x :: l.drop (i + 1) := by rw [List.drop_eq_getElem_cons hl, (List.getElem?_eq_some_iff.1 h).2]
  constructor
  · rw [List.getElem?_append_right (by omega), hlen, Nat.sub_self, hd]
    rfl
  · rw [List.set_append_right _ _ (by omega), hlen, Nat.sub_self, hd, take_snoc h, List.map_append, List.append_assoc]
    rfl
set_option maxHeartbeats 4000000 in
set_option maxRecDepth 100000 in
theorem common_any (l at_ : List Int) (a b : Value) (w : World) (ha : inR.N w Any a l) (hb : inR.N w Any b at_) (hl : l.length ≤ 1000) (wl : ∀ x ∈ l, I6 x) :
    Calls Try.prog 26 #[a, b] w fun e w' => e = .returned (.int .i64 (common l at_)) ∧ Below w.heap.size w w' := by
  obtain ⟨A2, c2, rfl, -, -⟩ := hb.slice
  have c1 := unlike_any l a w ha hl wl
  have H := Lib.hid hb
  have h1 : (wo [] l).length ≤ 1000 := Nat.le_trans (wo_len _ _) hl
  obtain ⟨r, hr⟩ : ∃ r, r = wo [] l := ⟨_, rfl⟩
  rw [← hr] at c1 h1
  have HR := Lib.hid hr
  clear ha hb wl hr
  go_enter Try.func26, Try.ntmps26
  go_wp2_with fail
  refine c1.mono ?_
  rintro e w1 ⟨A1, k1, rfl, ho1, hb1⟩
  clear c1
  have HO := Lib.hid (And.intro ho1 hb1)
  clear ho1 hb1
  by_cases h0 : r.length = 0
  · have h2 : (r.length : Int) = 0 := by omega
    have h3 : r = [] := List.eq_nil_of_length_eq_zero h0
    have HF : Hid (common l at_ = 0) := Lib.hid (by unfold common; rw [← HR.out, if_pos h0])
    clear h0
    subst h3
    go_wp2_with fail
    go_ret
    exact ⟨by rw [HF.out] <;> rfl, HO.out.2⟩
  have h2 : ¬ (r.length : Int) = 0 := by omega
  have h3 : ¬ r = [] := fun e => h0 (by rw [e]; rfl)
  rcases own_opened HO.out.1 with ⟨hv, he⟩ | ⟨g, cap, rest, hv, -⟩
  · exact absurd he h3
  injection hv with v1 v2 v3
  subst v1 v3
  obtain ⟨n, hn⟩ : ∃ n, n = r.length := ⟨_, rfl⟩
  have HW0 : Hid (inR.Own w1 w.heap.size 3 (.slice (some ⟨g, 0, none⟩) n k1) ((r.take 0).map (idxB at_) ++ r.drop 0) ∧ Below w.heap.size w w1) := Lib.hid (by rw [hn]; exact HO.out)
  have HN := Lib.hid hn
  rw [← hn] at h1 h2 ⊢
  have h4 : ¬ n = 0 := by omega
  have h5 : ((n : Int) == 0) = false := by rw [beq_eq_false_iff_ne]; exact h2
  clear HO h0 h3 hn v2
  go_wp2_with fail
  go_loopw [15] (fun s15 wr => ∃ i : Nat, s15 = .int .i64 (i : Int) ∧ i ≤ n ∧ Hid (inR.Own wr w.heap.size 3 (.slice (some ⟨g, 0, none⟩) n k1) ((r.take i).map (idxB at_) ++ r.drop i) ∧ Below w.heap.size w wr)) (fun s15 _ => n - (RowKit.intOf s15).toNat)
  case atStart => exact ⟨0, rfl, Nat.zero_le _, HW0⟩
  case round =>
    clear HW0
    obtain ⟨i, rfl, hi, hs⟩ := hrel
    obtain ⟨wz, hwz⟩ : ∃ wz : World, wz = wr := ⟨_, rfl⟩
    subst hwz
    by_cases hil : i < n
    · have a1 : (i : Int) < (n : Int) := by omega
      have a0 : (0 : Int) ≤ (i : Int) := by omega
      obtain ⟨x, hx⟩ : ∃ x, r[i]? = some x := ⟨_, List.getElem?_eq_getElem (by have := HN.out; omega)⟩
      obtain ⟨hm1, hm2⟩ := mixed_step (at_ := at_) hx
      have hOn : inR.Own wz w.heap.size 3 (.slice (some ⟨g, 0, none⟩) n k1) ((r.take i).map (idxB at_) ++ r.drop i) := hs.out.1
      obtain ⟨g', cg, hv, hgB, hgl, hcell, hfz, hO2⟩ := rec_poke (R := inR) (y := idxB at_ x) (j := 0) (u := .int .i64 (idxB at_ x)) hOn hm1 rfl (by decide)
      injection hv with e1 e2 e3
      injection e1 with e1
      injection e1 with e1
      subst e1 e3
      have hii : i * inR.size + 0 = i := by show i * 1 + 0 = i; omega
      have y0 : wz.cell? ⟨g, i, none⟩ = some (.int .i64 x) := by rw [← hii]; exact hcell 0 _ rfl
      have hf0 : wz.frozen? ⟨g, i, none⟩ = false := hfz i
      rw [hii, hm2] at hO2
      have cI := index_any x at_ _ wz (H.out.kept (fun _ _ h => trivial) hs.out.2.size (fun b _ hb => hs.out.2.block b hb))
      have HN2 : Hid (inR.Own (wz.setCell ⟨g, i, none⟩ (.int .i64 (idxB at_ x))) w.heap.size 3 (.slice (some ⟨g, 0, none⟩) n k1) ((r.take (i + 1)).map (idxB at_) ++ r.drop (i + 1)) ∧ Below w.heap.size w (wz.setCell ⟨g, i, none⟩ (.int .i64 (idxB at_ x)))) := Lib.hid ⟨hO2, hs.out.2.setCell hgB _⟩
      clear hx hm1 hm2 hOn hcell hfz hO2 hii hs e2 hgB hgl
      go_wp2_with fail
      refine cI.mono ?_
      rintro e w' ⟨rfl, rfl⟩
      clear cI
      obtain ⟨ix, hix⟩ : ∃ ix, ix = idxB at_ x := ⟨_, rfl⟩
      rw [← hix] at HN2 ⊢
      clear hix
      go_wp2_with fail
      exact ⟨⟨i + 1, by go_num, by omega, HN2⟩, by simp [RowKit.intOf]; omega⟩
    · have a1 : ¬ (i : Int) < (n : Int) := by omega
      have hie : i = n := by omega
      have hlen : (commonL l at_).length = n := by unfold commonL; rw [List.length_map, ← HR.out, HN.out]
      have hO : inR.Own wz w.heap.size 3 (.slice (some ⟨g, 0, none⟩) (commonL l at_).length k1) (commonL l at_) := by
        have := hs.out.1
        rw [hie, HN.out, List.take_length, List.drop_length, List.append_nil] at this
        rw [hlen, HN.out]
        unfold commonL
        rw [← HR.out]
        exact this
      have cS := sort_any _ _ _ _ wz hO (by omega)
      rw [hlen] at cS
      have HB := Lib.hid hs.out.2
      have HL := Lib.hid hlen
      clear hs hie hlen hO hi hil
      go_wp2_with fail
      refine cS.mono ?_
      rintro e w2 ⟨rfl, hO2, hg2, hgB⟩
      clear cS
      have hb2 : Below w.heap.size w w2 := HB.out.grown hg2 HB.out.size fun p hp => by have := Option.some.inj hp; omega
      have HB2 := Lib.hid hb2
      obtain ⟨mj, hmj⟩ : ∃ mj, mj = majority n := ⟨_, rfl⟩
      have hmj1 : 1 ≤ mj ∧ mj ≤ n := by rw [hmj]; unfold majority; omega
      have hsl : ((commonL l at_).mergeSort leI).length = n := by rw [List.length_mergeSort, HL.out]
      obtain ⟨x, hx⟩ : ∃ x, ((commonL l at_).mergeSort leI)[n - mj]? = some x := ⟨_, List.getElem?_eq_getElem (by omega)⟩
      have hcm : common l at_ = max 0 x := by
        unfold common
        rw [← HR.out, ← HN.out, if_neg h4, ← hmj, hx]
        rfl
      have hON : inR.N w2 Any (.slice (some ⟨g, 0, none⟩) ((commonL l at_).mergeSort leI).length k1) ((commonL l at_).mergeSort leI) := by rw [hsl]; exact hO2.n.any
      obtain ⟨g', o', hA, y0⟩ := in_cell hON hx
      injection hA with hA
      injection hA with e1 e2
      subst e1 e2
      rw [Nat.zero_add] at y0
      have cM := majority_any n w2 h1
      rw [← hmj] at cM
      have HCM := Lib.hid hcm
      obtain ⟨q, hq⟩ : ∃ q : Nat, q = n - mj := ⟨_, rfl⟩
      rw [← hq] at y0
      have hqs : wrap64 ((n : Int) - (mj : Int)) = (q : Int) := by unfold wrap64; omega
      have q0 : (0 : Int) ≤ (q : Int) := by omega
      have q1 : (q : Int) < (n : Int) := by omega
      have HQ := Lib.hid hqs
      clear hO2 hg2 hgB hb2 hmj hsl hx hcm hON HB hmj1 hq hqs
      go_wp2_with fail
      refine cM.mono ?_
      rintro e w' ⟨rfl, rfl⟩
      clear cM
      have hqs := HQ.out
      go_wp2_with fail
      go_ret
      exact ⟨by rw [HCM.out] <;> rfl, HB2.out⟩
end Go.Proofs.Ytblbcoknefgcaaa
