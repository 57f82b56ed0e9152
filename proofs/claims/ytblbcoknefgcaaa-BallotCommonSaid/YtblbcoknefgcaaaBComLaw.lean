/-
  What is common is had by a majority, and nothing greater is: the law, walked. No statement is proved here. No condition.
-/
import Derived.Test.YtblbcoknefgcaaaBOnce
import Derived.Test.YtblbcoknefgcaaaBRank
namespace Go.Proofs.Ytblbcoknefgcaaa
open Go.RowKit

theorem mem_isS {l : List Int} (h : chk l = true) {v : Int} (hv : v ∈ l) : isS v = true := by
  obtain ⟨-, -, kr⟩ := chk_len h
  have := rise_bound kr v hv
  unfold isS
  simp
  omega
theorem idx_same {at_ : List Int} {v : Int} : idxB at_ v = idxF at_ v := rfl
theorem com_law {x at_ : List Int} (h : chk x = true) : 0 ≤ common x at_ ∧ won x (x.filter fun v => decide (idxF at_ v ≥ common x at_) || common x at_ == 0) = true ∧ won x (x.filter fun v => decide (idxF at_ v > common x at_)) = false := by
  obtain ⟨k0, k5, kr⟩ := chk_len h
  have e1 : commonL x at_ = x.map (idxF at_) := by
    unfold commonL
    rw [once_rise kr]
    exact List.map_congr_left fun v _ => idx_same
  obtain ⟨n, hn⟩ : ∃ n, n = common x at_ := ⟨_, rfl⟩
  rw [← hn]
  rw [common_F, e1] at hn
  have hx0 : x.length ≠ 0 := by omega
  obtain ⟨M, h1, h2, h3, h4⟩ := comF_spec (x.map (idxF at_)) (by rw [List.length_map]; exact hx0)
  rw [List.length_map, List.countP_map] at h3 h4
  rw [h1] at hn
  refine ⟨by omega, ?_, ?_⟩
  · rw [won_filter kr, decide_eq_true_eq]
    by_cases h0 : n = 0
    · rw [List.countP_eq_length.2 fun v _ => by simp [h0]]
      unfold majority
      omega
    · have hnM : n = M := by omega
      refine Nat.le_trans h3 (List.countP_mono_left fun v _ hv => ?_)
      simp at hv ⊢
      omega
  · rw [won_filter kr, decide_eq_false_iff_not]
    have h5 : x.countP (fun v => decide (idxF at_ v > n)) ≤ x.countP ((fun y => decide (M < y)) ∘ idxF at_) := List.countP_mono_left fun v _ hv => by simp at hv ⊢; omega
    omega
/-- the two lists that the law gathers -/
structure CG (w wr : World) (T V : List Int) (A : Option Addr) (n4 c4 : Nat) (A' : Option Addr) (n5 c5 : Nat) : Prop where
  l4 : n4 = T.length
  l5 : n5 = V.length
  two : Two w wr T V A c4 A' c5
theorem CG.a4 {w wr : World} {T V : List Int} {A A' : Option Addr} {n4 c4 n5 c5 : Nat} (h : CG w wr T V A n4 c4 A' n5 c5) (x : Int) (hl : n4 ≤ 1000) :
    ∃ A7 c7 w7, (Builtin.append_ #[32, 32] 32 #[.slice A n4 c4, .slice (some ⟨wr.heap.size, 0, none⟩) 1 1]).run Try.prog (wr.alloc (.cells #[.int .i64 x] 3)) = .ok (.slice A7 (n4 + 1) c7) w7 ∧ CG w w7 (T ++ [x]) V A7 (n4 + 1) c7 A' n5 c5 ∧ Below w.heap.size w w7 := by
  obtain ⟨h1, h2, h3⟩ := h
  subst h1 h2
  obtain ⟨A7, c7, w7, e1, e2⟩ := h3.first x (by omega)
  exact ⟨A7, c7, w7, e1, ⟨by simp, rfl, e2⟩, e2.bel⟩
theorem CG.a5 {w wr : World} {T V : List Int} {A A' : Option Addr} {n4 c4 n5 c5 : Nat} (h : CG w wr T V A n4 c4 A' n5 c5) (x : Int) (hl : n5 ≤ 1000) :
    ∃ A7 c7 w7, (Builtin.append_ #[32, 32] 32 #[.slice A' n5 c5, .slice (some ⟨wr.heap.size, 0, none⟩) 1 1]).run Try.prog (wr.alloc (.cells #[.int .i64 x] 3)) = .ok (.slice A7 (n5 + 1) c7) w7 ∧ CG w w7 T (V ++ [x]) A n4 c4 A7 (n5 + 1) c7 ∧ Below w.heap.size w w7 := by
  obtain ⟨h1, h2, h3⟩ := h
  subst h1 h2
  obtain ⟨A7, c7, w7, e1, e2⟩ := h3.second x (by omega)
  exact ⟨A7, c7, w7, e1, ⟨rfl, by simp, e2⟩, e2.bel⟩
theorem filter_yes {l : List Int} {i : Nat} {x : Int} {p : Int → Bool} (h : l[i]? = some x) (hp : p x = true) : (l.take (i + 1)).filter p = (l.take i).filter p ++ [x] := by rw [take_snoc h, List.filter_append]; simp [hp]
theorem filter_no {l : List Int} {i : Nat} {x : Int} {p : Int → Bool} (h : l[i]? = some x) (hp : p x = false) : (l.take (i + 1)).filter p = (l.take i).filter p := by rw [take_snoc h, List.filter_append]; simp [hp]
set_option maxHeartbeats 8000000 in
set_option maxRecDepth 100000 in
theorem common_walk (x m : List Int) (vx vm : Value) (w : World) (hx : inR.N w Any vx x) (hm : inR.N w Any vm m) (hml : m.length ≤ 17592186044416) :
    Calls Try.prog 12 #[vx, vm] w fun e w' => e = .returned (.bool true) ∧ Below w.heap.size w w' := by
  obtain ⟨Ax, cx, rfl, -, -⟩ := hx.slice
  obtain ⟨Am, cm, rfl, -, -⟩ := hm.slice
  have H := Lib.hid (And.intro hx hm)
  have cW0 := works_any w
  clear hx hm
  go_enter Try.func12, Try.ntmps12
  go_wp2_with fail
  refine cW0.mono ?_
  rintro e w1 ⟨rfl, hb1⟩
  clear cW0
  have HB1 := Lib.hid hb1
  clear hb1
  have cF := works_any w1
  by_cases h200 : (m.length : Int) > 200
  · go_wp2_with fail
    refine cF.mono ?_
    rintro e w2 ⟨rfl, hb2⟩
    have HB2 := Lib.hid (HB1.out.trans (Joins.below_le hb2 HB1.out.size))
    clear hb2 cF
    go_wp2_with fail
    go_ret
    exact ⟨rfl, HB2.out⟩
  have cC := check_any x _ w1 (H.out.1.grow HB1.out)
  cases hk : chk x
  · rw [hk] at cC
    clear hk
    go_wp2_with fail
    refine cC.mono ?_
    rintro e w' ⟨rfl, rfl⟩
    clear cC
    go_wp2_with fail
    refine cF.mono ?_
    rintro e w2 ⟨rfl, hb2⟩
    clear cF
    have HB2 := Lib.hid (HB1.out.trans (Joins.below_le hb2 HB1.out.size))
    clear hb2
    go_wp2_with fail
    go_ret
    exact ⟨rfl, HB2.out⟩
  rw [hk] at cC
  obtain ⟨k0, k5, kr⟩ := chk_len hk
  obtain ⟨f1, f2, f3⟩ := com_law (at_ := m) hk
  have rx : ∀ v ∈ x, I6 v := fun v hv => by
    have := rise_bound kr v hv
    exact i6_of (by omega) (by omega)
  have cN := common_any x m _ _ w1 (H.out.1.grow HB1.out) (H.out.2.grow HB1.out) (by omega) rx
  obtain ⟨n, hn⟩ : ∃ n, n = common x m := ⟨_, rfl⟩
  rw [← hn] at cN f1 f2 f3
  obtain ⟨p, hp⟩ : ∃ p : Int → Bool, p = fun v => decide (idxF m v ≥ n) || n == 0 := ⟨_, rfl⟩
  obtain ⟨q, hq⟩ : ∃ q : Int → Bool, q = fun v => decide (idxF m v > n) := ⟨_, rfl⟩
  rw [← hp] at f2
  rw [← hq] at f3
  have HK := Lib.hid (And.intro k5 (And.intro kr (And.intro rx (And.intro f2 (And.intro f3 (And.intro hp hq))))))
  have HS : Hid (∀ v ∈ x, 1 ≤ v ∧ v ≤ 5) := Lib.hid fun v hv => by
    have := rise_bound kr v hv
    omega
  have hml2 : m.length ≤ 200 := by omega
  have HL := Lib.hid hml2
  have hn0 : ¬ n < 0 := by omega
  clear hk k0 k5 kr rx f1 f2 f3 hn hp hq cF hml2 hml
  go_wp2_with fail
  refine cC.mono ?_
  rintro e w' ⟨rfl, rfl⟩
  clear cC
  go_wp2_with fail
  refine cN.mono ?_
  rintro e w2 ⟨rfl, hb2⟩
  clear cN
  have HB2 := Lib.hid (HB1.out.trans (Joins.below_le hb2 HB1.out.size))
  clear hb2 HB1
  go_wp2_with fail
  go_loopw [6, 7, 8, 9] (fun s4 s5 s6 _ wr => ∃ (i n4 n5 : Nat) (T V : List Int) (A4 A5 : Option Addr) (c4 c5 : Nat), s4 = .slice A4 n4 c4 ∧ s5 = .slice A5 n5 c5 ∧ s6 = .int .i64 (i : Int) ∧ i ≤ x.length ∧ Hid (n4 ≤ i ∧ n5 ≤ i ∧ T = (x.take i).filter p ∧ V = (x.take i).filter q ∧ CG w wr T V A4 n4 c4 A5 n5 c5)) (fun _ _ s6 _ _ => x.length - (RowKit.intOf s6).toNat)
  case atStart => exact ⟨0, 0, 0, [], [], none, none, 0, 0, rfl, rfl, rfl, Nat.zero_le _, Lib.hid ⟨Nat.le_refl _, Nat.le_refl _, rfl, rfl, ⟨rfl, rfl, ⟨Rec.Own.none _ _ _ _, Rec.Own.none _ _ _ _, (fun b h => by cases h), HB2.out⟩⟩⟩⟩
  case round =>
    clear HB2
    obtain ⟨i, n4, n5, T, V, A4, A5, c4, c5, rfl, rfl, rfl, hi, hs⟩ := hrel
    obtain ⟨wz, hwz⟩ : ∃ wz : World, wz = wr := ⟨_, rfl⟩
    subst hwz
    have hx5 := HK.out.1
    by_cases hil : i < x.length
    · have a1 : (i : Int) < (x.length : Int) := by omega
      have a0 : (0 : Int) ≤ (i : Int) := by omega
      obtain ⟨v, hv⟩ : ∃ v, x[i]? = some v := ⟨_, List.getElem?_eq_getElem hil⟩
      have hXN := H.out.1.kept (w' := wz) (fun _ _ h => trivial) hs.out.2.2.2.2.two.bel.size (fun b _ hb => hs.out.2.2.2.2.two.bel.block b hb)
      have hMN := H.out.2.kept (w' := wz) (fun _ _ h => trivial) hs.out.2.2.2.2.two.bel.size (fun b _ hb => hs.out.2.2.2.2.two.bel.block b hb)
      obtain ⟨g, o, hAx, y0⟩ := in_cell hXN hv
      have hv5 := HS.out v (List.mem_of_getElem? hv)
      have hm200 := HL.out
      have HV := Lib.hid hv
      have hiw : wrap64 ((i : Int) + 1) = ((i + 1 : Nat) : Int) := by unfold wrap64; omega
      obtain ⟨j, hj⟩ : ∃ j : Nat, v = (j : Int) + 1 := ⟨(v - 1).toNat, by omega⟩
      have hjs : wrap64 (v - 1) = (j : Int) := by unfold wrap64; omega
      obtain ⟨kv, hkv⟩ : ∃ kv, kv = idxF m v := ⟨_, rfl⟩
      have HP : Hid (p v = (decide (n ≤ kv) || n == 0) ∧ q v = decide (n < kv)) := Lib.hid ⟨by rw [HK.out.2.2.2.2.2.1, hkv], by rw [HK.out.2.2.2.2.2.2, hkv]⟩
      have HMN := Lib.hid (And.intro hXN hMN)
      subst hAx
      clear hv hXN hMN
      have hmv : kv = if v ≤ (m.length : Int) then (m[j]?).getD 0 else 0 := by
        rw [hkv]
        unfold idxF
        rw [show decide (1 ≤ v) = true by simpa using hv5.1, Bool.true_and, show (v - 1).toNat = j by omega]
        by_cases h : v ≤ (m.length : Int)
        · rw [if_pos h, if_pos (by simpa using h)]
        · rw [if_neg h, if_neg (by simpa using h)]
      have HY : Hid (∀ W, Below w.heap.size w W → W.cell? ⟨g, o + i, none⟩ = some (.int .i64 v) ∧ True) := Lib.hid fun W hb => by
        obtain ⟨g', o', e1, e2⟩ := in_cell (H.out.1.kept (w' := W) (fun _ _ h => trivial) hb.size (fun b _ h => hb.block b h)) HV.out
        injection e1 with e1
        injection e1 with e3 e4
        subst e3 e4
        exact ⟨e2, trivial⟩
      have HMV := Lib.hid hmv
      clear hkv hmv
      go_upto_if 40 with fail
      go_cut [9] (fun s9 wx => s9 = .int .i64 kv ∧ wx = wz)
      case first =>
        have b0 : (0 : Int) ≤ (j : Int) := by omega
        by_cases hvm : v ≤ (m.length : Int)
        · have hkm := HMV.out
          rw [if_pos hvm] at hkm
          obtain ⟨u, hu⟩ : ∃ u, m[j]? = some u := ⟨_, List.getElem?_eq_getElem (by omega)⟩
          rw [hu] at hkm
          obtain ⟨gm, om, hAm, ym⟩ := in_cell HMN.out.2 hu
          have hku : u = kv := hkm.symm
          subst hku
          subst hAm
          have b1 : (j : Int) < (m.length : Int) := by omega
          clear hu hkm
          go_wp2_with fail
          go_meet
          exact ⟨rfl, rfl⟩
        · have hkm := HMV.out
          rw [if_neg hvm] at hkm
          subst hkm
          go_wp2_with fail
          go_meet
          exact ⟨rfl, rfl⟩
      obtain ⟨rfl, hwc⟩ := hcut
      obtain ⟨wy, hwy⟩ : ∃ wy : World, wy = wc := ⟨_, rfl⟩
      rw [← hwy] at hwc ⊢
      subst hwc
      clear hwy HMV HMN hjs hj
      rcases Int.lt_trichotomy n kv with hlt | heq | hgt
      · refine way_out (inferInstanceAs (Nonempty (WayTo (G := _) (by
          have h1 : kv ≥ n := by omega
          have h2 : kv > n := hlt
          have hp1 : p v = true := HP.out.1.trans (by simp; omega)
          have hq1 : q v = true := HP.out.2.trans (by simp; omega)
          obtain ⟨A7, c7, w7, hap, hc7, hb7⟩ := hs.out.2.2.2.2.a4 v (by have := hs.out.1; omega)
          have HAP := Lib.hid hap
          obtain ⟨A8, c8, w8, hap8, hc8, hb8⟩ := hc7.a5 v (by have := hs.out.2.1; omega)
          have HAP8 := Lib.hid hap8
          have HN : Hid (n4 + 1 ≤ i + 1 ∧ n5 + 1 ≤ i + 1 ∧ T ++ [v] = (x.take (i + 1)).filter p ∧ V ++ [v] = (x.take (i + 1)).filter q ∧ CG w w8 (T ++ [v]) (V ++ [v]) A7 (n4 + 1) c7 A8 (n5 + 1) c8) := Lib.hid ⟨by have := hs.out.1; omega, by have := hs.out.2.1; omega, by rw [hs.out.2.2.1, filter_yes HV.out hp1], by rw [hs.out.2.2.2.1, filter_yes HV.out hq1], hc8⟩
          have HI := Lib.hid (And.intro hil hx5)
          have HB7 := Lib.hid hb7
          clear hs hp1 hq1 hap hc7 hb7 hap8 hc8 hb8
          go_upto_if 65 with (at_builtin; go_must (refine Lib.wpList_append_run _ rfl (.tmp 56) (.tmp 61) 32 32 rfl _ _ rfl rfl _ _ HAP.out ?_))
          obtain ⟨y0, y6⟩ := HY.out w7 HB7.out
          go_wp2_with (at_builtin; go_must (refine Lib.wpList_append_run _ rfl (.tmp 66) (.tmp 71) 32 32 rfl _ _ rfl rfl _ _ HAP8.out ?_))
          first
            | exact ⟨⟨i + 1, _, _, _, _, A7, A8, c7, c8, rfl, rfl, by go_num, by have := HI.out; omega, HN⟩, by have := HI.out; simp [RowKit.intOf]; omega⟩
            | exact ⟨⟨_, _, _, ⟨i + 1, _, _, _, _, A7, A8, c7, rfl, c8, rfl, rfl, by have := HI.out; omega, HN⟩, rfl, rfl, by go_num⟩, by have := HI.out; simp [RowKit.intOf]; omega⟩))))
      · refine way_out (inferInstanceAs (Nonempty (WayTo (G := _) (by
          have h1 : kv ≥ n := by omega
          have h2 : ¬ kv > n := by omega
          have hp1 : p v = true := HP.out.1.trans (by simp; omega)
          have hq1 : q v = false := HP.out.2.trans (by simp; omega)
          obtain ⟨A7, c7, w7, hap, hc7, hb7⟩ := hs.out.2.2.2.2.a4 v (by have := hs.out.1; omega)
          have HAP := Lib.hid hap
          have HN : Hid (n4 + 1 ≤ i + 1 ∧ n5 ≤ i + 1 ∧ T ++ [v] = (x.take (i + 1)).filter p ∧ V = (x.take (i + 1)).filter q ∧ CG w w7 (T ++ [v]) (V) A7 (n4 + 1) c7 A5 (n5) c5) := Lib.hid ⟨by have := hs.out.1; omega, by have := hs.out.2.1; omega, by rw [hs.out.2.2.1, filter_yes HV.out hp1], by rw [hs.out.2.2.2.1, filter_no HV.out hq1], hc7⟩
          have HI := Lib.hid (And.intro hil hx5)
          have HB7 := Lib.hid hb7
          clear hs hp1 hq1 hap hc7 hb7
          go_wp2_with (at_builtin; go_must (refine Lib.wpList_append_run _ rfl (.tmp 56) (.tmp 61) 32 32 rfl _ _ rfl rfl _ _ HAP.out ?_))
          first
            | exact ⟨⟨i + 1, _, _, _, _, A7, A5, c7, c5, rfl, rfl, by go_num, by have := HI.out; omega, HN⟩, by have := HI.out; simp [RowKit.intOf]; omega⟩
            | exact ⟨⟨_, _, _, ⟨i + 1, _, _, _, _, A7, A5, c7, rfl, c5, rfl, rfl, by have := HI.out; omega, HN⟩, rfl, rfl, by go_num⟩, by have := HI.out; simp [RowKit.intOf]; omega⟩))))
      · have h2 : ¬ kv > n := by omega
        have h1 : ¬ kv ≥ n := by omega
        by_cases hn : n = 0
        · refine way_out (inferInstanceAs (Nonempty (WayTo (G := _) (by
            have hp1 : p v = true := HP.out.1.trans (by simp; omega)
            have hq1 : q v = false := HP.out.2.trans (by simp; omega)
            obtain ⟨A7, c7, w7, hap, hc7, hb7⟩ := hs.out.2.2.2.2.a4 v (by have := hs.out.1; omega)
            have HAP := Lib.hid hap
            have HN : Hid (n4 + 1 ≤ i + 1 ∧ n5 ≤ i + 1 ∧ T ++ [v] = (x.take (i + 1)).filter p ∧ V = (x.take (i + 1)).filter q ∧ CG w w7 (T ++ [v]) (V) A7 (n4 + 1) c7 A5 (n5) c5) := Lib.hid ⟨by have := hs.out.1; omega, by have := hs.out.2.1; omega, by rw [hs.out.2.2.1, filter_yes HV.out hp1], by rw [hs.out.2.2.2.1, filter_no HV.out hq1], hc7⟩
            have HI := Lib.hid (And.intro hil hx5)
            have HB7 := Lib.hid hb7
            clear hs hp1 hq1 hap hc7 hb7
            go_wp2_with (at_builtin; go_must (refine Lib.wpList_append_run _ rfl (.tmp 56) (.tmp 61) 32 32 rfl _ _ rfl rfl _ _ HAP.out ?_))
            first
              | exact ⟨⟨i + 1, _, _, _, _, A7, A5, c7, c5, rfl, rfl, by go_num, by have := HI.out; omega, HN⟩, by have := HI.out; simp [RowKit.intOf]; omega⟩
              | exact ⟨⟨_, _, _, ⟨i + 1, _, _, _, _, A7, A5, c7, rfl, c5, rfl, rfl, by have := HI.out; omega, HN⟩, rfl, rfl, by go_num⟩, by have := HI.out; simp [RowKit.intOf]; omega⟩))))
        · refine way_out (inferInstanceAs (Nonempty (WayTo (G := _) (by
            have hp1 : p v = false := HP.out.1.trans (by simp; omega)
            have hq1 : q v = false := HP.out.2.trans (by simp; omega)
            have HN : Hid (n4 ≤ i + 1 ∧ n5 ≤ i + 1 ∧ T = (x.take (i + 1)).filter p ∧ V = (x.take (i + 1)).filter q ∧ CG w wy (T) (V) A4 (n4) c4 A5 (n5) c5) := Lib.hid ⟨by have := hs.out.1; omega, by have := hs.out.2.1; omega, by rw [hs.out.2.2.1, filter_no HV.out hp1], by rw [hs.out.2.2.2.1, filter_no HV.out hq1], hs.out.2.2.2.2⟩
            have HI := Lib.hid (And.intro hil hx5)
            clear hs hp1 hq1 
            go_wp2_with fail
            first
              | exact ⟨⟨i + 1, _, _, _, _, A4, A5, c4, c5, rfl, rfl, by go_num, by have := HI.out; omega, HN⟩, by have := HI.out; simp [RowKit.intOf]; omega⟩
              | exact ⟨⟨_, _, _, ⟨i + 1, _, _, _, _, A4, A5, c4, rfl, c5, rfl, rfl, by have := HI.out; omega, HN⟩, rfl, rfl, by go_num⟩, by have := HI.out; simp [RowKit.intOf]; omega⟩))))
    · refine way_out (inferInstanceAs (Nonempty (WayTo (G := _) (by
        have a1 : ¬ (i : Int) < (x.length : Int) := by omega
        have hix : x.take i = x := List.take_of_length_le (by omega)
        obtain ⟨h4, h5, hT, hV, hCG⟩ := hs.out
        rw [hix] at hT hV
        subst hT hV
        obtain ⟨l4, l5, h2⟩ := hCG
        subst l4 l5
        have hX := H.out.1.kept (w' := wz) (fun _ _ h => trivial) h2.bel.size (fun b _ hb => h2.bel.block b hb)
        have r4 : ∀ y ∈ x.filter p, I6 y := fun y hy => HK.out.2.2.1 y (List.mem_filter.1 hy).1
        have r5 : ∀ y ∈ x.filter q, I6 y := fun y hy => HK.out.2.2.1 y (List.mem_filter.1 hy).1
        have c1 := won_any x (x.filter p) _ _ wz hX h2.o1.n.any (by omega) (by omega) HK.out.2.2.1 r4
        rw [HK.out.2.2.2.1] at c1
        have HX := Lib.hid (And.intro hX (And.intro h2 r5))
        have hl5 : (x.filter q).length ≤ 1000 := by omega
        have HL5 := Lib.hid hl5
        clear hX h2 r4 r5 h4 h5 hl5 hs
        go_wp2_with fail
        refine c1.mono ?_
        rintro e w8 ⟨rfl, hb8⟩
        clear c1
        have HB8 := Lib.hid hb8
        clear hb8
        have c2 := won_any x (x.filter q) _ _ w8 (HX.out.1.grow HB8.out) (HX.out.2.1.o2.below HB8.out).n.any (by omega) HL5.out HK.out.2.2.1 HX.out.2.2
        rw [HK.out.2.2.2.2.1] at c2
        go_wp2_with fail
        refine c2.mono ?_
        rintro e w9 ⟨rfl, hb9⟩
        clear c2
        have HF := Lib.hid (HX.out.2.1.bel.trans (Joins.below_le (HB8.out.trans (Joins.below_le hb9 HB8.out.size)) HX.out.2.1.bel.size))
        clear hb9
        go_wp2_with fail
        go_ret
        exact ⟨rfl, HF.out⟩))))
end Go.Proofs.Ytblbcoknefgcaaa
