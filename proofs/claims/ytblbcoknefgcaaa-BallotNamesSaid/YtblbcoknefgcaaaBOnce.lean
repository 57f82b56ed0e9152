/-
  One vote in each term: the law, walked. No statement is proved here. No condition.
-/
import Derived.Test.YtblbcoknefgcaaaBWorks
namespace Go.Proofs.Ytblbcoknefgcaaa
open Go.RowKit

/-- somebody who stands -/
structure ST where
  cand : Int
  term : Int
  newer : Bool
def standR : Rec ST where
  vals x := [.int .i64 x.cand, .int .i64 x.term, .bool x.newer]
  size := 3
  len _ := rfl
  one x := by intro v hv; simp at hv; rcases hv with rfl | rfl | rfl <;> rfl
/-- a number more in a row of one's own, and where it then lies -/
theorem push_own {w : World} {B : Nat} {A : Option Addr} {c : Nat} {l : List Int} (h : inR.Own w B 3 (.slice A l.length c) l) (x : Int) (hl : l.length ≤ 100000) (hB : B ≤ w.heap.size) :
    ∃ A7 c7 w7, (Builtin.append_ #[32, 32] 32 #[.slice A l.length c, .slice (some ⟨w.heap.size, 0, none⟩) 1 1]).run Try.prog (w.alloc (.cells #[.int .i64 x] 3)) = .ok (.slice A7 (l.length + 1) c7) w7 ∧
      inR.Own w7 B 3 (.slice A7 (l.length + 1) c7) (l ++ [x]) ∧ Below B w w7 ∧ (∀ b, b < w.heap.size → (Value.slice A l.length c).ownBlock ≠ some b → w7.heap[b]? = w.heap[b]?) ∧ w.heap.size ≤ w7.heap.size ∧
      ((Value.slice A7 (l.length + 1) c7).ownBlock = (Value.slice A l.length c).ownBlock ∨ (Value.slice A7 (l.length + 1) c7).ownBlock = some (w.heap.size + 1)) := by
  obtain ⟨ie, hie, z0, z1, z2⟩ := info_parts info_cint
  have hb1 : Below w.heap.size w (w.alloc (.cells #[.int .i64 x] 3)) := (Below.refl _ _).alloc (Nat.le_refl _) _
  have hx1 : inR.N (w.alloc (.cells #[.int .i64 x] 3)) Any (.slice (some ⟨w.heap.size, 0, none⟩) 1 1) [x] := Rec.one_row (R := inR) (N := Any) (a := x) (heap_alloc_new w _) trivial
  obtain ⟨v7, w7, hrun, ho, hg, hat⟩ := Rec.app (P := Try.prog) (t := 32) Try.underlying32 hie z0 z1 z2 rfl (by decide) (h.below hb1) hx1 (by unfold maxLen; simp; omega) (by simp; omega) (Nat.le_trans hB hb1.size)
  obtain ⟨A7, c7, hv7⟩ := ho.slice
  have hlen : (l ++ [x]).length = l.length + 1 := by simp
  rw [hlen] at hv7
  subst hv7
  have hk : ∀ b, b < (w.alloc (.cells #[.int .i64 x] 3)).heap.size → (Value.slice A l.length c).ownBlock ≠ some b → w7.heap[b]? = (w.alloc (.cells #[.int .i64 x] 3)).heap[b]? := fun b hb hn => hg.block b hb fun e => hn e.symm
  refine ⟨A7, c7, w7, hrun, ho, (Joins.below_le hb1 hB).grown hg (Nat.le_trans hB hb1.size) fun p hp => (h.lt p hp).1, fun b hb hn => (hk b (Nat.lt_of_lt_of_le hb hb1.size) hn).trans (hb1.block b hb), Nat.le_trans hb1.size hg.size, ?_⟩
  have e : (w.alloc (.cells #[.int .i64 x] 3)).heap.size = w.heap.size + 1 := by simp
  rw [e] at hat
  exact hat
/-- two rows of one's own, apart -/
structure Two (w wr : World) (T V : List Int) (A : Option Addr) (c : Nat) (A' : Option Addr) (c' : Nat) : Prop where
  o1 : inR.Own wr w.heap.size 3 (.slice A T.length c) T
  o2 : inR.Own wr w.heap.size 3 (.slice A' V.length c') V
  ne : ∀ b, (Value.slice A T.length c).ownBlock = some b → (Value.slice A' V.length c').ownBlock ≠ some b
  bel : Below w.heap.size w wr
theorem Two.below {w wr w' : World} {T V : List Int} {A : Option Addr} {c : Nat} {A' : Option Addr} {c' : Nat} (h : Two w wr T V A c A' c') (hb : Below wr.heap.size wr w') : Two w w' T V A c A' c' :=
  ⟨h.o1.below hb, h.o2.below hb, h.ne, h.bel.trans (Joins.below_le hb h.bel.size)⟩
theorem Two.first {w wr : World} {T V : List Int} {A : Option Addr} {c : Nat} {A' : Option Addr} {c' : Nat} (h : Two w wr T V A c A' c') (x : Int) (hl : T.length ≤ 100000) :
    ∃ A7 c7 w7, (Builtin.append_ #[32, 32] 32 #[.slice A T.length c, .slice (some ⟨wr.heap.size, 0, none⟩) 1 1]).run Try.prog (wr.alloc (.cells #[.int .i64 x] 3)) = .ok (.slice A7 (T.length + 1) c7) w7 ∧ Two w w7 (T ++ [x]) V A7 c7 A' c' := by
  obtain ⟨A7, c7, w7, h1, h2, h3, h4, h5, h6⟩ := push_own h.o1 x hl h.bel.size
  have e : (T ++ [x]).length = T.length + 1 := by simp
  refine ⟨A7, c7, w7, h1, ⟨by rw [e]; exact h2, ?_, ?_, h.bel.trans h3⟩⟩
  · exact row_same h.o2 fun p hp => h4 p (h.o2.lt p hp).2 fun e => h.ne p e hp
  · rw [e]
    intro b hb hb'
    have h7 := (h.o2.lt b hb').2
    rcases h6 with h6 | h6
    · rw [h6] at hb
      exact h.ne b hb hb'
    · rw [h6] at hb
      have := Option.some.inj hb
      omega
theorem Two.second {w wr : World} {T V : List Int} {A : Option Addr} {c : Nat} {A' : Option Addr} {c' : Nat} (h : Two w wr T V A c A' c') (x : Int) (hl : V.length ≤ 100000) :
    ∃ A7 c7 w7, (Builtin.append_ #[32, 32] 32 #[.slice A' V.length c', .slice (some ⟨wr.heap.size, 0, none⟩) 1 1]).run Try.prog (wr.alloc (.cells #[.int .i64 x] 3)) = .ok (.slice A7 (V.length + 1) c7) w7 ∧ Two w w7 T (V ++ [x]) A c A7 c7 := by
  obtain ⟨A7, c7, w7, h1, h2, h3, h4, h5, h6⟩ := push_own h.o2 x hl h.bel.size
  have e : (V ++ [x]).length = V.length + 1 := by simp
  refine ⟨A7, c7, w7, h1, ⟨?_, by rw [e]; exact h2, ?_, h.bel.trans h3⟩⟩
  · exact row_same h.o1 fun p hp => h4 p (h.o1.lt p hp).2 fun e => h.ne p hp e
  · rw [e]
    intro b hb hb'
    have h7 := (h.o1.lt b hb).2
    rcases h6 with h6 | h6
    · rw [h6] at hb'
      exact h.ne b hb hb'
    · rw [h6] at hb'
      have := Option.some.inj hb'
      omega
/-- what was granted -/
structure GR (term vote : Int) (T V : List Int) : Prop where
  len : V.length = T.length
  all : ∀ (k : Nat) (t v : Int), T[k]? = some t → V[k]? = some v → t ≤ term ∧ 0 < v ∧ (t = term → v = vote)
theorem GR.next {term vote t v : Int} {T V : List Int} {nw : Bool} (h : GR term vote T V) (hg : grants term vote t v nw = true) : nw = true ∧ 0 < v ∧ term ≤ t ∧ (∀ (k : Nat) (u x : Int), T[k]? = some u → V[k]? = some x → u = t → x = v) ∧ GR t v (T ++ [t]) (V ++ [v]) := by
  unfold grants at hg
  simp only [Bool.and_eq_true, Bool.or_eq_true, decide_eq_true_eq, beq_iff_eq] at hg
  obtain ⟨⟨h1, h2⟩, h3⟩ := hg
  have hv : 0 < v := by omega
  have ht : term ≤ t := by omega
  have h4 : ∀ (k : Nat) (u x : Int), T[k]? = some u → V[k]? = some x → u = t → x = v := fun k u x hu hx e => by
    obtain ⟨a1, a2, a3⟩ := h.all k u x hu hx
    have := a3 (by omega)
    omega
  refine ⟨h3, hv, ht, h4, ⟨by simp [h.len], fun k u x hu hx => ?_⟩⟩
  by_cases hk : k < T.length
  · rw [List.getElem?_append_left hk] at hu
    rw [List.getElem?_append_left (by rw [h.len]; exact hk)] at hx
    obtain ⟨a1, a2, a3⟩ := h.all k u x hu hx
    exact ⟨by omega, a2, h4 k u x hu hx⟩
  · rw [List.getElem?_append_right (by omega)] at hu
    rw [List.getElem?_append_right (by rw [h.len]; omega), h.len] at hx
    have hk0 : k - T.length = 0 := by
      have := (List.getElem?_eq_some_iff.1 hu).1
      simp at this
      omega
    rw [hk0] at hu hx
    have e1 : t = u := by simpa using hu
    have e2 : v = x := by simpa using hx
    exact ⟨by omega, by omega, fun _ => by omega⟩
theorem GR.again {t v : Int} (hv : 0 < v) : grants t v t v true = true := by
  unfold grants
  simp
  omega
/-- what a way shows, by the name of its proof: 'inferInstanceAs' lays such a proof in a theorem of its own -/
def WayTo {G : Prop} (_ : G) : Type := PLift G
instance wayTo {G : Prop} (h : G) : Nonempty (WayTo h) := ⟨PLift.up h⟩
theorem way_out {G : Prop} (h : Nonempty (PLift G)) : G := h.elim fun x => x.down

set_option maxHeartbeats 8000000 in
set_option maxRecDepth 100000 in
theorem once_walk (l : List ST) (a : Value) (w : World) (ha : standR.N w Any a l) (hl : l.length ≤ 5864062014805) :
    Calls Try.prog 11 #[a] w fun e w' => e = .returned (.bool true) ∧ Below w.heap.size w w' := by
  obtain ⟨A, c, rfl, -, -⟩ := ha.slice
  have HA := Lib.hid ha
  have cW0 := works_any w
  clear ha
  go_enter Try.func11, Try.ntmps11
  go_wp2_with fail
  refine cW0.mono ?_
  rintro e w1 ⟨rfl, hb1⟩
  clear cW0
  have HB1 := Lib.hid hb1
  clear hb1
  by_cases h300 : (l.length : Int) > 300
  · have cW1 := works_any w1
    go_wp2_with fail
    refine cW1.mono ?_
    rintro e w2 ⟨rfl, hb2⟩
    have HB2 := Lib.hid (HB1.out.trans (Joins.below_le hb2 HB1.out.size))
    clear hb2
    go_wp2_with fail
    go_ret
    exact ⟨rfl, HB2.out⟩
  have hln : l.length ≤ 300 := by omega
  have HL := Lib.hid hln
  clear hln hl
  go_wp2_with fail
  go_loopw [3, 4, 5, 6, 7] (fun s3 s4 s5 s6 s7 wr => ∃ (i n : Nat) (t v : Int) (T V : List Int) (A5 A6 : Option Addr) (c5 c6 : Nat), s3 = .int .i64 t ∧ s4 = .int .i64 v ∧ s5 = .slice A5 n c5 ∧ s6 = .slice A6 n c6 ∧ s7 = .int .i64 (i : Int) ∧ i ≤ l.length ∧ n ≤ i ∧ Hid (n = T.length ∧ GR t v T V ∧ Two w wr T V A5 c5 A6 c6)) (fun _ _ _ _ s7 _ => l.length - (RowKit.intOf s7).toNat)
  case atStart => exact ⟨0, 0, 0, 0, [], [], none, none, 0, 0, rfl, rfl, rfl, rfl, rfl, Nat.zero_le _, Nat.le_refl _, Lib.hid ⟨rfl, ⟨rfl, fun k t v h => by simp at h⟩, ⟨Rec.Own.none _ _ _ _, Rec.Own.none _ _ _ _, (fun b h => by cases h), HB1.out⟩⟩⟩
  case round =>
    obtain ⟨i, n, t, v, T, V, A5, A6, c5, c6, rfl, rfl, rfl, rfl, rfl, hi, hni, hs⟩ := hrel
    have h300' := HL.out
    obtain ⟨wz, hwz⟩ : ∃ wz : World, wz = wr := ⟨_, rfl⟩
    subst hwz
    by_cases hil : i < l.length
    · have a1 : (i : Int) < (l.length : Int) := by omega
      have a0 : (0 : Int) ≤ (i : Int) := by omega
      obtain ⟨x, hx⟩ : ∃ x, l[i]? = some x := ⟨_, List.getElem?_eq_getElem hil⟩
      have hz := HA.out.kept (w' := wz) (fun _ _ h => trivial) hs.out.2.2.bel.size (fun b _ hb => hs.out.2.2.bel.block b hb)
      obtain ⟨g, o, n1, k1, hv, -, hg1, hc1⟩ := hz.cell hx
      injection hv with v1 v2 v3
      subst v1
      clear v2 v3 hz hx hg1
      obtain ⟨xc, xt, xn⟩ := x
      have y0 : wz.cell? ⟨g, o + i * 3, none⟩ = some (.int .i64 xc) := hc1 0 _ rfl
      have y1 : wz.cell? ⟨g, o + i * 3 + 1, none⟩ = some (.int .i64 xt) := hc1 1 _ rfl
      have y2 : wz.cell? ⟨g, o + i * 3 + 2, none⟩ = some (.bool xn) := hc1 2 _ rfl
      clear hc1
      have cG : ∀ k, Calls Try.prog 28 #[.int .i64 t, .int .i64 v, .int .i64 xt, .int .i64 xc, .bool xn] (wz.drewN k) fun e w' => e = .returned (.bool (grants t v xt xc xn)) ∧ w' = wz.drewN k := fun k => (grants_any t v xt xc xn (wz.drewN k)).mono fun _ _ h => ⟨h.1, h.2.symm⟩
      have HNI := Lib.hid hni
      clear hni
      go_upto_region 9 with fail
      go_quiet ((go_at_call 28; exact Calls.quiet_of_same (cG _)))
      obtain ⟨wq, hwq⟩ : ∃ wq, wq = wz.drewN nq := ⟨_, rfl⟩
      have hbq : Below wz.heap.size wz wq := by rw [hwq]; exact drewB nq (Below.refl _ _)
      have z0 : wq.cell? ⟨g, o + i * 3, none⟩ = some (.int .i64 xc) := by rw [hwq]; exact y0
      have z1 : wq.cell? ⟨g, o + i * 3 + 1, none⟩ = some (.int .i64 xt) := by rw [hwq]; exact y1
      have z2 : wq.cell? ⟨g, o + i * 3 + 2, none⟩ = some (.bool xn) := by rw [hwq]; exact y2
      have HS : Hid (n = T.length ∧ GR t v T V ∧ Two w wq T V A5 c5 A6 c6) := Lib.hid ⟨hs.out.1, hs.out.2.1, hs.out.2.2.below hbq⟩
      rw [← hwq]
      clear hs cG y0 y1 y2 hbq hwq
      cases hgr : grants t v xt xc xn
      · refine way_out (inferInstanceAs (Nonempty (WayTo (G := _) (by
          clear hgr z0 z1 z2
          go_wp2_with fail
          exact ⟨⟨i + 1, n, t, v, T, V, A5, A6, c5, c6, rfl, rfl, rfl, rfl, by go_num, by omega, by have := HNI.out; omega, HS⟩, by simp [RowKit.intOf]; omega⟩))))
      refine way_out (inferInstanceAs (Nonempty (WayTo (G := _) (by
        obtain ⟨q1, q2, q3, q4, q5⟩ := HS.out.2.1.next hgr
        subst q1
        have g1 : ¬ xt < t := by omega
        have g2 : ¬ xc ≤ 0 := by omega
        have HQ := Lib.hid (And.intro q2 (And.intro q4 q5))
        clear q2 q3 q4 q5 hgr
        go_wp2_with fail
        have HI := Lib.hid (And.intro hi hil)
        clear z0 z1 z2 g1 g2 hi hil a1 a0 h300' 
        go_loop [8] (fun s8 => ∃ k : Nat, s8 = .int .i64 (k : Int) ∧ k ≤ n) (fun s8 => n - (RowKit.intOf s8).toNat)
        case atStart => exact ⟨0, rfl, Nat.zero_le _⟩
        case round =>
          obtain ⟨k, rfl, hk⟩ := hrel
          by_cases hkn : k < n
          · have b1 : (k : Int) < (n : Int) := by omega
            have b0 : (0 : Int) ≤ (k : Int) := by omega
            have hkw : wrap64 ((k : Int) + 1) = ((k + 1 : Nat) : Int) := by have := HNI.out; have := HI.out.1; have := HL.out; unfold wrap64; omega
            have hkT : k < T.length := by have := HS.out.1; omega
            obtain ⟨u, hu⟩ : ∃ u, T[k]? = some u := ⟨_, List.getElem?_eq_getElem hkT⟩
            obtain ⟨y, hy⟩ : ∃ y, V[k]? = some y := ⟨_, List.getElem?_eq_getElem (by have := HS.out.2.1.len; omega)⟩
            have hO5 : inR.N wq Any (.slice A5 T.length c5) T := HS.out.2.2.o1.n.any
            have hO6 : inR.N wq Any (.slice A6 V.length c6) V := HS.out.2.2.o2.n.any
            obtain ⟨g5, o5, hA5, y5⟩ := in_cell hO5 hu
            obtain ⟨g6, o6, hA6, y6⟩ := in_cell hO6 hy
            have hne := HQ.out.2.1 k u y hu hy
            clear hO5 hO6 hu hy hkT
            subst hA5
            subst hA6
            by_cases hut : u = xt
            · refine way_out (inferInstanceAs (Nonempty (WayTo (G := _) (by
                have hyc := hne hut
                subst hut
                subst hyc
                clear hne
                go_wp2_with fail
                · rw [hkw]
                  exact ⟨⟨k + 1, rfl, by omega⟩, by simp [RowKit.intOf]; omega⟩))))
            · refine way_out (inferInstanceAs (Nonempty (WayTo (G := _) (by
                clear hne
                go_wp2_with fail
                rw [hkw]
                exact ⟨⟨k + 1, rfl, by omega⟩, by simp [RowKit.intOf]; omega⟩))))
          · refine way_out (inferInstanceAs (Nonempty (WayTo (G := _) (by
              have b1 : ¬ (k : Int) < (n : Int) := by omega
              have hnT := HS.out.1
              have hVn : V.length = n := by rw [HS.out.2.1.len, hnT]
              have hin := HI.out
              have hnn := HNI.out
              have hL := HL.out
              obtain ⟨A7, c7, w7, hap, hT7⟩ := HS.out.2.2.first xt (by omega)
              rw [← hnT] at hap
              obtain ⟨A8, c8, w8, hap8, hT8⟩ := hT7.second xc (by omega)
              rw [hVn] at hap8
              have HAP := Lib.hid hap
              have HAP8 := Lib.hid hap8
              have HN : Hid (n + 1 = (T ++ [xt]).length ∧ GR xt xc (T ++ [xt]) (V ++ [xc]) ∧ Two w w8 (T ++ [xt]) (V ++ [xc]) A7 c7 A8 c8) := Lib.hid ⟨by rw [List.length_append, ← hnT]; rfl, HQ.out.2.2, hT8⟩
              have hiw : wrap64 ((i : Int) + 1) = ((i + 1 : Nat) : Int) := by unfold wrap64; omega
              have cG := grants_any xt xc xt xc true w8
              rw [GR.again HQ.out.1] at cG
              have HIN := Lib.hid (And.intro hin (And.intro hnn hL))
              clear hap hT7 hap8 hT8 hnT hVn HS HQ hin hnn hL HNI
              go_upto_region 20 with (at_builtin; go_must (refine Lib.wpList_append_run _ rfl (.tmp 95) (.tmp 97) 32 32 rfl _ _ rfl rfl _ _ HAP.out ?_))
              go_wp2_with (at_builtin; go_must (refine Lib.wpList_append_run _ rfl (.tmp 99) (.tmp 101) 32 32 rfl _ _ rfl rfl _ _ HAP8.out ?_))
              refine cG.mono ?_
              rintro e w' ⟨rfl, rfl⟩
              clear cG
              go_wp2_with fail
              have hin := HIN.out
              rw [hiw]
              exact ⟨⟨i + 1, n + 1, xt, xc, T ++ [xt], V ++ [xc], A7, A8, c7, c8, rfl, rfl, rfl, rfl, rfl, by omega, by omega, HN⟩, by simp [RowKit.intOf]; omega⟩))))))))
    · have a1 : ¬ (i : Int) < (l.length : Int) := by omega
      have HF := Lib.hid hs.out.2.2.bel
      clear hs
      go_wp2_with fail
      go_ret
      exact ⟨rfl, HF.out⟩
end Go.Proofs.Ytblbcoknefgcaaa
