/-
  The voters with one more, or one less: the program's. No statement is proved here. No condition.
-/
import Derived.Test.YtblbcoknefgcaaaBDel
import Derived.Test.YtblbcoknefgcaaaBSearch
namespace Go.Proofs.Ytblbcoknefgcaaa
open Go.RowKit

/-- what Turn tells, in memory -/
structure TurnT (w w' : World) (l : List Int) (s : Int) (e : Ending) : Prop where
  ex : ∃ A c, e = .returned (.tuple #[.slice A (turnO l s).length c, .int .i64 (turnE l s)]) ∧ inR.Own w' w.heap.size 3 (.slice A (turnO l s).length c) (turnO l s)
  bel : Below w.heap.size w w'
theorem TurnT.none {w : World} {l : List Int} {s : Int} {k : Int} (ho : turnO l s = []) (he : turnE l s = k) : TurnT w w l s (.returned (.tuple #[.slice none 0 0, .int .i64 k])) :=
  ⟨⟨Option.none, 0, by rw [ho, he]; rfl, by rw [ho]; exact Rec.Own.none _ _ _ _⟩, Below.refl _ _⟩
set_option maxHeartbeats 4000000 in
set_option maxRecDepth 100000 in
theorem turn_any (l : List Int) (s : Int) (a : Value) (w : World) (ha : inR.N w Any a l) (hl : l.length ≤ 1000) :
    Calls Try.prog 24 #[a, .int .i64 s] w fun e w' => TurnT w w' l s e := by
  obtain ⟨A, c, rfl, hlc, hcm⟩ := ha.slice
  have cK := check_any l _ w ha
  cases hk : chk l
  · rw [hk] at cK
    have HF := Lib.hid (TurnT.none (w := w) (l := l) (s := s) (k := 1) (by unfold turnO; rw [hk]; rfl) (by unfold turnE; rw [hk]; rfl))
    clear hk ha hlc hcm
    go_enter Try.func24, Try.ntmps24
    go_wp2_with fail
    refine cK.mono ?_
    rintro e w' ⟨rfl, rfl⟩
    clear cK
    go_wp2_with fail
    go_ret2
    exact HF.out
  rw [hk] at cK
  have cS := store_any s w
  cases hs : isS s
  · rw [hs] at cS
    have HF := Lib.hid (TurnT.none (w := w) (l := l) (s := s) (k := 1) (by unfold turnO; rw [hk, hs]; rfl) (by unfold turnE; rw [hk, hs]; rfl))
    clear hk hs ha hlc hcm
    go_enter Try.func24, Try.ntmps24
    go_wp2_with fail
    refine cK.mono ?_
    rintro e w' ⟨rfl, rfl⟩
    clear cK
    go_wp2_with fail
    refine cS.mono ?_
    rintro e w' ⟨rfl, rfl⟩
    clear cS
    go_wp2_with fail
    go_ret2
    exact HF.out
  rw [hs] at cS
  obtain ⟨k0, k5, kr⟩ := chk_len hk
  have cB := search_any l s _ w ha hl (rise_sorted kr)
  have hall := rise_all kr
  have hmem := isS_mem hs
  have hO : turnO l s = turnL l s := by unfold turnO; rw [hk, hs]; rfl
  have hE : turnE l s = if turnL l s = [] then 50 else 0 := by unfold turnE; rw [hk, hs]; rfl
  have hple := place_le l s
  have cC := cloneint_any l _ w ha (by omega)
  obtain ⟨p, hp⟩ : ∃ p, p = place l s := ⟨_, rfl⟩
  rw [← hp] at cB hple
  have HP := Lib.hid hp
  have HK := Lib.hid (And.intro hk (And.intro hs (And.intro kr (And.intro hall (And.intro hmem (And.intro hO hE))))))
  cases hh : hasI l s
  · -- one more
    rw [hh] at cB
    have hins := turn_ins_all l hall s hmem hh
    rw [← hp] at hins
    have HI := Lib.hid hins
    clear hk hs ha hlc hcm kr hall hmem hO hE hp hh hins
    go_enter Try.func24, Try.ntmps24
    go_wp2_with fail
    refine cK.mono ?_
    rintro e w' ⟨rfl, rfl⟩
    clear cK
    go_wp2_with fail
    refine cS.mono ?_
    rintro e w' ⟨rfl, rfl⟩
    clear cS
    go_wp2_with fail
    refine cB.mono ?_
    rintro e w' ⟨rfl, rfl⟩
    clear cB
    go_wp2_with fail
    refine cC.mono ?_
    rintro e w1 ⟨v1, rfl, ho1, hb1⟩
    clear cC
    obtain ⟨w2, hw2⟩ : ∃ w2, w2 = w1.alloc (.cells #[.int .i64 s] 3) := ⟨_, rfl⟩
    have hb2 : Below w1.heap.size w1 w2 := by rw [hw2]; exact (Below.refl _ _).alloc (Nat.le_refl _) _
    have hp2 : w2.heap[w1.heap.size]? = some (.cells (inR.vals s).toArray 3 (0, 0)) := by rw [hw2]; exact heap_alloc_new w1 _
    have ho2 := ho1.below hb2
    have hB2 := hb1.trans (Joins.below_le hb2 hb1.size)
    have cI := insInt_any l p s v1 w1.heap.size w.heap.size w2 ho2 hple hB2.size hp2 (fun b hb => by have := (ho1.lt b hb).2; omega) (by omega)
    have HW2 := Lib.hid hw2
    have HB2 := Lib.hid hB2
    clear hw2 hb2 hp2 ho2 hB2 ho1 hb1
    go_wp2_with fail
    rw [← HW2.out]
    refine cI.mono ?_
    rintro e w3 ⟨v3, rfl, ho3, hb3, -⟩
    clear cI HW2
    obtain ⟨A3, c3, rfl⟩ := ho3.slice
    have HF : Hid (TurnT w w3 l s (.returned (.tuple #[.slice A3 (l.take p ++ s :: l.drop p).length c3, .int .i64 0]))) := Lib.hid (by
      have e1 : turnO l s = l.take p ++ s :: l.drop p := by rw [HK.out.2.2.2.2.2.1, HI.out.1]
      have e2 : turnE l s = 0 := by rw [HK.out.2.2.2.2.2.2, if_neg HI.out.2]
      exact ⟨⟨A3, c3, by rw [e1, e2], by rw [e1]; exact ho3⟩, HB2.out.trans hb3⟩)
    clear ho3 hb3
    obtain ⟨n3, hn3⟩ : ∃ n3, n3 = (l.take p ++ s :: l.drop p).length := ⟨_, rfl⟩
    rw [← hn3] at HF ⊢
    clear hn3
    go_wp2_with fail
    go_ret2
    exact HF.out
  · -- one less
    rw [hh] at cB
    have hdel := turn_del_all l hall s hmem hh
    rw [← hp] at hdel
    have hpl : p < l.length := by
      apply Classical.byContradiction
      intro hn
      have := place_none (rise_sorted kr) (s := s) (by rw [← hp]; omega)
      rw [show l.contains s = true from hh] at this
      cases this
    have HI := Lib.hid hdel
    clear hk hs ha hlc hcm kr hall hmem hO hE hp hh hdel
    go_enter Try.func24, Try.ntmps24
    go_wp2_with fail
    refine cK.mono ?_
    rintro e w' ⟨rfl, rfl⟩
    clear cK
    go_wp2_with fail
    refine cS.mono ?_
    rintro e w' ⟨rfl, rfl⟩
    clear cS
    go_wp2_with fail
    refine cB.mono ?_
    rintro e w' ⟨rfl, rfl⟩
    clear cB
    by_cases h1 : l.length = 1
    · have h1' : ((l.length : Int) == 1) = true := by rw [h1]; rfl
      have HF := Lib.hid (TurnT.none (w := w) (l := l) (s := s) (k := 50) (by rw [HK.out.2.2.2.2.2.1]; exact HI.out.2.2 h1) (by rw [HK.out.2.2.2.2.2.2, if_pos (HI.out.2.2 h1)]))
      have h2 : (l.length : Int) = 1 := by omega
      clear h1 cC
      go_wp2_with fail
      go_ret2
      exact HF.out
    have h1' : ((l.length : Int) == 1) = false := by rw [beq_eq_false_iff_ne]; omega
    have h2 : ¬ (l.length : Int) = 1 := by omega
    have HN : Hid (turnL l s ≠ []) := Lib.hid fun e => h1 (HI.out.2.1 e)
    clear h1
    go_wp2_with fail
    refine cC.mono ?_
    rintro e w1 ⟨v1, rfl, ho1, hb1⟩
    clear cC
    rcases own_opened ho1 with ⟨-, he⟩ | ⟨g, cap, rest, rfl, hb, hg, hn, hcc, hr⟩
    · rw [he] at k0; simp at k0
    have cD := delInt_any w1 w.heap.size g cap p l ho1 hpl (by omega) hb1.size
    have HB1 := Lib.hid hb1
    have hs1 : IntKind.i64.wrap ((p : Int) + 1) = (p : Int) + 1 := by rw [IntKind.wrap_i64]; omega
    clear ho1 hb1 hb hg hn hcc hr
    go_wp2_with fail
    refine cD.mono ?_
    rintro e w3 ⟨rfl, ho3, hb3⟩
    clear cD hs1
    have HF : Hid (TurnT w w3 l s (.returned (.tuple #[.slice (some ⟨g, 0, none⟩) (l.length - 1) cap, .int .i64 0]))) := Lib.hid (by
      have e1 : turnO l s = l.take p ++ l.drop (p + 1) := by rw [HK.out.2.2.2.2.2.1, HI.out.1]
      have e2 : turnE l s = 0 := by rw [HK.out.2.2.2.2.2.2, if_neg HN.out]
      have e3 : (turnO l s).length = l.length - 1 := by rw [e1, List.length_append, List.length_take, List.length_drop]; omega
      exact ⟨⟨_, cap, by rw [e3, e2], by rw [e3, e1]; exact ho3⟩, HB1.out.trans hb3⟩)
    clear ho3 hb3
    obtain ⟨n3, hn3⟩ : ∃ n3, n3 = l.length - 1 := ⟨_, rfl⟩
    rw [← hn3] at HF ⊢
    clear hn3
    go_wp2_with fail
    go_ret2
    exact HF.out
end Go.Proofs.Ytblbcoknefgcaaa
