/-
  One vote in each term: the law, walked. No statement is proved here. No condition.
-/
import Derived.Test.YtlkcmiimmghghaaBWorks
namespace Go.Proofs.Ytlkcmiimmghghaa
open Go.RowKit

/-- somebody who stands -/
structure ST where
  cand : Int
  term : Int
  newer : Bool
def standR : Rec ST where
  vals x := [.int .i64 x.cand, .int .i64 x.term, .bool x.newer]
  size := 3
  len _ := rfl
  one x := by intro v hv; simp at hv; rcases hv with rfl | rfl | rfl <;> rfl
/-- a number more in a row of one's own, and where it then lies -/
theorem push_own {w : World} {B : Nat} {A : Option Addr} {c : Nat} {l : List Int} (h : inR.Own w B 3 (.slice A l.length c) l) (x : Int) (hl : l.length ≤ 100000) (hB : B ≤ w.heap.size) :
    ∃ A7 c7 w7, (Builtin.append_ #[23, 23] 23 #[.slice A l.length c, .slice (some ⟨w.heap.size, 0, none⟩) 1 1]).run Try.prog (w.alloc (.cells #[.int .i64 x] 3)) = .ok (.slice A7 (l.length + 1) c7) w7 ∧
      inR.Own w7 B 3 (.slice A7 (l.length + 1) c7) (l ++ [x]) ∧ Below B w w7 ∧ (∀ b, b < w.heap.size → (Value.slice A l.length c).ownBlock ≠ some b → w7.heap[b]? = w.heap[b]?) ∧ w.heap.size ≤ w7.heap.size ∧
      ((Value.slice A7 (l.length + 1) c7).ownBlock = (Value.slice A l.length c).ownBlock ∨ (Value.slice A7 (l.length + 1) c7).ownBlock = some (w.heap.size + 1)) := by
  obtain ⟨ie, hie, z0, z1, z2⟩ := info_parts info_cint
  have hb1 : Below w.heap.size w (w.alloc (.cells #[.int .i64 x] 3)) := (Below.refl _ _).alloc (Nat.le_refl _) _
  have hx1 : inR.N (w.alloc (.cells #[.int .i64 x] 3)) Any (.slice (some ⟨w.heap.size, 0, none⟩) 1 1) [x] := Rec.one_row (R := inR) (N := Any) (a := x) (heap_alloc_new w _) trivial
  obtain ⟨v7, w7, hrun, ho, hg, hat⟩ := Rec.app (P := Try.prog) (t := 23) Try.underlying23 hie z0 z1 z2 rfl (by decide) (h.below hb1) hx1 (by unfold maxLen; simp; omega) (by simp; omega) (Nat.le_trans hB hb1.size)
  obtain ⟨A7, c7, hv7⟩ := ho.slice
  have hlen : (l ++ [x]).length = l.length + 1 := by simp
  rw [hlen] at hv7
  subst hv7
  have hk : ∀ b, b < (w.alloc (.cells #[.int .i64 x] 3)).heap.size → (Value.slice A l.length c).ownBlock ≠ some b → w7.heap[b]? = (w.alloc (.cells #[.int .i64 x] 3)).heap[b]? := fun b hb hn => hg.block b hb fun e => hn e.symm
  refine ⟨A7, c7, w7, hrun, ho, (Joins.below_le hb1 hB).grown hg (Nat.le_trans hB hb1.size) fun p hp => (h.lt p hp).1, fun b hb hn => (hk b (Nat.lt_of_lt_of_le hb hb1.size) hn).trans (hb1.block b hb), Nat.le_trans hb1.size hg.size, ?_⟩
  have e : (w.alloc (.cells #[.int .i64 x] 3)).heap.size = w.heap.size + 1 := by simp
  rw [e] at hat
  exact hat
/-- two rows of one's own, apart -/
structure Two (w wr : World) (T V : List Int) (A : Option Addr) (c : Nat) (A' : Option Addr) (c' : Nat) : Prop where
  o1 : inR.Own wr w.heap.size 3 (.slice A T.length c) T
  o2 : inR.Own wr w.heap.size 3 (.slice A' V.length c') V
  ne : ∀ b, (Value.slice A T.length c).ownBlock = some b → (Value.slice A' V.length c').ownBlock ≠ some b
  bel : Below w.heap.size w wr
theorem Two.below {w wr w' : World} {T V : List Int} {A : Option Addr} {c : Nat} {A' : Option Addr} {c' : Nat} (h : Two w wr T V A c A' c') (hb : Below wr.heap.size wr w') : Two w w' T V A c A' c' :=
  ⟨h.o1.below hb, h.o2.below hb, h.ne, h.bel.trans (Joins.below_le hb h.bel.size)⟩
theorem Two.first {w wr : World} {T V : List Int} {A : Option Addr} {c : Nat} {A' : Option Addr} {c' : Nat} (h : Two w wr T V A c A' c') (x : Int) (hl : T.length ≤ 100000) :
    ∃ A7 c7 w7, (Builtin.append_ #[23, 23] 23 #[.slice A T.length c, .slice (some ⟨wr.heap.size, 0, none⟩) 1 1]).run Try.prog (wr.alloc (.cells #[.int .i64 x] 3)) = .ok (.slice A7 (T.length + 1) c7) w7 ∧ Two w w7 (T ++ [x]) V A7 c7 A' c' := by
  obtain ⟨A7, c7, w7, h1, h2, h3, h4, h5, h6⟩ := push_own h.o1 x hl h.bel.size
  have e : (T ++ [x]).length = T.length + 1 := by simp
  refine ⟨A7, c7, w7, h1, ⟨by rw [e]; exact h2, ?_, ?_, h.bel.trans h3⟩⟩
  · exact row_same h.o2 fun p hp => h4 p (h.o2.lt p hp).2 fun e => h.ne p e hp
  · rw [e]
    intro b hb hb'
    have h7 := (h.o2.lt b hb').2
    rcases h6 with h6 | h6
    · rw [h6] at hb
      exact h.ne b hb hb'
    · rw [h6] at hb
      have := Option.some.inj hb
      omega
theorem Two.second {w wr : World} {T V : List Int} {A : Option Addr} {c : Nat} {A' : Option Addr} {c' : Nat} (h : Two w wr T V A c A' c') (x : Int) (hl : V.length ≤ 100000) :
    ∃ A7 c7 w7, (Builtin.append_ #[23, 23] 23 #[.slice A' V.length c', .slice (some ⟨wr.heap.size, 0, none⟩) 1 1]).run Try.prog (wr.alloc (.cells #[.int .i64 x] 3)) = .ok (.slice A7 (V.length + 1) c7) w7 ∧ Two w w7 T (V ++ [x]) A c A7 c7 := by
  obtain ⟨A7, c7, w7, h1, h2, h3, h4, h5, h6⟩ := push_own h.o2 x hl h.bel.size
  have e : (V ++ [x]).length = V.length + 1 := by simp
  refine ⟨A7, c7, w7, h1, ⟨?_, by rw [e]; exact h2, ?_, h.bel.trans h3⟩⟩
  · exact row_same h.o1 fun p hp => h4 p (h.o1.lt p hp).2 fun e => h.ne p hp e
  · rw [e]
    intro b hb hb'
    have h7 := (h.o1.lt b hb).2
    rcases h6 with h6 | h6
    · rw [h6] at hb'
      exact h.ne b hb hb'
    · rw [h6] at hb'
      have := Option.some.inj hb'
      omega
/-- what was granted -/
structure GR (term vote : Int) (T V : List Int) : Prop where
  len : V.length = T.length
  all : ∀ (k : Nat) (t v : Int), T[k]? = some t → V[k]? = some v → t ≤ term ∧ 0 < v ∧ (t = term → v = vote)
theorem GR.next {term vote t v : Int} {T V : List Int} {nw : Bool} (h : GR term vote T V) (hg : grants term vote t v nw = true) : nw = true ∧ 0 < v ∧ term ≤ t ∧ (∀ (k : Nat) (u x : Int), T[k]? = some u → V[k]? = some x → u = t → x = v) ∧ GR t v (T ++ [t]) (V ++ [v]) := by
  unfold grants at hg
  simp only [Bool.and_eq_true, Bool.or_eq_true, decide_eq_true_eq, beq_iff_eq] at hg
  obtain ⟨⟨h1, h2⟩, h3⟩ := hg
  have hv : 0 < v := by omega
  have ht : term ≤ t := by omega
  have h4 : ∀ (k : Nat) (u x : Int), T[k]? = some u → V[k]? = some x → u = t → x = v := fun k u x hu hx e => by
    obtain ⟨a1, a2, a3⟩ := h.all k u x hu hx
    have := a3 (by omega)
    omega
  refine ⟨h3, hv, ht, h4, ⟨by simp [h.len], fun k u x hu hx => ?_⟩⟩
  by_cases hk : k < T.length
  · rw [List.getElem?_append_left hk] at hu
    rw [List.getElem?_append_left (by rw [h.len]; exact hk)] at hx
    obtain ⟨a1, a2, a3⟩ := h.all k u x hu hx
    exact ⟨by omega, a2, h4 k u x hu hx⟩
  · rw [List.getElem?_append_right (by omega)] at hu
    rw [List.getElem?_append_right (by rw [h.len]; omega), h.len] at hx
    have hk0 : k - T.length = 0 := by
      have := (List.getElem?_eq_some_iff.1 hu).1
      simp at this
      omega
    rw [hk0] at hu hx
    have e1 : t = u := by simpa using hu
    have e2 : v = x := by simpa using hx
    exact ⟨by omega, by omega, fun _ => by omega⟩
theorem GR.again {t v : Int} (hv : 0 < v) : grants t v t v true = true := by
  unfold grants
  simp
  omega
/-- what a way shows, by the name of its proof: 'inferInstanceAs' lays such a proof in a theorem of its own -/
def WayTo {G : Prop} (_ : G) : Type := PLift G
instance wayTo {G : Prop} (h : G) : Nonempty (WayTo h) := ⟨PLift.up h⟩
theorem way_out {G : Prop} (h : Nonempty (PLift G)) : G := h.elim fun x => x.down

end Go.Proofs.Ytlkcmiimmghghaa
