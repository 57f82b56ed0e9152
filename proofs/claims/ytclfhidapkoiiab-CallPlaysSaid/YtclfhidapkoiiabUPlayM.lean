/-
  CallPlays: what holds between its steps. No statement is proved here. No condition.
-/
import Derived.Test.YtclfhidapkoiiabUTwice
import Derived.Test.YtclfhidapkoiiabURefE
import Derived.Test.YtclfhidapkoiiabUStep
namespace Go.Proofs.Ytclfhidapkoiiab
open Go.RowKit Go.Maps

/-- between the steps: the program's object, the document's beside it, the numbers that were given -/
structure PL (w wr : World) (p b rp : Nat) (life given : Int) (rv vg : Value) (M : List (Nat × WT)) (gs : List Int) (i : Nat) : Prop where
  bel : Below w.heap.size w wr
  sc : SC wr p b life given M
  rc : RC wr w.heap.size rp life given rv (M.map (·.2))
  gv : inR.Own wr w.heap.size 3 vg gs
  pB : w.heap.size ≤ p
  bB : w.heap.size ≤ b
  mB : ∀ m ∈ M, w.heap.size ≤ m.1
  gi : ∀ n ∈ gs, I6 n
  gl : gs.length ≤ i
  giv : given ≤ (i : Int)
/-- what the program's calls may touch, what the document's may -/
def TP (p b : Nat) (M : List (Nat × WT)) (n : Nat) : Prop := n = p ∨ TC b M n
section
variable {w wr wr' : World} {p b rp : Nat} {life given given' : Int} {rv vg rv' : Value} {M M' : List (Nat × WT)} {gs : List Int} {i : Nat}
theorem PL.tB (h : PL w wr p b rp life given rv vg M gs i) : ∀ n, TP p b M n → w.heap.size ≤ n := fun n hn => by
  rcases hn with rfl | rfl | ⟨m, hm, rfl⟩
  · exact h.pB
  · exact h.bB
  · exact h.mB m hm
theorem PL.tlt (h : PL w wr p b rp life given rv vg M gs i) : ∀ n, TP p b M n → n < wr.heap.size := fun n hn => by
  rcases hn with rfl | hn
  · exact h.sc.ltp
  · exact h.sc.tlt n hn
theorem type_far {n : Nat} {cs : Array Value} {T : TypeId} (hs : SC wr p b life given M) (hn : wr.heap[n]? = some (.cells cs T (0, 0))) (h1 : T ≠ 56) (h2 : T ≠ 37) : ¬ TP p b M n := fun ht => by
  rcases ht with rfl | rfl | ⟨m, hm, rfl⟩
  · exact apart_T hn hs.obj h1 rfl
  · obtain ⟨es, c, hb⟩ := hs.map.is_map
    exact apart_M hn hb rfl
  · exact apart_T hn (hs.here m hm) h2 rfl
theorem PL.rt (h : PL w wr p b rp life given rv vg M gs i) : ∀ n, TR rp rv n → ¬ TP p b M n := fun n hn => by
  rcases hn with rfl | hn
  · exact type_far h.sc h.rc.obj (by decide) (by decide)
  · obtain ⟨cur, hc⟩ := row_type h.rc.row hn
    exact type_far h.sc hc (by decide) (by decide)
theorem PL.gt (h : PL w wr p b rp life given rv vg M gs i) : ∀ n, vg.ownBlock = some n → ¬ TP p b M n ∧ ¬ TR rp rv n := fun n hn => by
  obtain ⟨cur, hc⟩ := row_type h.gv hn
  refine ⟨type_far h.sc hc (by decide) (by decide), fun ht => ?_⟩
  rcases ht with rfl | ht
  · exact apart_T hc h.rc.obj (by decide) rfl
  · obtain ⟨cur2, hc2⟩ := row_type h.rc.row ht
    exact apart_T hc hc2 (by decide) rfl
theorem PL.below (h : PL w wr p b rp life given rv vg M gs i) (hb : Below wr.heap.size wr wr') : PL w wr' p b rp life given rv vg M gs i :=
  { h with bel := h.bel.trans (Joins.below_le hb h.bel.size), sc := h.sc.below hb, rc := h.rc.below hb, gv := h.gv.below hb }
theorem PL.next (h : PL w wr p b rp life given rv vg M gs i) : PL w wr p b rp life given rv vg M gs (i + 1) := { h with gl := Nat.le_succ_of_le h.gl, giv := by have := h.giv; omega }
/-- where the program's row and the document's are -/
theorem PL.prog (h : PL w wr p b rp life given rv vg M gs i) {w1 : World} (k1 : Kept wr w1 (TP p b M)) : RC w1 w.heap.size rp life given rv (M.map (·.2)) := h.rc.kept k1 h.rt
theorem PL.docs (h : PL w wr p b rp life given rv vg M gs i) {w1 : World} (k1 : Kept wr w1 (TR rp rv)) : SC w1 p b life given M :=
  h.sc.same (k1.block p h.sc.ltp fun e => h.rt p e (.inl rfl)) (k1.block b h.sc.ltb fun e => h.rt b e (.inr (.inl rfl))) fun m hm => k1.block m.1 (h.sc.ltm hm) fun e => h.rt m.1 e (.inr (.inr ⟨m, hm, rfl⟩))
/-- both have done the same -/
theorem PL.both {w1 w2 : World} (h : PL w wr p b rp life given rv vg M gs i) (s1 : SC w1 p b life given' M') (k1 : Kept wr w1 (TP p b M)) (hM : ∀ m ∈ M', w.heap.size ≤ m.1) (hg : given' ≤ ((i + 1 : Nat) : Int))
    (r2 : RC w2 w.heap.size rp life given' rv' (M'.map (·.2))) (k2 : Kept w1 w2 (TR rp rv)) (hty : ∀ n, TR rp rv n → ¬ TP p b M' n) : PL w w2 p b rp life given' rv' vg M' gs (i + 1) := by
  have hs1 := k1.size
  refine ⟨below_kept (below_kept h.bel k1 (Nat.le_refl _) h.tB) k2 (Nat.le_refl _) h.rc.tB, ?_, r2, ?_, h.pB, h.bB, hM, h.gi, Nat.le_succ_of_le h.gl, hg⟩
  · exact s1.same (k2.block p s1.ltp fun e => hty p e (.inl rfl)) (k2.block b s1.ltb fun e => hty b e (.inr (.inl rfl))) fun m hm => k2.block m.1 (s1.ltm hm) fun e => hty m.1 e (.inr (.inr ⟨m, hm, rfl⟩))
  · refine row_same h.gv fun n hn => ?_
    obtain ⟨g1, g2⟩ := h.gt n hn
    exact (k2.block n (Nat.lt_of_lt_of_le (h.gv.lt n hn).2 hs1) g2).trans (k1.block n (h.gv.lt n hn).2 g1)
/-- .. the document's first -/
theorem PL.both' {w1 w2 : World} (h : PL w wr p b rp life given rv vg M gs i) (r1 : RC w1 w.heap.size rp life given' rv' (M'.map (·.2))) (k1 : Kept wr w1 (TR rp rv)) (hM : ∀ m ∈ M', w.heap.size ≤ m.1) (hg : given' ≤ ((i + 1 : Nat) : Int))
    (s2 : SC w2 p b life given' M') (k2 : Kept w1 w2 (TP p b M)) (hty : ∀ n, TR rp rv' n → ¬ TP p b M n) : PL w w2 p b rp life given' rv' vg M' gs (i + 1) := by
  have hs1 := k1.size
  refine ⟨below_kept (below_kept h.bel k1 (Nat.le_refl _) h.rc.tB) k2 (Nat.le_refl _) h.tB, s2, r1.kept k2 hty, ?_, h.pB, h.bB, hM, h.gi, Nat.le_succ_of_le h.gl, hg⟩
  refine row_same h.gv fun n hn => ?_
  obtain ⟨g1, g2⟩ := h.gt n hn
  exact (k2.block n (Nat.lt_of_lt_of_le (h.gv.lt n hn).2 hs1) g1).trans (k1.block n (h.gv.lt n hn).2 g2)
/-- a block of the law's own type stays apart -/
theorem PL.zt {z : Nat} {cs : Array Value} (h : PL w wr p b rp life given rv vg M gs i) (hz : wr.heap[z]? = some (.cells cs 32 (0, 0))) : ¬ TP p b M z ∧ ¬ TR rp rv z := by
  refine ⟨type_far h.sc hz (by decide) (by decide), fun ht => ?_⟩
  rcases ht with rfl | ht
  · exact apart_T hz h.rc.obj (by decide) rfl
  · obtain ⟨cur2, hc2⟩ := row_type h.rc.row ht
    exact apart_T hz hc2 (by decide) rfl
/-- all were told: nothing has turned -/
theorem PL.all {w1 : World} (h : PL w wr p b rp life given rv vg M gs i) (s1 : SC w1 p b life given M) (k1 : Kept wr w1 (TC b M)) : PL w w1 p b rp life given rv vg M gs i :=
  have k2 : Kept wr w1 (TP p b M) := k1.mono fun _ _ h => .inr h
  { h with bel := below_kept h.bel k2 (Nat.le_refl _) h.tB, sc := s1, rc := h.prog k2, gv := row_same h.gv fun n hn => k2.block n (h.gv.lt n hn).2 (h.gt n hn).1 }
/-- a row that was told is written over -/
theorem PL.spoilt {w1 w2 : World} {a : Value} {L : List WT} {C : Nat} (h : PL w w1 p b rp life given rv vg M gs i) (ho : wtR.Own w1 C 37 a L) (hC : w.heap.size ≤ C) (hm : ∀ m ∈ M, m.1 < C) (k : Kept w1 w2 (fun n => a.ownBlock = some n)) : PL w w2 p b rp life given rv vg M gs i := by
  have far : ∀ n cs T, w1.heap[n]? = some (.cells cs T (0, 0)) → T ≠ 37 → a.ownBlock ≠ some n := fun n cs T hn hT e => by
    obtain ⟨cur, hc⟩ := row_type ho e
    exact apart_T hn hc hT rfl
  refine { h with bel := below_kept h.bel k (Nat.le_refl _) (fun n hn => Nat.le_trans hC (ho.lt n hn).1), sc := h.sc.same (k.block p h.sc.ltp (far p _ _ h.sc.obj (by decide))) (k.block b h.sc.ltb fun e => ?_) (fun m hm' => k.block m.1 (h.sc.ltm hm') fun e => ?_), rc := h.rc.kept k fun n hn => ?_, gv := row_same h.gv fun n hn => ?_ }
  · obtain ⟨cur, hc⟩ := row_type ho e
    obtain ⟨es, c, hb⟩ := h.sc.map.is_map
    exact apart_M hc hb rfl
  · have := (ho.lt m.1 e).1
    have := hm m hm'
    omega
  · rcases hn with rfl | hn
    · exact far _ _ _ h.rc.obj (by decide)
    · obtain ⟨cur, hc⟩ := row_type h.rc.row hn
      exact far n _ _ hc (by decide)
  · obtain ⟨cur, hc⟩ := row_type h.gv hn
    exact k.block n (h.gv.lt n hn).2 (far n _ _ hc (by decide))
/-- one more number was given -/
theorem PL.give {w1 : World} {v' : Value} {x : Int} (h : PL w wr p b rp life given rv vg M gs (i + 1)) (hl : gs.length ≤ i) (ho : inR.Own w1 w.heap.size 3 v' (gs ++ [x])) (hb : Below w.heap.size wr w1) (hk : ∀ n, n < wr.heap.size → vg.ownBlock ≠ some n → w1.heap[n]? = wr.heap[n]?) (hx : I6 x) : PL w w1 p b rp life given rv v' M (gs ++ [x]) (i + 1) :=
  have k : Kept wr w1 (fun n => vg.ownBlock = some n) := ⟨hb.os, hb.tape, hb.output, hb.size, hk⟩
  { h with bel := h.bel.trans hb, sc := h.sc.same (hk p h.sc.ltp fun e => (h.gt p e).1 (.inl rfl)) (hk b h.sc.ltb fun e => (h.gt b e).1 (.inr (.inl rfl))) (fun m hm => hk m.1 (h.sc.ltm hm) fun e => (h.gt m.1 e).1 (.inr (.inr ⟨m, hm, rfl⟩))),
           rc := h.rc.kept k fun n hn e => (h.gt n e).2 hn, gv := ho,
           gi := fun n hn => by
             rcases List.mem_append.1 hn with hn | hn
             · exact h.gi n hn
             · rw [List.mem_singleton.1 hn]; exact hx,
           gl := by rw [List.length_append]; simp; omega }
/-- blocks that are none of these may turn -/
theorem PL.far {w1 w2 : World} {F : Nat → Prop} (h : PL w w1 p b rp life given rv vg M gs i) (k : Kept w1 w2 F) (hF : ∀ n, F n → w.heap.size ≤ n ∧ ¬ TP p b M n ∧ ¬ TR rp rv n ∧ vg.ownBlock ≠ some n) : PL w w2 p b rp life given rv vg M gs i :=
  { h with bel := below_kept h.bel k (Nat.le_refl _) (fun n hn => (hF n hn).1), sc := h.sc.same (k.block p h.sc.ltp fun e => (hF p e).2.1 (.inl rfl)) (k.block b h.sc.ltb fun e => (hF b e).2.1 (.inr (.inl rfl))) (fun m hm => k.block m.1 (h.sc.ltm hm) fun e => (hF m.1 e).2.1 (.inr (.inr ⟨m, hm, rfl⟩))),
           rc := h.rc.kept k fun n hn e => (hF n e).2.2.1 hn, gv := row_same h.gv fun n hn => k.block n (h.gv.lt n hn).2 fun e => (hF n e).2.2.2 hn }
/-- a wait of the program's own -/
theorem PL.wt_far {u : Nat} {cs : Array Value} (h : PL w wr p b rp life given rv vg M gs i) (hu : wr.heap[u]? = some (.cells cs 37 (0, 0))) (hm : ∀ m ∈ M, m.1 < u) : ¬ TP p b M u ∧ ¬ TR rp rv u ∧ vg.ownBlock ≠ some u := by
  refine ⟨fun ht => ?_, fun ht => ?_, fun e => ?_⟩
  · rcases ht with rfl | rfl | ⟨m, hm', e⟩
    · exact apart_T hu h.sc.obj (by decide) rfl
    · obtain ⟨es, c, hb⟩ := h.sc.map.is_map
      exact apart_M hu hb rfl
    · have := hm m hm'; omega
  · rcases ht with rfl | ht
    · exact apart_T hu h.rc.obj (by decide) rfl
    · obtain ⟨cur, hc⟩ := row_type h.rc.row ht
      exact apart_T hu hc (by decide) rfl
  · obtain ⟨cur, hc⟩ := row_type h.gv e
    exact apart_T hu hc (by decide) rfl
/-- a wait of the document's own -/
theorem PL.rt_far {u : Nat} {cs : Array Value} (h : PL w wr p b rp life given rv vg M gs i) (hu : wr.heap[u]? = some (.cells cs 40 (0, 0))) (hv : ∀ q, rv.ownBlock = some q → q < u) : ¬ TP p b M u ∧ ¬ TR rp rv u ∧ vg.ownBlock ≠ some u := by
  refine ⟨type_far h.sc hu (by decide) (by decide), fun ht => ?_, fun e => ?_⟩
  · rcases ht with rfl | ht
    · exact apart_T hu h.rc.obj (by decide) rfl
    · have := hv u ht; omega
  · obtain ⟨cur, hc⟩ := row_type h.gv e
    exact apart_T hu hc (by decide) rfl
theorem set7_at {W : World} {b : Nat} {T : TypeId} {x y : WT} (h : W.heap[b]? = some (.cells y.cells T (0, 0))) : (((((((W.setCell ⟨b, 0, none⟩ (.int .i64 x.req)).setCell ⟨b, 1, none⟩ (.string x.key)).setCell ⟨b, 2, none⟩ (.int .i64 x.client)).setCell ⟨b, 3, none⟩ (.int .i64 x.id)).setCell ⟨b, 4, none⟩ (.int .i64 x.first)).setCell ⟨b, 5, none⟩ (.int .i64 x.last)).setCell ⟨b, 6, none⟩ (.bool x.marked)).heap[b]? = some (.cells x.cells T (0, 0)) := by
  rw [Joins.block_setCell (Joins.block_setCell (Joins.block_setCell (Joins.block_setCell (Joins.block_setCell (Joins.block_setCell (Joins.block_setCell h _) _) _) _) _) _) _]
  simp [WT.cells]
theorem set7_kept {W : World} {b : Nat} {x : WT} : Kept W (((((((W.setCell ⟨b, 0, none⟩ (.int .i64 x.req)).setCell ⟨b, 1, none⟩ (.string x.key)).setCell ⟨b, 2, none⟩ (.int .i64 x.client)).setCell ⟨b, 3, none⟩ (.int .i64 x.id)).setCell ⟨b, 4, none⟩ (.int .i64 x.first)).setCell ⟨b, 5, none⟩ (.int .i64 x.last)).setCell ⟨b, 6, none⟩ (.bool x.marked)) (fun n => n = b) := by
  have k1 : ∀ (W : World) (o : Nat) (u : Value), Kept W (W.setCell ⟨b, o, none⟩ u) (fun n => n = b) := fun W o u => Kept.setCell _ _ _ _ rfl
  exact ((((((k1 W 0 _).trans (k1 _ 1 _) (fun _ h => .inl h)).trans (k1 _ 2 _) (fun _ h => .inl h)).trans (k1 _ 3 _) (fun _ h => .inl h)).trans (k1 _ 4 _) (fun _ h => .inl h)).trans (k1 _ 5 _) (fun _ h => .inl h)).trans (k1 _ 6 _) (fun _ h => .inl h)
theorem left_sub {gone : Bool} {ask : WT → Option WT} {n : Nat} (h : TP p b (M.filterMap (leftF gone ask)) n) : TP p b M n := by
  rcases h with h | h | ⟨m, hm, rfl⟩
  · exact .inl h
  · exact .inr (.inl h)
  · obtain ⟨m0, hm0, he⟩ := List.mem_filterMap.1 hm
    refine .inr (.inr ⟨m0, hm0, ?_⟩)
    unfold leftF at he
    cases ha : ask m0.2 with
    | none => rw [ha] at he; have he := Option.some.inj he; rw [← he]
    | some y =>
      rw [ha] at he
      cases gone with
      | true => cases he
      | false => have he := Option.some.inj he; rw [← he]
theorem left_lt {gone : Bool} {ask : WT → Option WT} {C : Nat} (h : ∀ m ∈ M, m.1 < C) : ∀ m ∈ M.filterMap (leftF gone ask), m.1 < C := fun m hm => by
  rcases left_sub (p := C) (b := C) (M := M) (.inr (.inr ⟨m, hm, rfl⟩)) with e | e | ⟨m0, hm0, e⟩
  · obtain ⟨m0, hm0, he⟩ := List.mem_filterMap.1 hm
    exact absurd e (by
      have h1 := h m0 hm0
      unfold leftF at he
      cases ha : ask m0.2 with
      | none => rw [ha] at he; have he := Option.some.inj he; rw [← he]; omega
      | some y =>
        rw [ha] at he
        cases gone with
        | true => cases he
        | false => have he := Option.some.inj he; rw [← he]; dsimp only; omega)
  · obtain ⟨m0, hm0, he⟩ := List.mem_filterMap.1 hm
    exact absurd e (by
      have h1 := h m0 hm0
      unfold leftF at he
      cases ha : ask m0.2 with
      | none => rw [ha] at he; have he := Option.some.inj he; rw [← he]; omega
      | some y =>
        rw [ha] at he
        cases gone with
        | true => cases he
        | false => have he := Option.some.inj he; rw [← he]; dsimp only; omega)
  · rw [← e]; exact h m0 hm0
/-- the lists agree: what is left of both -/
theorem left_false (ask : WT → Option WT) (M : List (Nat × WT)) : (M.filterMap (leftF false ask)).map (·.2) = (M.map (·.2)).map (turnW ask) := by rw [left_snds, leftW_turn]
theorem left_blocks {gone : Bool} {ask : WT → Option WT} {B : Nat} (h : ∀ m ∈ M, B ≤ m.1) : ∀ m ∈ M.filterMap (leftF gone ask), B ≤ m.1 := fun m hm => by
  obtain ⟨m0, hm0, he⟩ := List.mem_filterMap.1 hm
  have e : m.1 = m0.1 := by
    unfold leftF at he
    cases ha : ask m0.2 with
    | none => rw [ha] at he; have he := Option.some.inj he; rw [← he]
    | some y =>
      rw [ha] at he
      cases gone with
      | true => cases he
      | false => have he := Option.some.inj he; rw [← he]
  rw [e]
  exact h m0 hm0
theorem find_at {pre post : List (Nat × WT)} {q : Nat} {x : WT} (hr : ((pre ++ (q, x) :: post).map (·.2.req)).Pairwise (· < ·)) : ((pre ++ (q, x) :: post).map (·.2)).find? (fun y => decide (y.req = x.req)) = some x ∧ ((pre ++ (q, x) :: post).map (·.2)).filterMap (notA x.req) = (pre ++ post).map (·.2) := by
  rw [List.map_append, List.map_cons, List.pairwise_append] at hr
  obtain ⟨h1, h2, h3⟩ := hr
  rw [List.pairwise_cons] at h2
  have p1 : ∀ m ∈ pre, m.2.req ≠ x.req := fun m hm => by
    have h4 : m.2.req < x.req := h3 m.2.req (List.mem_map.2 ⟨m, hm, rfl⟩) x.req (by simp)
    omega
  have p2 : ∀ m ∈ post, m.2.req ≠ x.req := fun m hm => by
    have h4 : x.req < m.2.req := h2.1 m.2.req (List.mem_map.2 ⟨m, hm, rfl⟩)
    omega
  have keep : ∀ l : List (Nat × WT), (∀ m ∈ l, m.2.req ≠ x.req) → (l.map (·.2)).filterMap (notA x.req) = l.map (·.2) := fun l hl => by
    induction l with
    | nil => rfl
    | cons a l ih =>
      rw [List.map_cons, List.filterMap_cons]
      unfold notA
      rw [if_neg (hl a (by simp))]
      exact congrArg _ (ih fun m hm => hl m (List.mem_cons_of_mem _ hm))
  constructor
  · rw [List.map_append, List.map_cons, List.find?_append]
    have : (pre.map (·.2)).find? (fun y => decide (y.req = x.req)) = none := by
      rw [List.find?_eq_none]
      intro y hy
      obtain ⟨m, hm, rfl⟩ := List.mem_map.1 hy
      simpa using p1 m hm
    rw [this, List.find?_cons_of_pos (by simp)]
    rfl
  · rw [List.map_append, List.map_cons, List.filterMap_append, List.filterMap_cons, keep pre p1, keep post p2, List.map_append]
    unfold notA
    rw [if_pos rfl]
theorem find_not {r : Int} (h : ∀ m ∈ M, m.2.req ≠ r) : (M.map (·.2)).find? (fun y => decide (y.req = r)) = none ∧ (M.map (·.2)).filterMap (notA r) = M.map (·.2) := by
  constructor
  · rw [List.find?_eq_none]
    intro y hy
    obtain ⟨m, hm, rfl⟩ := List.mem_map.1 hy
    simpa using h m hm
  · induction M with
    | nil => rfl
    | cons a l ih =>
      rw [List.map_cons, List.filterMap_cons]
      unfold notA
      rw [if_neg (h a (by simp))]
      exact congrArg _ (ih fun m hm => h m (List.mem_cons_of_mem _ hm))
end
end Go.Proofs.Ytclfhidapkoiiab
