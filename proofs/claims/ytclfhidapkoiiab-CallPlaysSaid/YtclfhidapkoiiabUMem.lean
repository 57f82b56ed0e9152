/-
  Requests that wait, in memory: the object, its map, a block each. No statement is proved here. No condition.
-/
import Derived.Test.YtclfhidapkoiiabUShelf
namespace Go.Proofs.Ytclfhidapkoiiab
open Go.RowKit Go.Maps

theorem apart_T {w : World} {a b : Nat} {x y : Array Value} {T U : TypeId} {f g : Nat × Nat} (ha : w.heap[a]? = some (.cells x T f)) (hb : w.heap[b]? = some (.cells y U g)) (h : T ≠ U) : a ≠ b := fun e => by
  subst e
  rw [ha] at hb
  injection hb with hb
  injection hb with _ h2
  exact h h2
theorem apart_M {w : World} {a b : Nat} {x : Array Value} {T : TypeId} {f : Nat × Nat} {es : Array MapEntry} {c : Nat} (ha : w.heap[a]? = some (.cells x T f)) (hb : w.heap[b]? = some (.map es c)) : a ≠ b := fun e => by
  subst e
  rw [ha] at hb
  injection hb with hb
  cases hb
theorem set_far {w : World} {p i : Nat} {u : Value} {b : Nat} (h : b ≠ p) : (w.setCell ⟨p, i, none⟩ u).heap[b]? = w.heap[b]? := Below.heap_setCell w ⟨p, i, none⟩ u b h
theorem lt_of_heap {w : World} {p : Nat} {o : Obj} (h : w.heap[p]? = some o) : p < w.heap.size := (Array.getElem?_eq_some_iff.1 h).1
theorem cw : 56 ≠ 37 := by decide
/-- pointers in a map -/
def pv : Option Nat → Value
  | some p => .pointer (some ⟨p, 0, none⟩)
  | none => .pointer none
def pe : Option Nat → DataW Unit
  | some p => .lit (.int .i64 (p : Int))
  | none => .lit (.int .i64 (-1))
def Rp : Value → Option (DataW Unit × List MemPlace)
  | .pointer (some ⟨p, 0, none⟩) => some (.lit (.int .i64 (p : Int)), [])
  | .pointer none => some (.lit (.int .i64 (-1)), [])
  | _ => none
theorem Rp_inv {v : Value} {d : DataW Unit} {ps : List MemPlace} (h : Rp v = some (d, ps)) : (∃ p : Nat, v = .pointer (some ⟨p, 0, none⟩) ∧ d = .lit (.int .i64 (p : Int))) ∨ (v = .pointer none ∧ d = .lit (.int .i64 (-1))) := by
  unfold Rp at h
  split at h
  · rename_i p
    injection h with h
    injection h with h1 h2
    exact .inl ⟨p, rfl, h1.symm⟩
  · injection h with h
    injection h with h1 h2
    exact .inr ⟨rfl, h1.symm⟩
  · cases h
def ptrK : MK (Option Nat) where
  val := pv
  enc := pe
  rd := Rp
  reads x := by cases x <;> rfl
  inv v x ps h := by
    rcases Rp_inv h with ⟨p, rfl, hd⟩ | ⟨rfl, hd⟩
    · cases x with
      | none =>
        simp only [pe, DataW.lit.injEq, Lit.int.injEq, true_and] at hd
        omega
      | some q =>
        simp only [pe, DataW.lit.injEq, Lit.int.injEq, true_and] at hd
        have : q = p := by omega
        rw [this]; rfl
    · cases x with
      | none => rfl
      | some q =>
        simp only [pe, DataW.lit.injEq, Lit.int.injEq, true_and] at hd
        omega
  zero := none
  t := 54
  e := 57
  under := Try.underlying54
  zeroed W := by kernel_rfl
/-- what the map says of a row -/
def pairsOf (M : List (Nat × WT)) : List (Int × Option Nat) := M.map fun m => (m.2.req, some m.1)
/-- the object at block p, its map at block b, of the row M of waits and where they lie -/
structure SC (w : World) (p b : Nat) (life given : Int) (M : List (Nat × WT)) : Prop where
  obj : w.heap[p]? = some (.cells #[.int .i64 life, .int .i64 given, .map (some b)] 56 (0, 0))
  map : MapI ptrK w b given.toNat (pairsOf M)
  here : ∀ m ∈ M, w.heap[m.1]? = some (.cells m.2.cells 37 (0, 0))
  nod : (M.map (·.1)).Nodup
  rise : (M.map (·.2.req)).Pairwise (· < ·)
  num : ∀ m ∈ M, life * 1048576 < m.2.req ∧ m.2.req ≤ life * 1048576 + given
  lif : 1 ≤ life ∧ life ≤ 2047
  giv : 0 ≤ given ∧ given ≤ 1048575
  few : M.length ≤ 64
/-- what may be touched: the map, and the waits that were there -/
def TC (b : Nat) (M : List (Nat × WT)) (n : Nat) : Prop := n = b ∨ ∃ m ∈ M, m.1 = n
section
variable {w w' : World} {p b : Nat} {life given : Int} {M : List (Nat × WT)}
theorem SC.ltp (h : SC w p b life given M) : p < w.heap.size := lt_of_heap h.obj
theorem SC.ltb (h : SC w p b life given M) : b < w.heap.size := h.map.lt
theorem SC.ltm (h : SC w p b life given M) {m : Nat × WT} (hm : m ∈ M) : m.1 < w.heap.size := lt_of_heap (h.here m hm)
theorem SC.pb (h : SC w p b life given M) : p ≠ b := by
  obtain ⟨es, c, hb⟩ := h.map.is_map
  exact apart_M h.obj hb
theorem SC.mb (h : SC w p b life given M) {m : Nat × WT} (hm : m ∈ M) : m.1 ≠ b := by
  obtain ⟨es, c, hb⟩ := h.map.is_map
  exact apart_M (h.here m hm) hb
theorem SC.mp (h : SC w p b life given M) {m : Nat × WT} (hm : m ∈ M) : m.1 ≠ p := (apart_T h.obj (h.here m hm) cw).symm
theorem SC.tp (h : SC w p b life given M) : ¬ TC b M p := fun ht => by
  rcases ht with e | ⟨m, hm, e⟩
  · exact h.pb e
  · exact h.mp hm e
theorem SC.same (h : SC w p b life given M) (hp : w'.heap[p]? = w.heap[p]?) (hb : w'.heap[b]? = w.heap[b]?) (hm : ∀ m ∈ M, w'.heap[m.1]? = w.heap[m.1]?) : SC w' p b life given M :=
  ⟨hp.trans h.obj, h.map.same hb, fun m hm' => (hm m hm').trans (h.here m hm'), h.nod, h.rise, h.num, h.lif, h.giv, h.few⟩
theorem SC.below (h : SC w p b life given M) (hb : Below w.heap.size w w') : SC w' p b life given M := h.same (hb.block _ h.ltp) (hb.block _ h.ltb) fun _ hm => hb.block _ (h.ltm hm)
theorem SC.wf (h : SC w p b life given M) {m : Nat × WT} (hm : m ∈ M) : I6 m.2.req := by
  have := h.num m hm
  have := h.lif
  have := h.giv
  exact i6_of (by omega) (by omega)
theorem pairs_keys (M : List (Nat × WT)) : (pairsOf M).map (·.1) = M.map (·.2.req) := by unfold pairsOf; rw [List.map_map]; rfl
theorem pairs_length (M : List (Nat × WT)) : (pairsOf M).length = M.length := by unfold pairsOf; rw [List.length_map]
theorem SC.nodk (h : SC w p b life given M) : ((pairsOf M).map (·.1)).Nodup := h.map.nodup
theorem SC.find (h : SC w p b life given M) {m : Nat × WT} (hm : m ∈ M) : ifind (pairsOf M) m.2.req = some (some m.1) := ifind_some h.nodk (List.mem_map.2 ⟨m, hm, rfl⟩)
theorem SC.find_not (_h : SC w p b life given M) {r : Int} (hr : ∀ m ∈ M, m.2.req ≠ r) : ifind (pairsOf M) r = none := ifind_none.2 fun x hx => by
  obtain ⟨m, hm, rfl⟩ := List.mem_map.1 hx
  exact hr m hm
/-- one wait has turned -/
theorem SC.turn {pre post : List (Nat × WT)} {q : Nat} {x y : WT} (h : SC w p b life given (pre ++ (q, x) :: post)) (hr : y.req = x.req) (hq : w'.heap[q]? = some (.cells y.cells 37 (0, 0))) (hk : ∀ n, n < w.heap.size → n ≠ q → w'.heap[n]? = w.heap[n]?) : SC w' p b life given (pre ++ (q, y) :: post) := by
  have hmem : (q, x) ∈ pre ++ (q, x) :: post := by simp
  have hpairs : pairsOf (pre ++ (q, y) :: post) = pairsOf (pre ++ (q, x) :: post) := by simp [pairsOf, hr]
  have hf : (pre ++ (q, y) :: post).map (·.1) = (pre ++ (q, x) :: post).map (·.1) := by simp
  have hreq : (pre ++ (q, y) :: post).map (·.2.req) = (pre ++ (q, x) :: post).map (·.2.req) := by simp [hr]
  have hnd := h.nod
  rw [List.map_append, List.map_cons, List.nodup_append] at hnd
  obtain ⟨-, hn2, hn3⟩ := hnd
  rw [List.nodup_cons] at hn2
  refine ⟨(hk p h.ltp (fun e => h.mp hmem e.symm)).trans h.obj, ?_, fun m hm => ?_, ?_, ?_, fun m hm => ?_, h.lif, h.giv, ?_⟩
  · rw [hpairs]
    exact h.map.same (hk b h.ltb fun e => h.mb hmem e.symm)
  · rcases List.mem_append.1 hm with hm | hm
    · have hm' : m ∈ pre ++ (q, x) :: post := List.mem_append_left _ hm
      exact (hk m.1 (h.ltm hm') (hn3 m.1 (List.mem_map.2 ⟨m, hm, rfl⟩) q (by simp))).trans (h.here m hm')
    · rcases List.mem_cons.1 hm with rfl | hm
      · exact hq
      · have hm' : m ∈ pre ++ (q, x) :: post := List.mem_append_right _ (List.mem_cons_of_mem _ hm)
        exact (hk m.1 (h.ltm hm') (fun e => hn2.1 (List.mem_map.2 ⟨m, hm, e⟩))).trans (h.here m hm')
  · rw [hf]; exact h.nod
  · rw [hreq]; exact h.rise
  · rcases List.mem_append.1 hm with hm | hm
    · exact h.num m (List.mem_append_left _ hm)
    · rcases List.mem_cons.1 hm with rfl | hm
      · have := h.num _ hmem
        rw [hr]; exact this
      · exact h.num m (List.mem_append_right _ (List.mem_cons_of_mem _ hm))
  · have := h.few
    simpa using this
theorem rise_out {pre post : List (Nat × WT)} {q : Nat} {x : WT} (h : ((pre ++ (q, x) :: post).map (·.2.req)).Pairwise (· < ·)) : idel (pairsOf (pre ++ (q, x) :: post)) x.req = pairsOf (pre ++ post) := by
  rw [List.map_append, List.map_cons, List.pairwise_append] at h
  obtain ⟨h1, h2, h3⟩ := h
  rw [List.pairwise_cons] at h2
  have e1 : idel (pairsOf pre) x.req = pairsOf pre := by
    unfold idel
    rw [List.filter_eq_self]
    intro y hy
    obtain ⟨m, hm, rfl⟩ := List.mem_map.1 hy
    have := h3 m.2.req (List.mem_map.2 ⟨m, hm, rfl⟩) x.req (by simp)
    simp
    omega
  have e2 : idel (pairsOf post) x.req = pairsOf post := by
    unfold idel
    rw [List.filter_eq_self]
    intro y hy
    obtain ⟨m, hm, rfl⟩ := List.mem_map.1 hy
    have h5 : x.req < m.2.req := h2.1 m.2.req (List.mem_map.2 ⟨m, hm, rfl⟩)
    simp
    omega
  unfold idel at e1 e2 ⊢
  unfold pairsOf at e1 e2 ⊢
  rw [List.map_append, List.map_cons, List.filter_append, List.filter_cons_of_neg (by simp), e1, e2, List.map_append]
/-- one wait has gone -/
theorem SC.gone {pre post : List (Nat × WT)} {q : Nat} {x : WT} (h : SC w p b life given (pre ++ (q, x) :: post)) (hm : MapI ptrK w' b given.toNat (idel (pairsOf (pre ++ (q, x) :: post)) x.req)) (hk : ∀ n, n < w.heap.size → n ≠ b → w'.heap[n]? = w.heap[n]?) : SC w' p b life given (pre ++ post) := by
  have sub : ∀ m, m ∈ pre ++ post → m ∈ pre ++ (q, x) :: post := fun m hm => by
    rcases List.mem_append.1 hm with hm | hm
    · exact List.mem_append_left _ hm
    · exact List.mem_append_right _ (List.mem_cons_of_mem _ hm)
  have sl : (pre ++ post).Sublist (pre ++ (q, x) :: post) := List.Sublist.append_left (List.sublist_cons_self _ _) _
  rw [rise_out h.rise] at hm
  refine ⟨(hk p h.ltp h.pb).trans h.obj, hm, fun m hm => (hk m.1 (h.ltm (sub m hm)) (h.mb (sub m hm))).trans (h.here m (sub m hm)), (sl.map _).nodup h.nod, h.rise.sublist (sl.map _), fun m hm => h.num m (sub m hm), h.lif, h.giv, ?_⟩
  exact Nat.le_trans sl.length_le h.few
end
end Go.Proofs.Ytclfhidapkoiiab
