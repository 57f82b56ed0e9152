/-
  Maps keyed by numbers, beside lists of pairs. No statement is proved here. No condition.
-/
import Derived.Test.YtblbcoknefgcaaaRecs
import Derived.Maps.OwnSet
import Derived.Maps.Views
import Derived.Lib.SlKeysI
namespace Go.Proofs.Ytblbcoknefgcaaa
open Go.RowKit Go.Maps

theorem int_key : Keyed Try.prog 3 := int_keyed Try.underlying3
/-- a number that the machine has -/
def I6 (k : Int) : Prop := (Lit.int .i64 k).wf = true
theorem i6_of {k : Int} (h1 : -9223372036854775808 ≤ k) (h2 : k ≤ 9223372036854775807) : I6 k := by
  have e1 : IntKind.i64.min = -9223372036854775808 := rfl
  have e2 : IntKind.i64.max = 9223372036854775807 := rfl
  simp [I6, Lit.wf, e1, e2]
  omega
theorem i6_range {k : Int} (h : I6 k) : -9223372036854775808 ≤ k ∧ k ≤ 9223372036854775807 := by
  have e1 : IntKind.i64.min = -9223372036854775808 := rfl
  have e2 : IntKind.i64.max = 9223372036854775807 := rfl
  simp [I6, Lit.wf, e1, e2] at h
  exact h
theorem key_i {k : Int} (h : I6 k) : keyOf Try.prog 3 (.int .i64 k) = some (.int .i64 k) := keyOf_int_mk Try.underlying3 h
theorem lit_ne {a b : Int} (h : a ≠ b) : Lit.int .i64 a ≠ Lit.int .i64 b := fun e => h (by injection e)
/-- a kind of values in a map -/
structure MK (V : Type) where
  val : V → Value
  enc : V → DataW Unit
  rd : Value → Option (DataW Unit × List MemPlace)
  reads : ∀ x, rd (val x) = some (enc x, [])
  inv : ∀ v x ps, rd v = some (enc x, ps) → v = val x
  zero : V
  t : TypeId
  e : TypeId
  under : Try.prog.underlying t = some (.map 3 e)
  zeroed : ∀ W : World, (zeroValue e).run Try.prog W = .ok (val zero) W
section
variable {V : Type}
def ifind (A : List (Int × V)) (k : Int) : Option V := (A.find? fun x => decide (x.1 = k)).map (·.2)
def iput (A : List (Int × V)) (k : Int) (v : V) : List (Int × V) := if (ifind A k).isSome = true then A.map (fun x => if x.1 = k then (k, v) else x) else A ++ [(k, v)]
def idel (A : List (Int × V)) (k : Int) : List (Int × V) := A.filter fun x => !decide (x.1 = k)
theorem ifind_none {A : List (Int × V)} {k : Int} : ifind A k = none ↔ ∀ x ∈ A, x.1 ≠ k := by
  unfold ifind
  rw [Option.map_eq_none_iff, List.find?_eq_none]
  simp
theorem ifind_mem {A : List (Int × V)} {k : Int} {v : V} (h : ifind A k = some v) : (k, v) ∈ A := by
  unfold ifind at h
  obtain ⟨x, hx, rfl⟩ := Option.map_eq_some_iff.1 h
  have h1 := List.find?_some hx
  have h2 := List.mem_of_find?_eq_some hx
  simp at h1
  rw [← h1]
  exact h2
theorem ifind_some {A : List (Int × V)} (hn : (A.map (·.1)).Nodup) {k : Int} {v : V} (h : (k, v) ∈ A) : ifind A k = some v := by
  induction A with
  | nil => cases h
  | cons a A ih =>
    rw [List.map_cons, List.nodup_cons] at hn
    unfold ifind
    rcases List.mem_cons.1 h with rfl | h
    · simp
    · have hne : a.1 ≠ k := fun e => hn.1 (List.mem_map.2 ⟨_, h, e.symm⟩)
      rw [List.find?_cons_of_neg (by simpa using hne)]
      exact ih hn.2 h
theorem ifind_snoc {A : List (Int × V)} {k j : Int} {v : V} (h : ifind A k = none) : ifind (A ++ [(k, v)]) j = if k = j then some v else ifind A j := by
  unfold ifind at *
  rw [List.find?_append]
  by_cases hj : k = j
  · subst hj
    rw [if_pos rfl]
    have : A.find? (fun x => decide (x.1 = k)) = none := by simpa using h
    rw [this]
    simp
  · rw [if_neg hj]
    have e : [(k, v)].find? (fun x => decide (x.1 = j)) = none := by simp [hj]
    rw [e]
    cases A.find? (fun x => decide (x.1 = j)) <;> rfl
theorem ifind_set {A : List (Int × V)} {k j : Int} {v : V} (h : (ifind A k).isSome = true) : ifind (A.map (fun x => if x.1 = k then (k, v) else x)) j = if k = j then some v else ifind A j := by
  induction A with
  | nil => cases h
  | cons a A ih =>
    rw [List.map_cons]
    by_cases ha : a.1 = k
    · rw [if_pos ha]
      by_cases hj : k = j
      · simp [ifind, hj]
      · rw [if_neg hj]
        have e1 : a.1 ≠ j := fun e => hj (ha.symm.trans e)
        unfold ifind
        rw [List.find?_cons_of_neg (by simpa using hj), List.find?_cons_of_neg (by simpa using e1)]
        have : (A.map (fun x => if x.1 = k then (k, v) else x)).find? (fun x => decide (x.1 = j)) = A.find? (fun x => decide (x.1 = j)) := by
          clear ih h
          induction A with
          | nil => rfl
          | cons b A ih2 =>
            rw [List.map_cons]
            by_cases hb : b.1 = k
            · rw [if_pos hb, List.find?_cons_of_neg (by simpa using hj), List.find?_cons_of_neg (by simpa using fun e => hj (hb.symm.trans e)), ih2]
            · rw [if_neg hb]
              by_cases hbj : b.1 = j
              · rw [List.find?_cons_of_pos (by simpa using hbj), List.find?_cons_of_pos (by simpa using hbj)]
              · rw [List.find?_cons_of_neg (by simpa using hbj), List.find?_cons_of_neg (by simpa using hbj), ih2]
        rw [this]
    · rw [if_neg ha]
      have h' : (ifind A k).isSome = true := by
        unfold ifind at h ⊢
        rwa [List.find?_cons_of_neg (by simpa using ha)] at h
      by_cases haj : a.1 = j
      · have : k ≠ j := fun e => ha (haj.trans e.symm)
        rw [if_neg this]
        simp [ifind, haj]
      · have e1 := ih h'
        unfold ifind at e1 ⊢
        rw [List.find?_cons_of_neg (by simpa using haj), List.find?_cons_of_neg (by simpa using haj)]
        exact e1
theorem ifind_put {A : List (Int × V)} {k j : Int} {v : V} : ifind (iput A k v) j = if k = j then some v else ifind A j := by
  unfold iput
  split
  · rename_i h
    exact ifind_set h
  · rename_i h
    exact ifind_snoc (by simpa using h)
theorem ifind_del {A : List (Int × V)} {k j : Int} : ifind (idel A k) j = if k = j then none else ifind A j := by
  unfold ifind idel
  by_cases hj : k = j
  · subst hj
    rw [if_pos rfl]
    have : (A.filter fun x => !decide (x.1 = k)).find? (fun x => decide (x.1 = k)) = none := by
      rw [List.find?_eq_none]
      intro x hx
      simpa using (List.mem_filter.1 hx).2
    rw [this]
    rfl
  · rw [if_neg hj, List.find?_filter]
    congr 2
    funext x
    by_cases hx : x.1 = j
    · simp [hx, Ne.symm hj]
    · simp [hx]
theorem keys_set {A : List (Int × V)} {k : Int} {v : V} : (A.map (fun x => if x.1 = k then (k, v) else x)).map (·.1) = A.map (·.1) := by
  rw [List.map_map]
  apply List.map_congr_left
  intro x _
  by_cases hx : x.1 = k
  · simp [hx]
  · simp [hx]
theorem nodup_put {A : List (Int × V)} (h : (A.map (·.1)).Nodup) (k : Int) (v : V) : ((iput A k v).map (·.1)).Nodup := by
  unfold iput
  split
  · rw [keys_set]
    exact h
  · rename_i hf
    have hf : ifind A k = none := by simpa using hf
    rw [List.map_append, List.nodup_append]
    refine ⟨h, by simp, fun a ha b hb => ?_⟩
    simp at hb
    subst hb
    obtain ⟨x, hx, rfl⟩ := List.mem_map.1 ha
    exact ifind_none.1 hf x hx
theorem nodup_del {A : List (Int × V)} (h : (A.map (·.1)).Nodup) (k : Int) : ((idel A k).map (·.1)).Nodup := (List.filter_sublist.map _).nodup h
theorem mem_put {A : List (Int × V)} {k : Int} {v : V} {x : Int × V} (h : x ∈ iput A k v) : x = (k, v) ∨ x ∈ A := by
  unfold iput at h
  split at h
  · obtain ⟨y, hy, rfl⟩ := List.mem_map.1 h
    by_cases hk : y.1 = k
    · rw [if_pos hk]; exact .inl rfl
    · rw [if_neg hk]; exact .inr hy
  · rcases List.mem_append.1 h with h | h
    · exact .inr h
    · exact .inl (List.mem_singleton.1 h)
theorem length_put (A : List (Int × V)) (k : Int) (v : V) : (iput A k v).length = if (ifind A k).isSome = true then A.length else A.length + 1 := by
  unfold iput
  split <;> simp
theorem length_del {A : List (Int × V)} (h : (A.map (·.1)).Nodup) (k : Int) : (idel A k).length + (if (ifind A k).isSome = true then 1 else 0) = A.length := by
  unfold idel
  induction A with
  | nil => rfl
  | cons a A ih =>
    rw [List.map_cons, List.nodup_cons] at h
    have ih := ih h.2
    by_cases ha : a.1 = k
    · have hf : A.filter (fun x => !decide (x.1 = k)) = A := by
        rw [List.filter_eq_self]
        intro x hx
        have : x.1 ≠ k := fun e => h.1 (List.mem_map.2 ⟨x, hx, e.trans ha.symm⟩)
        simpa using this
      rw [List.filter_cons_of_neg (by simpa using ha), hf]
      simp [ifind, ha]
    · rw [List.filter_cons_of_pos (by simpa using ha)]
      have e : ifind (a :: A) k = ifind A k := by
        unfold ifind
        rw [List.find?_cons_of_neg (by simpa using ha)]
      rw [e, List.length_cons, List.length_cons]
      omega
variable (K : MK V)
/-- block b is the map of a list's pairs -/
structure MapI (w : World) (b n : Nat) (A : List (Int × V)) : Prop where
  nodup : (A.map (·.1)).Nodup
  wf : ∀ x ∈ A, I6 x.1
  own : ∃ D : DataW Unit, w.ownsMap Try.prog 3 K.rd b n D ∧ (∀ k, has D (.int .i64 k) = (ifind A k).isSome) ∧ (∀ k v z, ifind A k = some v → D.atKey (.int .i64 k) z = K.enc v) ∧ size D = A.length
variable {K} {w w' : World} {b n : Nat} {A : List (Int × V)}
theorem MapI.made (w : World) : MapI K (w.alloc (.map #[] 0)) w.heap.size 0 [] := ⟨by simp, by simp, _, World.ownsMap_made w _ _ _, fun _ => rfl, (fun _ _ _ h => by cases h), rfl⟩
theorem MapI.lt (h : MapI K w b n A) : b < w.heap.size := by obtain ⟨D, h, _⟩ := h.own; exact h.lt
theorem MapI.same (h : MapI K w b n A) (hk : w'.heap[b]? = w.heap[b]?) : MapI K w' b n A := by
  obtain ⟨h0, h1, D, ⟨es, clock, hb, F, hs, hD⟩, h2⟩ := h
  exact ⟨h0, h1, D, ⟨es, clock, hk.trans hb, F, hs, hD⟩, h2⟩
theorem MapI.mono {m : Nat} (h : MapI K w b n A) (hm : n ≤ m) : MapI K w b m A := by
  obtain ⟨h0, h1, D, h2, h3⟩ := h
  exact ⟨h0, h1, D, h2.mono hm, h3⟩
theorem MapI.is_map (h : MapI K w b n A) : ∃ es clock, w.heap[b]? = some (.map es clock) := by
  obtain ⟨-, -, D, ⟨es, clock, hb, -⟩, -⟩ := h
  exact ⟨es, clock, hb⟩
theorem MapI.look (h : MapI K w b n A) {k : Int} (hk : I6 k) : (Instr.lookup K.t (.map (some b)) (.int .i64 k) false).run Try.prog w = .ok (K.val ((ifind A k).getD K.zero)) w := by
  obtain ⟨-, -, D, h1, h2, h3, -⟩ := h
  obtain ⟨v, ps, hr, hv⟩ := h1.lookup (t := K.t) (e := K.e) int_key K.under (K.zeroed w) (zd := K.enc K.zero) (zp := []) (K.reads _) (key_i hk)
  rw [hr]
  cases hf : ifind A k with
  | none =>
    have hn : has D (.int .i64 k) = false := by rw [h2 k, hf]; rfl
    rw [atKey_of_not_has hn] at hv
    rw [K.inv _ _ _ hv]
    rfl
  | some p =>
    rw [h3 k p _ hf] at hv
    rw [K.inv _ _ _ hv]
    rfl
theorem MapI.len (h : MapI K w b n A) (ty : TypeId) : (Builtin.len_ #[K.t] ty #[.map (some b)]).run Try.prog w = .ok (.int .i64 (A.length : Int)) w := by
  obtain ⟨-, -, D, h1, -, -, h4⟩ := h
  rw [h1.len K.under ty, h4]
theorem MapI.put (h : MapI K w b n A) {k : Int} (hk : I6 k) (hn : n < maxLen) (v : V) :
    ∃ w', (Instr.mapUpdate K.t (.map (some b)) (.int .i64 k) (K.val v)).run Try.prog w = .ok () w' ∧ MapI K w' b (n + 1) (iput A k v) ∧ w.mapTurned w' b := by
  obtain ⟨g1, g2, D, h1, h2, h3, h4⟩ := h
  obtain ⟨w', hr, ho, ht⟩ := h1.store (t := K.t) (e := K.e) int_key K.under hn (val := K.val v) (d := K.enc v) (ps := []) (key_i hk) (K.reads _)
  refine ⟨w', hr, ⟨nodup_put g1 k v, fun x hx => ?_, _, ho, fun j => ?_, fun j x z hx => ?_, ?_⟩, ht⟩
  · rcases mem_put hx with rfl | hx
    · exact hk
    · exact g2 x hx
  · rw [ifind_put]
    by_cases hj : k = j
    · subst hj
      rw [if_pos rfl, has_put_same h1.isMap (show WideAt.IsKeyLit (.int .i64 k) from trivial)]
      rfl
    · rw [if_neg hj, has_put_other (lit_ne (Ne.symm hj)), h2]
  · rw [ifind_put] at hx
    by_cases hj : k = j
    · subst hj
      rw [if_pos rfl] at hx
      have hx := Option.some.inj hx
      rw [atKey_put_same h1.isMap (show WideAt.IsKeyLit (.int .i64 k) from trivial), hx]
    · rw [if_neg hj] at hx
      rw [atKey_put_other (lit_ne (Ne.symm hj)), h3 j x z hx]
  · rw [size_put (h1.tidy int_key), h2, h4, length_put]
theorem MapI.del (h : MapI K w b n A) {k : Int} (hk : I6 k) (ty : TypeId) :
    ∃ w', (Builtin.delete_ #[K.t, 3] ty #[.map (some b), .int .i64 k]).run Try.prog w = .ok (.tuple #[]) w' ∧ MapI K w' b n (idel A k) ∧ w.mapTurned w' b := by
  obtain ⟨g1, g2, D, h1, h2, h3, h4⟩ := h
  obtain ⟨w', hrn, ho, ht⟩ := h1.drop (t := K.t) (e := K.e) int_key K.under (key_i hk) ty
  refine ⟨w', hrn, ⟨nodup_del g1 k, fun x hx => g2 x (List.mem_filter.1 hx).1, _, ho, fun j => ?_, fun j x z hx => ?_, ?_⟩, ht⟩
  · rw [ifind_del]
    by_cases hj : k = j
    · subst hj
      rw [if_pos rfl, has_del_same]
      rfl
    · rw [if_neg hj, has_del_other (lit_ne (Ne.symm hj)), h2]
  · rw [ifind_del] at hx
    by_cases hj : k = j
    · subst hj
      rw [if_pos rfl] at hx
      cases hx
    · rw [if_neg hj] at hx
      rw [atKey_del_other (lit_ne (Ne.symm hj)), h3 j x z hx]
  · have hs := size_del (k := .int .i64 k) (h1.tidy int_key)
    rw [h2, h4] at hs
    have hl := length_del g1 k
    split at hs <;> rename_i hf <;> simp [hf] at hl <;> omega
/-- the map's keys, in whatever order -/
theorem MapI.perm (h : MapI K w b n A) : ∃ D : DataW Unit, w.ownsMap Try.prog 3 K.rd b n D ∧ (A.map (·.1)).Perm (intKeys D) ∧ size D = A.length := by
  obtain ⟨g1, g2, D, h1, h2, h3, h4⟩ := h
  refine ⟨D, h1, ?_, h4⟩
  obtain ⟨es, hD, hpw, _⟩ := h1.entries int_key
  obtain ⟨es', hD', hko⟩ := h1.keysOf
  obtain rfl : es = es' := by rw [hD] at hD'; simpa using hD'
  subst hD
  refine perm_intKeys hpw (fun p hp => by obtain ⟨v, hv⟩ := hko p hp; obtain ⟨x, _, hx, _⟩ := Maps.keyOf_i64 Try.underlying3 hv; exact ⟨x, hx⟩) g1 (fun x => ?_)
  rw [h2 x]
  constructor
  · intro hx
    obtain ⟨y, hy, rfl⟩ := List.mem_map.1 hx
    rw [ifind_some g1 (show (y.1, y.2) ∈ A from hy)]
    rfl
  · intro hx
    cases hf : ifind A x with
    | none => rw [hf] at hx; cases hx
    | some v => exact List.mem_map.2 ⟨_, ifind_mem hf, rfl⟩
end
/-- rising numbers, in whatever order: sorted they are as they rise -/
theorem sorted_rise {l ss : List Int} (hl : l.Pairwise (· < ·)) (h : ss.Perm l) : ss.mergeSort (fun x y => decide (x ≤ y)) = l := by
  have tr : ∀ a b c : Int, decide (a ≤ b) = true → decide (b ≤ c) = true → decide (a ≤ c) = true := fun a b c h1 h2 => by simp only [decide_eq_true_eq] at *; exact Int.le_trans h1 h2
  have tot : ∀ a b : Int, (decide (a ≤ b) || decide (b ≤ a)) = true := fun a b => by simp only [Bool.or_eq_true, decide_eq_true_eq]; exact Int.le_total a b
  refine List.Perm.eq_of_pairwise (le := fun a b => decide (a ≤ b) = true) (fun a b _ _ h1 h2 => ?_) (List.pairwise_mergeSort tr tot ss) (hl.imp fun h => by simp only [decide_eq_true_eq]; exact Int.le_of_lt h) ((List.mergeSort_perm ss _).trans h)
  simp only [decide_eq_true_eq] at h1 h2
  exact Int.le_antisymm h1 h2
end Go.Proofs.Ytblbcoknefgcaaa
