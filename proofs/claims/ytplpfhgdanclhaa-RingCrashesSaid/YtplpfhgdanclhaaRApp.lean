/-
  append, and where what it makes lies; rows of lists of bytes. No statement is proved here. No condition.
-/
import Derived.Test.YtplpfhgdanclhaaRLookW
namespace Go.Proofs.Ytplpfhgdanclhaa
open Go.RowKit

theorem own_slice {w : World} {base : Nat} {e : TypeId} {size : Nat} {v : Value} {n : Nat} {xs : List Value} (h : w.ownsRow base e size v n xs) : ∃ A c, v = .slice A n c := by
  rcases h.2 with ⟨rfl, h0⟩ | ⟨g, cap, cur, rfl, _⟩
  · subst h0; exact ⟨none, 0, rfl⟩
  · exact ⟨_, cap, rfl⟩

section
variable {P : Program} {w : World}
theorem run_appAt (base : Nat) (t ty e : TypeId) (i : TypeInfo) (z : Value) (size bytes : Nat) (ht : P.underlying t = some (.slice e)) (hi : P.info? e = some i) (hz : i.zero = some z) (hsize : i.size = size) (hby : i.bytes = bytes) (hzs : z.cells.size = size) (hsz : 0 < size)
    (v x : Value) (n : Nat) (xs : List Value) (hown : w.ownsRow base e size v n xs) (m : Nat) (ys : List Value) (hx : RowAt w x m size ys) (h1 : ∀ u ∈ ys, u.oneCell' = true) (h63 : n + m ≤ maxLen) (hbytes : (n + m) * bytes ≤ 140737488355328) (hbase : base ≤ w.heap.size) :
    ∃ A c w', (Builtin.append_ #[t, t] ty #[v, x]).run P w = .ok (.slice A (n + m) c) w' ∧ w'.ownsRow base e size (.slice A (n + m) c) (n + m) (xs ++ ys) ∧ w.grownBy w' v.ownBlock ∧ ((Value.slice A (n + m) c).ownBlock = v.ownBlock ∨ (Value.slice A (n + m) c).ownBlock = some w.heap.size) := by
  obtain ⟨A, c, rfl, hl, hmc, hcm, h3, h4⟩ := hx
  cases A with
  | none =>
    have hc := h3 rfl
    have hm : m = 0 := by omega
    subst hm
    subst hc
    have hys : ys = [] := List.eq_nil_of_length_eq_zero (by omega)
    subst hys
    obtain ⟨A0, c0, rfl⟩ := own_slice hown
    exact ⟨A0, c0, w, run_append_owned_none w base t ty e i size ht hi _ n xs hown, by simpa using hown, ⟨rfl, rfl, rfl, Nat.le_refl _, fun _ _ _ => rfl⟩, .inl rfl⟩
  | some ad =>
    obtain ⟨v', w', hr, k2, k3, _, k5⟩ := run_append_own_at (P := P) w base t ty e i z size bytes ht hi hz hsize hby hzs hsz v n xs hown ad m c ys hl
      (fun j u hj => by
        obtain ⟨b, o, hA, hc⟩ := h4 (by
          rcases Nat.eq_zero_or_pos m with h0 | h0
          · subst h0
            have : ys = [] := List.eq_nil_of_length_eq_zero (by omega)
            subst this
            simp at hj
          · exact h0)
        injection hA with hA
        subst hA
        rw [plus_zero]
        exact hc j u hj) h1 h63 hbytes hbase
    obtain ⟨A0, c0, rfl⟩ := own_slice k2
    exact ⟨A0, c0, w', hr, k2, k3, k5⟩
theorem wpList_appAt {ops : Array Oper} {rest : List Oper} {o : Oper} {a : Act} {Q : Exit → Act → World → Prop} (hgd : o.guard = none) (s x : Operand) (t : TypeId)
    (ho : o.op = .call { callee := .builtin .append, args := #[s, x], argTypes := #[t, t] })
    (base : Nat) (e : TypeId) (i : TypeInfo) (z : Value) (size bytes : Nat) (ht : P.underlying t = some (.slice e)) (hi : P.info? e = some i) (hz : i.zero = some z) (hsize : i.size = size) (hby : i.bytes = bytes) (hzs : z.cells.size = size) (hsz : 0 < size)
    (v y : Value) (n : Nat) (xs : List Value) (m : Nat) (ys : List Value) (hs : a.eval s = v) (hy : a.eval x = y) (hown : w.ownsRow base e size v n xs) (hx : RowAt w y m size ys) (h1 : ∀ u ∈ ys, u.oneCell' = true)
    (h63 : n + m ≤ maxLen) (hbytes : (n + m) * bytes ≤ 140737488355328) (hbase : base ≤ w.heap.size)
    (h : ∀ A c w', w'.ownsRow base e size (.slice A (n + m) c) (n + m) (xs ++ ys) → w.grownBy w' v.ownBlock → ((Value.slice A (n + m) c).ownBlock = v.ownBlock ∨ (Value.slice A (n + m) c).ownBlock = some w.heap.size) → wpList P ops Q rest (a.put o.dst (.slice A (n + m) c)) w') : wpList P ops Q (o :: rest) a w := by
  refine wpList_plain hgd fun K hK => ?_
  obtain ⟨A, c, w', hr, h2, h3, h4⟩ := run_appAt (P := P) (w := w) base t o.type e i z size bytes ht hi hz hsize hby hzs hsz v y n xs hown m ys hx h1 h63 hbytes hbase
  unfold Oper.wp execOp
  simp only [ho, resolve, invoke, builtin, Sem.run_bind, Sem.run_pure, Result.andThen_ok, List.map_toArray, List.map_cons, List.map_nil, hs, hy, hr]
  exact hK _ _ (h A c w' h2 h3 h4)
end
theorem Rd.rowAt {w : World} {B : Nat} {v : Value} {l : List UInt8} (h : Rd w B v l) : RowAt w v l.length 1 (BS l) := by
  obtain ⟨A, c, rfl, h1, h2, h3, h4⟩ := h
  refine ⟨A, c, rfl, by rw [BS_length, Nat.mul_one], h1, h2, h3, fun hn => ?_⟩
  obtain ⟨b, o, rfl, _, hc⟩ := h4 (by intro e; rw [e] at hn; exact absurd hn (Nat.lt_irrefl _))
  refine ⟨b, o, rfl, fun j u hu => ?_⟩
  obtain ⟨x, hx, rfl⟩ := BS_get hu
  exact hc j x hx

/-- cells that read as lists of bytes, all of them in blocks of N -/
def Els (w : World) (N : Nat → Prop) (xs : List Value) (Ls : List (List UInt8)) : Prop := xs.length = Ls.length ∧ ∀ (i : Nat) (l : List UInt8), Ls[i]? = some l → ∃ (A : Option Addr) (n c : Nat), xs[i]? = some (Value.slice A n c) ∧ RdN w N (Value.slice A n c) l
theorem Els.kept {w w' : World} {N N' : Nat → Prop} {xs : List Value} {Ls : List (List UInt8)} (h : Els w N xs Ls) (hN : ∀ b, N b → b < w.heap.size → N' b) (hs : w.heap.size ≤ w'.heap.size) (hk : ∀ b, N b → b < w.heap.size → w'.heap[b]? = w.heap[b]?) : Els w' N' xs Ls :=
  ⟨h.1, fun i l hl => by obtain ⟨A, n, c, h1, h2⟩ := h.2 i l hl; exact ⟨A, n, c, h1, h2.kept hN hs hk⟩⟩
theorem Els.nil (w : World) (N : Nat → Prop) : Els w N [] [] := ⟨rfl, fun i l h => by simp at h⟩
theorem Els.snoc {w : World} {N : Nat → Prop} {xs : List Value} {Ls : List (List UInt8)} (h : Els w N xs Ls) {A : Option Addr} {n c : Nat} {l : List UInt8} (hl : RdN w N (.slice A n c) l) : Els w N (xs ++ [Value.slice A n c]) (Ls ++ [l]) := by
  refine ⟨by simp [h.1], fun i l' hi => ?_⟩
  by_cases hlt : i < Ls.length
  · rw [List.getElem?_append_left hlt] at hi
    rw [List.getElem?_append_left (by rw [h.1]; exact hlt)]
    exact h.2 i l' hi
  · have hil : i = Ls.length := by
      have := (List.getElem?_eq_some_iff.1 hi).1
      simp at this
      omega
    subst hil
    rw [List.getElem?_append_right (Nat.le_refl _), Nat.sub_self] at hi
    rw [List.getElem?_append_right (by rw [h.1]; exact Nat.le_refl _), h.1, Nat.sub_self]
    simp at hi
    subst hi
    exact ⟨A, n, c, rfl, hl⟩
theorem Els.one {w : World} {N : Nat → Prop} {xs : List Value} {Ls : List (List UInt8)} (h : Els w N xs Ls) : ∀ u ∈ xs, u.oneCell' = true := by
  intro u hu
  obtain ⟨i, hi, rfl⟩ := List.getElem_of_mem hu
  obtain ⟨A, n, c, h1, _⟩ := h.2 i (Ls[i]'(by rw [← h.1]; exact hi)) (List.getElem?_eq_getElem _)
  rw [List.getElem?_eq_getElem hi] at h1
  injection h1 with h1
  rw [h1]
  rfl
/-- the slice reads as lists of bytes; its own block in M -/
def LLN (w : World) (M N : Nat → Prop) (v : Value) (Ls : List (List UInt8)) : Prop := ∃ xs, Els w N xs Ls ∧ ∃ (A : Option Addr) (c : Nat), v = Value.slice A Ls.length c ∧ Ls.length ≤ c ∧ c ≤ maxLen ∧ (A = none → c = 0) ∧ (Ls ≠ [] → ∃ b o, A = some ⟨b, o, none⟩ ∧ M b ∧ b < w.heap.size ∧ ∀ (j : Nat) (u : Value), xs[j]? = some u → w.cell? ⟨b, o + j, none⟩ = some u)
theorem LLN.kept {w w' : World} {M N M' N' : Nat → Prop} {v : Value} {Ls : List (List UInt8)} (h : LLN w M N v Ls) (hM : ∀ b, M b → b < w.heap.size → M' b) (hN : ∀ b, N b → b < w.heap.size → N' b) (hs : w.heap.size ≤ w'.heap.size) (hk : ∀ b, (M b ∨ N b) → b < w.heap.size → w'.heap[b]? = w.heap[b]?) : LLN w' M' N' v Ls := by
  obtain ⟨xs, h1, A, c, rfl, h2, h3, h4, h5⟩ := h
  refine ⟨xs, h1.kept hN hs (fun b hb => hk b (.inr hb)), A, c, rfl, h2, h3, h4, fun hn => ?_⟩
  obtain ⟨b, o, rfl, hb, hs', hc⟩ := h5 hn
  exact ⟨b, o, rfl, hM b hb hs', by omega, fun i x hx => (World.cell?_of_block (a := ⟨b, o + i, none⟩) (hk b (.inl hb) hs')).trans (hc i x hx)⟩
theorem LLN.own {w : World} {base : Nat} {v : Value} {n : Nat} {xs : List Value} {Ls : List (List UInt8)} {M N : Nat → Prop} (h : w.ownsRow base 39 1 v n xs) (he : Els w N xs Ls) (hM : ∀ b, v.ownBlock = some b → M b) : LLN w M N v Ls := by
  have hn : n = Ls.length := by have := h.1; have := he.1; omega
  subst hn
  refine ⟨xs, he, ?_⟩
  rcases h.2 with ⟨rfl, h0⟩ | ⟨g, cap, cur, rfl, _, hg, hnc, hcm, _, _⟩
  · exact ⟨none, 0, by rw [h0], by omega, by unfold maxLen; omega, fun _ => rfl, fun hne => absurd (List.eq_nil_of_length_eq_zero h0) hne⟩
  · refine ⟨_, cap, rfl, hnc, hcm, (fun h => by cases h), fun hne => ⟨g, 0, rfl, hM g rfl, (Array.getElem?_eq_some_iff.1 hg).1, fun i x hx => ?_⟩⟩
    have hc := h.cells (g := g) rfl i x hx
    rw [plus_zero] at hc
    exact hc
end Go.Proofs.Ytplpfhgdanclhaa
