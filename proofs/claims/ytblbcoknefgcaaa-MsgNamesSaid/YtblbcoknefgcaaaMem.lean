/-
  What is held in memory, said of lists of bytes: a slice of bytes that reads as a list; a slice that the call owns; and the run of the operations on them (string of bytes, append). No statement is proved here: the texts of this seat that prove one import it. No condition.
-/
import Derived.Test.YtblbcoknefgcaaaRows
import Derived.WalkKit
import Derived.WalkSpells
import Derived.WalkLawsBesides
import Derived.Lib.AppendStr
import Derived.Lib.Hide
import Derived.Deep.AppendLies
import Derived.Deep.Onto
import Derived.BigQuiet
import Derived.Deep.QuietTactic
import Derived.Deep.DeepMust
import Derived.Deep.DeepFit
namespace Go.Proofs.Ytblbcoknefgcaaa
open Go.RowKit

/-- The cells of some bytes. -/
def BS (l : List UInt8) : List Value := l.map fun b => .int .u8 (b.toNat : Int)
theorem BS_length (l : List UInt8) : (BS l).length = l.length := by simp [BS]
theorem BS_append (l m : List UInt8) : BS (l ++ m) = BS l ++ BS m := by simp [BS]
theorem BS_one (l : List UInt8) : ∀ u ∈ BS l, u.oneCell' = true := by
  intro u hu
  obtain ⟨b, _, rfl⟩ := List.mem_map.1 hu
  rfl
theorem BS_get {l : List UInt8} {j : Nat} {u : Value} (h : (BS l)[j]? = some u) : ∃ x, l[j]? = some x ∧ u = .int .u8 (x.toNat : Int) := by
  unfold BS at h
  rw [List.getElem?_map] at h
  cases hx : l[j]? with
  | none => rw [hx] at h; cases h
  | some x => rw [hx] at h; exact ⟨x, rfl, by simpa using h.symm⟩

theorem plus_zero (b o i : Nat) : (⟨b, o, none⟩ : Addr).add i = ⟨b, o + i, none⟩ := by unfold Addr.add; split <;> simp_all

/-- The slice value reads as the bytes l, all of them below block B. -/
def Rd (w : World) (B : Nat) (v : Value) (l : List UInt8) : Prop :=
  ∃ A c, v = .slice A l.length c ∧ l.length ≤ c ∧ c ≤ maxLen ∧ (A = none → c = 0) ∧
    (l ≠ [] → ∃ b o, A = some ⟨b, o, none⟩ ∧ b < B ∧ ∀ i x, l[i]? = some x → w.cell? ⟨b, o + i, none⟩ = some (.int .u8 (x.toNat : Int)))

theorem Rd.nil (w : World) (B : Nat) : Rd w B (.slice none 0 0) [] := ⟨none, 0, rfl, Nat.le_refl _, by unfold maxLen; omega, fun _ => rfl, fun h => absurd rfl h⟩

theorem Rd.keep {w w' : World} {B B' : Nat} {v : Value} {l : List UInt8} (h : Rd w B v l) (hB : B ≤ B') (hk : ∀ p : Addr, p.block < B → w'.cell? p = w.cell? p) : Rd w' B' v l := by
  obtain ⟨A, c, rfl, h1, h2, h3, h4⟩ := h
  refine ⟨A, c, rfl, h1, h2, h3, fun hn => ?_⟩
  obtain ⟨b, o, rfl, hb, hc⟩ := h4 hn
  exact ⟨b, o, rfl, by omega, fun i x hx => (hk ⟨b, o + i, none⟩ hb).trans (hc i x hx)⟩

theorem Rd.below {w w' : World} {B B' : Nat} {v : Value} {l : List UInt8} (h : Rd w B v l) (hb : Below B w w') (hB : B ≤ B') : Rd w' B' v l := h.keep hB fun _ hp => hb.cell hp

/-- What the call owns reads as its bytes. -/
theorem Rd.own {w : World} {base : Nat} {e : TypeId} {v : Value} {n : Nat} {l : List UInt8} (h : w.ownsRow base e 1 v n (BS l)) : Rd w w.heap.size v l := by
  have hn : n = l.length := by have := h.1; rw [BS_length] at this; omega
  subst hn
  rcases h.2 with ⟨rfl, h0⟩ | ⟨g, cap, cur, rfl, _, hg, hnc, hcm, _, _⟩
  · have : l = [] := List.eq_nil_of_length_eq_zero h0
    subst this
    exact Rd.nil _ _
  · refine ⟨_, cap, rfl, hnc, hcm, (fun h => by cases h), fun hne => ⟨g, 0, rfl, (Array.getElem?_eq_some_iff.1 hg).1, fun i x hx => ?_⟩⟩
    have hc := h.cells (g := g) rfl i (.int .u8 (x.toNat : Int)) (by unfold BS; rw [List.getElem?_map, hx]; rfl)
    rw [plus_zero] at hc
    exact hc

theorem own_count {w : World} {base : Nat} {e : TypeId} {v : Value} {n : Nat} {l : List UInt8} (h : w.ownsRow base e 1 v n (BS l)) : n = l.length := by have := h.1; rw [BS_length] at this; omega
theorem own_as {w : World} {base : Nat} {e : TypeId} {v : Value} {n m : Nat} {l l' : List UInt8} (h : w.ownsRow base e 1 v n (BS l)) (hl : l = l') (hm : m = l'.length) : w.ownsRow base e 1 v m (BS l') := by
  have := own_count h
  subst hl
  subst hm
  subst this
  exact h

/-- string(b) -/
theorem run_str {P : Program} {w : World} {B : Nat} {v : Value} {l : List UInt8} (t e s : TypeId) (ht : P.underlying t = some (.slice e)) (he : P.underlying e = some (.int .u8)) (hs : P.underlying s = some .string)
    (h : Rd w B v l) : (convert t s v).run P w = .ok (.string ⟨l.toArray⟩) w := by
  obtain ⟨A, c, rfl, _, _, _, h4⟩ := h
  cases A with
  | none =>
    have : l = [] := by
      apply Classical.byContradiction
      intro hn
      obtain ⟨b, o, hA, _⟩ := h4 hn
      cases hA
    subst this
    exact run_convert_bytes_nil w t e ht he _ _ s hs
  | some ad =>
    refine run_convert_bytes_back w t s e ad c l ht he hs fun j hj => ?_
    obtain ⟨b, o, hA, _, hc⟩ := h4 (fun hl => by subst hl; exact absurd hj (Nat.not_lt_zero _))
    injection hA with hA
    subst hA
    rw [plus_zero]
    exact hc j _ (List.getElem?_eq_getElem hj)

section
variable {P : Program} {w : World}

/-- append(v, x...): v the call's own, x any slice that reads as bytes -/
theorem run_app (base : Nat) (t ty e : TypeId) (i : TypeInfo) (ht : P.underlying t = some (.slice e)) (hi : P.info? e = some i) (hz : i.zero = some (.int .u8 0))
    (hsize : i.size = 1) (hby : i.bytes = 1) (v x : Value) (l m : List UInt8) (n : Nat) (hown : w.ownsRow base e 1 v n (BS l)) (B : Nat) (hx : Rd w B x m)
    (hbytes : l.length + m.length ≤ 140737488355328) (hbase : base ≤ w.heap.size) :
    ∃ v' w', (Builtin.append_ #[t, t] ty #[v, x]).run P w = .ok v' w' ∧ w'.ownsRow base e 1 v' (n + m.length) (BS (l ++ m)) ∧ w.grownBy w' v.ownBlock := by
  have hn : n = l.length := by have := hown.1; rw [BS_length] at this; omega
  obtain ⟨A, c, rfl, _, _, h3, h4⟩ := hx
  cases A with
  | none =>
    have : m = [] := by
      apply Classical.byContradiction
      intro hne
      obtain ⟨b, o, hA, _⟩ := h4 hne
      cases hA
    subst this
    have hc := h3 rfl
    subst hc
    exact ⟨v, w, run_append_owned_none w base t ty e i 1 ht hi v n (BS l) hown, by simpa using hown, ⟨rfl, rfl, rfl, Nat.le_refl _, fun _ _ _ => rfl⟩⟩
  | some ad =>
    obtain ⟨v', w', h1, h2, h3, _⟩ := run_append_own (P := P) w base t ty e i (.int .u8 0) 1 1 ht hi hz hsize hby rfl (by decide) v n (BS l) hown ad m.length c (BS m) (by simp [BS_length])
      (fun j u hj => by
        obtain ⟨y, hy, rfl⟩ := BS_get hj
        obtain ⟨b, o, hA, _, hc⟩ := h4 (fun hl => by subst hl; simp at hy)
        injection hA with hA
        subst hA
        rw [plus_zero]
        exact hc j y hy) (BS_one m) (by unfold maxLen; omega) (by omega) hbase
    exact ⟨v', w', h1, by rw [BS_append]; exact h2, h3⟩

theorem wpList_app {ops : Array Oper} {rest : List Oper} {o : Oper} {a : Act} {Q : Exit → Act → World → Prop} (hgd : o.guard = none) (s x : Operand) (t : TypeId)
    (ho : o.op = .call { callee := .builtin .append, args := #[s, x], argTypes := #[t, t] })
    (base : Nat) (e : TypeId) (i : TypeInfo) (ht : P.underlying t = some (.slice e)) (hi : P.info? e = some i) (hz : i.zero = some (.int .u8 0)) (hsize : i.size = 1) (hby : i.bytes = 1)
    (v y : Value) (l m : List UInt8) (n : Nat) (hs : a.eval s = v) (hy : a.eval x = y) (hown : w.ownsRow base e 1 v n (BS l)) (B : Nat) (hx : Rd w B y m)
    (hbytes : l.length + m.length ≤ 140737488355328) (hbase : base ≤ w.heap.size)
    (h : ∀ v' w', w'.ownsRow base e 1 v' (n + m.length) (BS (l ++ m)) → w.grownBy w' v.ownBlock → wpList P ops Q rest (a.put o.dst v') w') : wpList P ops Q (o :: rest) a w := by
  refine wpList_plain hgd fun K hK => ?_
  obtain ⟨v', w', hr, h2, h3⟩ := run_app (P := P) (w := w) base t o.type e i ht hi hz hsize hby v y l m n hown B hx hbytes hbase
  unfold Oper.wp execOp
  simp only [ho, resolve, invoke, builtin, Sem.run_bind, Sem.run_pure, Result.andThen_ok, List.map_toArray, List.map_cons, List.map_nil, hs, hy, hr]
  exact hK _ _ (h v' w' h2 h3)
end

/-- a new block of one byte's cell reads as that byte -/
theorem Rd.lit1 (w : World) (e : TypeId) (x : UInt8) : Rd (w.alloc (.cells #[.int .u8 (x.toNat : Int)] e)) (w.heap.size + 1) (.slice (some ⟨w.heap.size, 0, none⟩) 1 1) [x] :=
  ⟨_, 1, rfl, Nat.le_refl _, by unfold maxLen; omega, (fun h => by cases h), fun _ => ⟨w.heap.size, 0, rfl, by omega, fun i y hy => by
    have hi : i = 0 := by
      cases i with
      | zero => rfl
      | succ k => simp at hy
    subst hi
    simp at hy
    subst hy
    exact cell_one_new _ _ _ 0 _ rfl⟩⟩
theorem Rd.lit (w : World) (e : TypeId) (n : Int) (x : UInt8) (h : n = (x.toNat : Int)) : Rd (w.alloc (.cells #[.int .u8 n] e)) (w.heap.size + 1) (.slice (some ⟨w.heap.size, 0, none⟩) 1 1) [x] := by
  subst h
  exact Rd.lit1 w e x

theorem ret_int {k : IntKind} {a b : Int} (h : a = b) : Ending.returned (.int k a) = .returned (.int k b) := by rw [h]
theorem ret_pair {k : IntKind} {a b : Int} {t : Bool} (h : a = b) : Ending.returned (.tuple #[.int k a, .bool t]) = .returned (.tuple #[.int k b, .bool t]) := by rw [h]
end Go.Proofs.Ytblbcoknefgcaaa
