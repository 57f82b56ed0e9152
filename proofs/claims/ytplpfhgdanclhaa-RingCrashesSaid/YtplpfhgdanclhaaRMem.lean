/-
  What lies in memory, by sets of blocks: bytes, pieces, lists of bytes. No statement is proved here. No condition.
-/
import Derived.Test.YtplpfhgdanclhaaRSector
import Derived.ChangeKeysEq
namespace Go.Proofs.Ytplpfhgdanclhaa
open Go.RowKit

/-- The slice reads as the bytes l, all of them in blocks of N. -/
def RdN (w : World) (N : Nat → Prop) (v : Value) (l : List UInt8) : Prop :=
  ∃ A c, v = .slice A l.length c ∧ l.length ≤ c ∧ c ≤ maxLen ∧ (A = none → c = 0) ∧
    (l ≠ [] → ∃ b o, A = some ⟨b, o, none⟩ ∧ N b ∧ b < w.heap.size ∧ ∀ i x, l[i]? = some x → w.cell? ⟨b, o + i, none⟩ = some (.int .u8 (x.toNat : Int)))
theorem RdN.rd {w : World} {N : Nat → Prop} {v : Value} {l : List UInt8} (h : RdN w N v l) : Rd w w.heap.size v l := by
  obtain ⟨A, c, rfl, h1, h2, h3, h4⟩ := h
  exact ⟨A, c, rfl, h1, h2, h3, fun hn => by obtain ⟨b, o, rfl, _, hb, hc⟩ := h4 hn; exact ⟨b, o, rfl, hb, hc⟩⟩
theorem RdN.kept {w w' : World} {N N' : Nat → Prop} {v : Value} {l : List UInt8} (h : RdN w N v l) (hN : ∀ b, N b → b < w.heap.size → N' b) (hs : w.heap.size ≤ w'.heap.size) (hk : ∀ b, N b → b < w.heap.size → w'.heap[b]? = w.heap[b]?) : RdN w' N' v l := by
  obtain ⟨A, c, rfl, h1, h2, h3, h4⟩ := h
  refine ⟨A, c, rfl, h1, h2, h3, fun hn => ?_⟩
  obtain ⟨b, o, rfl, hb, hs', hc⟩ := h4 hn
  exact ⟨b, o, rfl, hN b hb hs', by omega, fun i x hx => (World.cell?_of_block (a := ⟨b, o + i, none⟩) (hk b hb hs')).trans (hc i x hx)⟩
theorem RdN.mono {w : World} {N N' : Nat → Prop} {v : Value} {l : List UInt8} (h : RdN w N v l) (hN : ∀ b, N b → b < w.heap.size → N' b) : RdN w N' v l := h.kept hN (Nat.le_refl _) fun _ _ _ => rfl
theorem RdN.grow {w w' : World} {N : Nat → Prop} {v : Value} {l : List UInt8} (h : RdN w N v l) (hb : Below w.heap.size w w') : RdN w' N v l := h.kept (fun _ h _ => h) hb.size fun b _ hs => hb.block b hs
theorem Rd.toN {w : World} {B : Nat} {v : Value} {l : List UInt8} (h : Rd w B v l) (hB : B ≤ w.heap.size) : RdN w (fun b => b < B) v l := by
  obtain ⟨A, c, rfl, h1, h2, h3, h4⟩ := h
  exact ⟨A, c, rfl, h1, h2, h3, fun hn => by obtain ⟨b, o, rfl, hb, hc⟩ := h4 hn; exact ⟨b, o, rfl, hb, by omega, hc⟩⟩
theorem RdN.own {w : World} {base : Nat} {e : TypeId} {v : Value} {n : Nat} {l : List UInt8} {N : Nat → Prop} (h : w.ownsRow base e 1 v n (BS l)) (hN : ∀ b, v.ownBlock = some b → N b) : RdN w N v l := by
  have hn : n = l.length := own_count h
  subst hn
  rcases h.2 with ⟨rfl, h0⟩ | ⟨g, cap, cur, rfl, _, hg, hnc, hcm, _, _⟩
  · have : l = [] := List.eq_nil_of_length_eq_zero h0
    subst this
    exact ⟨none, 0, rfl, Nat.le_refl _, by unfold maxLen; omega, fun _ => rfl, fun h => absurd rfl h⟩
  · refine ⟨_, cap, rfl, hnc, hcm, (fun h => by cases h), fun hne => ⟨g, 0, rfl, hN g rfl, (Array.getElem?_eq_some_iff.1 hg).1, fun i x hx => ?_⟩⟩
    have hc := h.cells (g := g) rfl i (.int .u8 (x.toNat : Int)) (by unfold BS; rw [List.getElem?_map, hx]; rfl)
    rw [plus_zero] at hc
    exact hc
theorem RdN.nil (w : World) (N : Nat → Prop) : RdN w N (.slice none 0 0) [] := ⟨none, 0, rfl, Nat.le_refl _, by unfold maxLen; omega, fun _ => rfl, fun h => absurd rfl h⟩

/-- a piece, or none, as a value -/
def PcAt (w : World) (N : Nat → Prop) (o : Option Pc) (x : Value) : Prop := ∃ u, x = (match o with | none => pcv ⟨0, false, []⟩ u | some p => pcv p u) ∧ RdN w N u (match o with | none => [] | some p => p.data)
theorem PcAt.kept {w w' : World} {N N' : Nat → Prop} {o : Option Pc} {x : Value} (h : PcAt w N o x) (hN : ∀ b, N b → b < w.heap.size → N' b) (hs : w.heap.size ≤ w'.heap.size) (hk : ∀ b, N b → b < w.heap.size → w'.heap[b]? = w.heap[b]?) : PcAt w' N' o x := by
  obtain ⟨u, h1, h2⟩ := h
  exact ⟨u, h1, h2.kept hN hs hk⟩

theorem cells_u8 : Try.prog.cellsOf 5 = 1 := by kernel_rfl
theorem plain_u8 : Try.prog.plainKey 5 = true := by kernel_rfl
theorem sec_getD (l : List UInt8) {i : Nat} (hi : i < l.length) : (sec l)[i]? = some (.int .u8 ((l.getD i 0).toNat : Int)) := by
  unfold sec BS
  rw [List.getElem?_toArray, List.getElem?_map, List.getElem?_eq_getElem hi, List.getD_eq_getElem?_getD, List.getElem?_eq_getElem hi]
  rfl
theorem eq_items (l m : List UInt8) (d : Nat) (w : World) : ∀ is : List Nat, (∀ i ∈ is, i < l.length ∧ i < m.length) → (Op.eqItems (d + 1) 5 1 (sec l) (sec m) is).run Try.prog w = .ok (is.all fun i => l.getD i 0 == m.getD i 0) w := by
  intro is
  induction is with
  | nil => intro _; simp [Op.eqItems]
  | cons i is ih =>
    intro h
    have hi := h i (by simp)
    have p1 := run_part_plain (P := Try.prog) w plain_u8 (sec_getD l hi.1)
    have p2 := run_part_plain (P := Try.prog) w plain_u8 (sec_getD m hi.2)
    have p3 := run_equalIn_int (P := Try.prog) w d 5 .u8 .u8 ((l.getD i 0).toNat : Int) ((m.getD i 0).toNat : Int) Try.underlying5
    simp only [Op.eqItems, Sem.run_bind, Nat.mul_one, p1, p2, p3, Result.andThen_ok, List.all_cons]
    have e : (((l.getD i 0).toNat : Int) == ((m.getD i 0).toNat : Int)) = (l.getD i 0 == m.getD i 0) := by
      by_cases hh : l.getD i 0 = m.getD i 0
      · rw [hh]; simp
      · have : (l.getD i 0).toNat ≠ (m.getD i 0).toNat := fun e => hh (UInt8.toNat_inj.1 e)
        rw [show (l.getD i 0 == m.getD i 0) = false by simpa using hh]
        simp only [beq_eq_false_iff_ne, ne_eq]
        omega
    rw [e]
    cases l.getD i 0 == m.getD i 0
    · simp
    · simpa using ih fun j hj => h j (by simp [hj])
theorem all_range (l m : List UInt8) (hl : l.length = 512) (hm : m.length = 512) : ((List.range 512).all fun i => l.getD i 0 == m.getD i 0) = (l == m) := by
  by_cases h : l = m
  · subst h
    rw [beq_self_eq_true]
    exact List.all_eq_true.2 fun i _ => by simp
  · rw [show (l == m) = false by simpa using h]
    apply Bool.eq_false_iff.2
    intro hh
    apply h
    apply List.ext_getElem (by omega)
    intro i h1 h2
    have := eq_of_beq (List.all_eq_true.1 hh i (List.mem_range.2 (by omega)))
    rw [List.getD_eq_getElem?_getD, List.getD_eq_getElem?_getD, List.getElem?_eq_getElem h1, List.getElem?_eq_getElem h2] at this
    exact this
/-- sectors are held against each other -/
theorem run_neq_sec (l m : List UInt8) (hl : l.length = 512) (hm : m.length = 512) (w : World) : (binOp .neq 102 (.agg (sec l)) (.agg (sec m))).run Try.prog w = .ok (.bool (!(l == m))) w := by
  have hi : ∃ i, Try.prog.info? 5 = some i := by
    cases h : Try.prog.info? 5 with
    | none => have := u8_one; rw [h] at this; cases this
    | some i => exact ⟨i, rfl⟩
  obtain ⟨i, hi⟩ := hi
  rw [run_neq_struct, show (10000 : Nat) = 9998 + 1 + 1 from rfl, run_equalIn_array w (9998 + 1) (sec l) (sec m) Try.underlying102 hi, cells_u8, eq_items l m 9998 w _ (fun i hi => by have := List.mem_range.1 hi; omega), all_range l m hl hm]
  rfl
end Go.Proofs.Ytplpfhgdanclhaa
