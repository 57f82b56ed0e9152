/-
  A list's numbers that others have not, each once: the program's map, its closure. No statement is proved here. No condition.
-/
import Derived.Test.YtblbcoknefgcaaaBScan
import Derived.Test.YtblbcoknefgcaaaUMap
namespace Go.Proofs.Ytblbcoknefgcaaa
open Go.RowKit Go.Maps

/-- nothing, in a map -/
def Ru : Value → Option (DataW Unit × List MemPlace)
  | .agg a => if a.size = 0 then some (.nil, []) else none
  | _ => none
def unitK : MK Unit where
  val _ := .agg #[]
  enc _ := .nil
  rd := Ru
  reads _ := rfl
  inv v x ps h := by
    unfold Ru at h
    split at h
    · rename_i a
      split at h
      · rename_i h0
        rw [Array.eq_empty_of_size_eq_zero h0]
      · cases h
    · cases h
  zero := ()
  t := 162
  e := 163
  under := Try.underlying162
  zeroed W := by kernel_rfl
theorem MapI.turned {V : Type} {K : MK V} {w w' : World} {b n g : Nat} {A : List (Int × V)} (h : MapI K w b n A) (ht : w.mapTurned w' g) (hne : b ≠ g) : MapI K w' b n A := h.same (ht.grown.block b h.lt fun e => hne (Option.some.inj e))
/-- what is counted so far, and what is left so far -/
structure WO (w wr : World) (p b n : Nat) (A : List (Int × Unit)) (v : Value) (r : List Int) : Prop where
  bel : Below w.heap.size w wr
  box : wr.heap[p]? = some (.cells #[.map (some b)] 162 (0, 0))
  map : MapI unitK wr b n A
  row : inR.Own wr w.heap.size 3 v r
  pB : w.heap.size ≤ p
  bB : w.heap.size ≤ b
section
variable {w wr : World} {p b n : Nat} {A : List (Int × Unit)} {v : Value} {r : List Int}
theorem WO.pb (h : WO w wr p b n A v r) : p ≠ b := by
  rintro rfl
  obtain ⟨es, c, hm⟩ := h.map.is_map
  rw [h.box] at hm
  cases hm
theorem WO.far (h : WO w wr p b n A v r) {q : Nat} (hq : v.ownBlock = some q) : q ≠ b ∧ q ≠ p := by
  obtain ⟨cur, hc⟩ := row_type h.row hq
  constructor
  · rintro rfl
    obtain ⟨es, c, hm⟩ := h.map.is_map
    rw [hc] at hm
    cases hm
  · rintro rfl
    rw [h.box] at hc
    injection hc with hc
    injection hc with _ hc
    exact absurd hc (by decide)
/-- one number more is counted -/
theorem WO.count {w' : World} {k : Int} (h : WO w wr p b n A v r) (hm : MapI unitK w' b (n + 1) (iput A k ())) (ht : wr.mapTurned w' b) : WO w w' p b (n + 1) (iput A k ()) v r := by
  have hg := ht.grown
  have hp : p < wr.heap.size := (Array.getElem?_eq_some_iff.1 h.box).1
  refine ⟨h.bel.grown hg h.bel.size (fun q hq => by have := Option.some.inj hq; rw [← this]; exact h.bB), (hg.block p hp fun e => h.pb (Option.some.inj e)).trans h.box, hm, row_same h.row fun q hq => hg.block q (h.row.lt q hq).2 fun e => (h.far hq).1 (Option.some.inj e), h.pB, h.bB⟩
end
theorem WO.push {w wr : World} {p b n : Nat} {A : List (Int × Unit)} {Av : Option Addr} {c : Nat} {r : List Int} (h : WO w wr p b n A (.slice Av r.length c) r) (x : Int) (hl : r.length ≤ 100000) :
    ∃ A7 c7 w7, (Builtin.append_ #[32, 32] 32 #[.slice Av r.length c, .slice (some ⟨wr.heap.size, 0, none⟩) 1 1]).run Try.prog (wr.alloc (.cells #[.int .i64 x] 3)) = .ok (.slice A7 (r.length + 1) c7) w7 ∧ WO w w7 p b n A (.slice A7 (r.length + 1) c7) (r ++ [x]) := by
  obtain ⟨A7, c7, w7, hr, ho, hB, hf, hs⟩ := push_int h.row x hl h.bel.size
  have hp : p < wr.heap.size := (Array.getElem?_eq_some_iff.1 h.box).1
  exact ⟨A7, c7, w7, hr, h.bel.trans hB, (hf p hp fun e => (h.far e).2 rfl).trans h.box, h.map.same (hf b h.map.lt fun e => (h.far e).1 rfl), ho, h.pB, h.bB⟩
theorem count_put (A : List (Int × Unit)) (k : Int) : decide (((iput A k ()).length : Int) > (A.length : Int)) = !(ifind A k).isSome := by
  rw [length_put]
  cases hf : (ifind A k).isSome
  · rw [if_neg (by simp)]; simp; omega
  · rw [if_pos rfl]; simp
set_option maxHeartbeats 1000000 in
set_option maxRecDepth 100000 in
theorem counts_any {w wr : World} {p b n : Nat} {A : List (Int × Unit)} {v : Value} {r : List Int} (h : WO w wr p b n A v r) (k : Int) (hk : I6 k) (hn : n ≤ 2000) :
    Calls Try.prog 106 #[.int .i64 k, .pointer (some ⟨p, 0, none⟩)] wr fun e w' => e = .returned (.bool (!(ifind A k).isSome)) ∧ WO w w' p b (n + 1) (iput A k ()) v r := by
  have c0 : wr.cell? ⟨p, 0, none⟩ = some (.map (some b)) := (blk_cells h.box).1 0
  have hlen : (Builtin.len_ #[162] 3 #[.map (some b)]).run Try.prog wr = .ok (.int .i64 (A.length : Int)) wr := h.map.len 3
  obtain ⟨w', hput, hm, ht⟩ := h.map.put hk (by unfold maxLen; omega) ()
  have hput : (Instr.mapUpdate 162 (.map (some b)) (.int .i64 k) (.agg #[])).run Try.prog wr = .ok () w' := hput
  have hW := h.count hm ht
  have hlen2 : (Builtin.len_ #[162] 3 #[.map (some b)]).run Try.prog w' = .ok (.int .i64 ((iput A k ()).length : Int)) w' := hW.map.len 3
  have c1 : w'.cell? ⟨p, 0, none⟩ = some (.map (some b)) := (blk_cells hW.box).1 0
  have hc := count_put A k
  obtain ⟨g, hg⟩ : ∃ g, g = !(ifind A k).isSome := ⟨_, rfl⟩
  rw [← hg] at hc ⊢
  have HC := Lib.hid hc
  have HW := Lib.hid hW
  obtain ⟨m, hm'⟩ : ∃ m : Nat, m = (iput A k ()).length := ⟨_, rfl⟩
  rw [← hm'] at hlen2 HC
  obtain ⟨m0, hm0⟩ : ∃ m : Nat, m = A.length := ⟨_, rfl⟩
  rw [← hm0] at hlen HC
  clear hm ht hW h hc hg hm' hm0
  cases g
  · have HC2 := HC.out
    have hd : ¬ (m : Int) > (m0 : Int) := by simpa using HC2
    clear HC2
    go_enter Try.func106, Try.ntmps106
    go_wp2_with fail
    go_ret
    exact ⟨rfl, HW.out⟩
  · have HC2 := HC.out
    have hd : (m : Int) > (m0 : Int) := by simpa using HC2
    clear HC2
    go_enter Try.func106, Try.ntmps106
    go_wp2_with fail
    go_ret
    exact ⟨rfl, HW.out⟩
theorem has_put {A : List (Int × Unit)} {S : List Int} {k : Int} (h : ∀ x, (ifind A x).isSome = hasI S x) (x : Int) : (ifind (iput A k ()) x).isSome = hasI (S ++ [k]) x := by
  rw [ifind_put]
  by_cases hk : k = x
  · subst hk
    rw [if_pos rfl]
    simp [hasI]
  · rw [if_neg hk, h x]
    have : ¬ x = k := fun e => hk e.symm
    simp [hasI, this]
theorem hasI_app (S r : List Int) (x : Int) : hasI (S ++ r) x = (hasI S x || hasI r x) := by simp [hasI]
end Go.Proofs.Ytblbcoknefgcaaa
