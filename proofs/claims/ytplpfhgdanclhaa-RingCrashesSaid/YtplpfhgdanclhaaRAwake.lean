/-
  The example that every law of package ring asks first. No statement is proved here. No condition.
-/
import Derived.Test.YtplpfhgdanclhaaRCalm
import Derived.Lib.SmallJoins
namespace Go.Proofs.Ytplpfhgdanclhaa
open Go.RowKit

/-- a literal text as bytes -/
theorem lit_bytes (w : World) (C : Array Value) (l : List UInt8) (n : Nat) (h : C.toList = BS l) (hn : n = l.length) (hl : l.length ≤ maxLen) : ∃ w', (convert 39 39 (.slice (some ⟨w.heap.size, 0, none⟩) n n)).run Try.prog (w.alloc (.cells C 5)) = .ok (.slice (some ⟨w.heap.size, 0, none⟩) n n) w' ∧
    RdN w' (fun x => w.heap.size ≤ x) (.slice (some ⟨w.heap.size, 0, none⟩) n n) l ∧ Below w.heap.size w w' := by
  refine ⟨_, Go.Joins.run_convert_bytes_const_at (P := Try.prog) w 39 5 C n n w.heap.size rfl Try.underlying39 Try.underlying5, ?_, (Below.refl _ _).alloc (Nat.le_refl _) _⟩
  subst hn
  refine ⟨_, _, rfl, Nat.le_refl _, hl, (fun h => by cases h), fun _ => ⟨w.heap.size, 0, rfl, Nat.le_refl _, by simp, fun i x hx => ?_⟩⟩
  have h2 : C[i]? = some (.int .u8 (x.toNat : Int)) := by
    rw [← Array.getElem?_toList, h]
    unfold BS
    rw [List.getElem?_map, hx]
    rfl
  rw [Nat.zero_add]
  exact (cell_of_row _ w.heap.size i C _ _ (heap_alloc_new w _)).trans h2
/-- new bytes: noughts -/
theorem made_noughts (n : Nat) (hn : n ≤ 140737488355328) (w : World) : ∃ w', (Instr.makeSlice 39 (.int .i64 (n : Int)) (.int .i64 (n : Int))).run Try.prog w = .ok (.slice (some ⟨w.heap.size, 0, none⟩) n n) w' ∧ w'.ownsRow w.heap.size 5 1 (.slice (some ⟨w.heap.size, 0, none⟩) n n) n (BS (List.replicate n 0)) ∧ Below w.heap.size w w' := made_marks n hn w

theorem fit_putAll {first count : Nat} (W : List Pc) : ∀ {D : DS} {k : Nat}, Fit D k → Fit (D.putAll first count W).2 (k + W.length) := by
  induction W with
  | nil => intro D k h; exact h
  | cons p W ih =>
    intro D k h
    have h1 := h.write ((first + p.n % count : Nat) : Int) p.sec
    rw [DS.putAll, List.length_cons]
    split
    · have := ih h1
      rwa [show k + 1 + W.length = k + (W.length + 1) by omega] at this
    · exact h1.mono (by omega)
theorem fit_append {D : DS} {R : RG} {k : Nat} (h : Fit D k) (rec : List UInt8) : Fit (appendOf D R rec).2.1 (k + pieces rec.length) := by
  have := fit_putAll (first := R.first) (count := R.count) (cut (R.last + 1) rec) h
  rw [cut_length] at this
  unfold appendOf
  split
  · exact h.mono (by omega)
  · split
    · exact this
    · exact this

theorem write_len (D : DS) (i : Int) (b : List UInt8) : (D.write i b).2.lasts.length = D.lasts.length := by
  unfold DS.write
  split
  · rfl
  · split
    · split
      · show (setAll D.lasts _).length = _
        rw [setAll_length]
      · rfl
    · rfl
theorem putAll_len {first count : Nat} (W : List Pc) : ∀ D : DS, (D.putAll first count W).2.lasts.length = D.lasts.length := by
  induction W with
  | nil => intro D; rfl
  | cons p W ih =>
    intro D
    rw [DS.putAll]
    split
    · rw [ih, write_len]
    · rw [write_len]
theorem append_len (D : DS) (R : RG) (rec : List UInt8) : (appendOf D R rec).2.1.lasts.length = D.lasts.length := by
  unfold appendOf
  split
  · rfl
  · split
    · exact putAll_len _ _
    · exact putAll_len _ _

theorem cut_short (n : Nat) {r : List UInt8} (h : r.length ≤ 501) : cut n r = [⟨n, true, r⟩] := by unfold cut; rw [dif_pos h]

def AB : List UInt8 := [97, 98]
def Z502 : List UInt8 := List.replicate 502 0
theorem z502_length : Z502.length = 502 := List.length_replicate
def aR0 : RG := ⟨2, 4, 0, 0, 0⟩
def aR1 : RG := ⟨2, 4, 0, 1, 1⟩
def aR2 : RG := ⟨2, 4, 0, 3, 3⟩
theorem new_blank (n first count base : Nat) (_hn : n ≤ 65536) (hc : 1 ≤ count) (hl : first + count ≤ n) : opened (DS.new n) first count base = ⟨first, count, base, base, base⟩ ∧ inRing (DS.new n) first count base = [] ∧ Calm (DS.new n) ⟨first, count, base, base, base⟩ [] 0 := by
  have hll : (DS.new n).lasts.length = n := by unfold DS.new; rw [List.length_replicate]
  refine blank_calm rfl rfl hc (by rw [hll]; exact hl) rfl fun i hi => ?_
  unfold DS.new
  show (List.replicate n (List.replicate 512 (0 : UInt8))).getD (first + i) [] = _
  rw [List.getD_eq_getElem?_getD, List.getElem?_replicate, if_pos (by omega)]
  rfl
/-- the example's disks -/
theorem awake_disks : ∃ D1 D2, appendOf (DS.new 20) aR0 AB = (0, D1, aR1) ∧ appendOf D1 aR1 Z502 = (0, D2, aR2) ∧ D1.dead = false ∧ D2.dead = false ∧ Fit D1 1 ∧ Fit D2 3 ∧ D2.lasts.length = 20 ∧ opened D2 2 4 0 = aR2 ∧ inRing D2 2 4 0 = [AB, Z502] ∧ D2.read 3 = (0, Pc.sec ⟨1, true, AB⟩) := by
  have k0 := (new_blank 20 2 4 0 (by omega) (by omega) (by omega)).2.2
  have f0 : Fit (DS.new 20) 0 := Fit.new (by omega)
  obtain ⟨D1, e1, k1⟩ := k0.append AB (by decide) (by decide)
  have f1 := fit_append (R := aR0) f0 AB
  have e1' : appendOf (DS.new 20) aR0 AB = (0, D1, aR1) := e1
  rw [e1'] at f1
  obtain ⟨D2, e2, k2⟩ := k1.append Z502 (by show (([] : List Pc) ++ cut 1 AB).length + pieces Z502.length ≤ 4; rw [List.nil_append, cut_length, z502_length]; decide) (by rw [z502_length]; decide)
  have f2 := fit_append (R := aR1) f1 Z502
  have e2' : appendOf D1 aR1 Z502 = (0, D2, aR2) := by
    rw [z502_length] at e2
    exact e2
  rw [e2', z502_length] at f2
  have hl1 : D1.lasts.length = 20 := by
    have := append_len (DS.new 20) aR0 AB
    rw [e1'] at this
    exact this.trans List.length_replicate
  have hl2 : D2.lasts.length = 20 := by
    have := append_len D1 aR1 Z502
    rw [e2'] at this
    exact this.trans hl1
  have ht := k2.told
  have ho := k2.opens
  have hh := k2.rung.whole
  rw [z502_length] at ho
  refine ⟨D1, D2, e1', e2', k1.rung.live, k2.rung.live, f1, f2, hl2, ho, ?_, ?_⟩
  · have ht' : inRing D2 2 4 0 = whole [] (([] ++ cut 1 AB) ++ cut 2 Z502) := ht
    rw [ht', whole_more k1.ended, whole_more ended_nil]
    rfl
  · have hs : (seen D2 2 4).length = 4 := seen_length (by rw [hl2]; decide)
    have hh' : Half (seen D2 2 4) 0 (([] ++ cut 1 AB) ++ cut 2 Z502) (([] ++ cut 1 AB) ++ cut 2 Z502).length := hh
    have hp : (([] ++ cut 1 AB) ++ cut 2 Z502)[0]? = some (Pc.mk 1 true AB) := by rw [List.nil_append, cut_short 1 (by decide)]; rfl
    have hat : pcAt (seen D2 2 4) 1 = some (Pc.mk 1 true AB) := by
      rcases hh'.there 0 _ hp with h | ⟨h, _⟩
      · exact h
      · have := (List.getElem?_eq_some_iff.1 hp).1
        omega
    have hof := pcAt_of hat
    rw [hs] at hof
    have hlook : (seen D2 2 4).getD 1 [] = look D2.lasts D2.waits 3 := seen_get (by rw [hl2]; decide) (by decide)
    have hof' : pcOf (look D2.lasts D2.waits 3) 1 4 = some (Pc.mk 1 true AB) := by rw [← hlook]; exact hof
    have hlen : (look D2.lasts D2.waits 3).length = 512 := look_length f2.ok (by rw [hl2]; decide)
    rw [pcOf_pcIn hlen] at hof'
    have hin := (pcIn_some hlen (Option.filter_eq_some_iff.1 hof').1).2.1
    unfold DS.read inside
    rw [k2.rung.live, hl2, hin]
    rfl
end Go.Proofs.Ytplpfhgdanclhaa
