/-
  THE PLAIN DISK OF LAYER 3: what lasts, what waits, a fuse; what each call makes of it. No program in sight. No condition.
-/
import Derived.Test.YtplpfhgdanclhaaHeap
namespace Go.Proofs.Ytplpfhgdanclhaa

/-- a disk -/
structure DS where
  lasts : List (List UInt8)
  waits : List (Nat × List UInt8)
  done : Nat
  dead : Bool
  fuse : Option Nat
  keep : List Bool

/-- writes that last, one after the other -/
def setAll (L : List (List UInt8)) (ws : List (Nat × List UInt8)) : List (List UInt8) := ws.foldl (fun L x => L.set x.1 x.2) L
theorem setAll_length (ws : List (Nat × List UInt8)) : ∀ L : List (List UInt8), (setAll L ws).length = L.length := by
  induction ws with
  | nil => intro L; rfl
  | cons x ws ih => intro L; show (setAll (L.set x.1 x.2) ws).length = _; rw [ih, List.length_set]
theorem setAll_snoc (L : List (List UInt8)) (ws : List (Nat × List UInt8)) (x : Nat × List UInt8) : setAll L (ws ++ [x]) = (setAll L ws).set x.1 x.2 := by unfold setAll; rw [List.foldl_append]; rfl
/-- the writes that are kept -/
def keptOf (ws : List (Nat × List UInt8)) (keep : List Bool) : List (Nat × List UInt8) := ((ws.zip keep).filter (·.2)).map (·.1)
/-- what a sector reads as -/
def look (L : List (List UInt8)) (ws : List (Nat × List UInt8)) (i : Nat) : List UInt8 := ws.foldl (fun s x => if x.1 = i then x.2 else s) (L.getD i [])
theorem look_snoc (L : List (List UInt8)) (ws : List (Nat × List UInt8)) (x : Nat × List UInt8) (i : Nat) : look L (ws ++ [x]) i = if x.1 = i then x.2 else look L ws i := by unfold look; rw [List.foldl_append]; rfl

theorem take_snoc {α : Type} {l : List α} {k : Nat} {x : α} (h : l[k]? = some x) : l.take (k + 1) = l.take k ++ [x] := by
  obtain ⟨hk, rfl⟩ := List.getElem?_eq_some_iff.1 h
  rw [List.take_append_getElem]
theorem keptOf_snoc {ws : List (Nat × List UInt8)} {keep : List Bool} {k : Nat} {x : Nat × List UInt8} {b : Bool} (h1 : ws[k]? = some x) (h2 : keep[k]? = some b) :
    keptOf (ws.take (k + 1)) (keep.take (k + 1)) = keptOf (ws.take k) (keep.take k) ++ (if b then [x] else []) := by
  have hk1 := (List.getElem?_eq_some_iff.1 h1).1
  have hk2 := (List.getElem?_eq_some_iff.1 h2).1
  have hz : (ws.take (k + 1)).zip (keep.take (k + 1)) = (ws.take k).zip (keep.take k) ++ [(x, b)] := by
    rw [take_snoc h1, take_snoc h2, List.zip_append (by rw [List.length_take, List.length_take]; omega)]
    rfl
  unfold keptOf
  rw [hz, List.filter_append, List.map_append]
  cases b <;> rfl
theorem keptOf_all (ws : List (Nat × List UInt8)) (keep : List Bool) {k : Nat} (h : k = min ws.length keep.length) : keptOf (ws.take k) (keep.take k) = keptOf ws keep := by
  unfold keptOf
  congr 2
  apply List.ext_getElem?
  intro i
  rw [List.zip_eq_zipWith, List.zip_eq_zipWith, List.getElem?_zipWith, List.getElem?_zipWith, List.getElem?_take, List.getElem?_take]
  by_cases hi : i < k
  · rw [if_pos hi, if_pos hi]
  · rw [if_neg hi, if_neg hi]
    have : ws[i]? = none ∨ keep[i]? = none := by
      rcases Nat.lt_or_ge i ws.length with h1 | h1
      · right; exact List.getElem?_eq_none (by omega)
      · left; exact List.getElem?_eq_none h1
    rcases this with h1 | h1 <;> rw [h1] <;> cases ws[i]? <;> rfl
theorem keptOf_mem {ws : List (Nat × List UInt8)} {keep : List Bool} {x : Nat × List UInt8} (h : x ∈ keptOf ws keep) : x ∈ ws := by
  unfold keptOf at h
  obtain ⟨y, hy, rfl⟩ := List.mem_map.1 h
  exact (List.of_mem_zip (List.mem_filter.1 hy).1).1

/-- the calls -/
def DS.new (n : Nat) : DS := ⟨List.replicate n (List.replicate 512 0), [], 0, false, none, []⟩
def DS.crash (D : DS) (keep : List Bool) : DS := { D with lasts := setAll D.lasts (keptOf D.waits keep), waits := [], dead := true }
def DS.tick (D : DS) : DS := { D with done := D.done + 1, fuse := D.fuse.map (· - 1) }
def DS.flushed (D : DS) : DS := { D with lasts := setAll D.lasts D.waits, waits := [] }
def DS.wrote (D : DS) (i : Nat) (b : List UInt8) : DS := { D with waits := D.waits ++ [(i, b)] }
def inside (D : DS) (i : Int) : Bool := decide (0 ≤ i) && decide (i < (D.lasts.length : Int))
def DS.read (D : DS) (i : Int) : Int × List UInt8 := if D.dead then (20, []) else if inside D i then (0, look D.lasts D.waits i.toNat) else (1, [])
def DS.write (D : DS) (i : Int) (b : List UInt8) : Int × DS :=
  if D.dead then (20, D) else if inside D i && decide (b.length = 512) then (if D.fuse = some 0 then (20, (D.wrote i.toNat b).crash D.keep) else (0, (D.wrote i.toNat b).tick)) else (1, D)
def DS.flush (D : DS) : Int × DS := if D.dead then (20, D) else if D.fuse = some 0 then (20, D.crash D.keep) else (0, D.tick.flushed)
def DS.crashed (D : DS) (keep : List Bool) : Int × DS := if D.dead then (20, D) else (0, D.crash keep)
def DS.lit (D : DS) (k : Int) (keep : List Bool) : Int × DS := if D.dead then (20, D) else if k < 0 then (1, D) else (0, { D with fuse := some k.toNat, keep := keep })
def DS.again (D : DS) : DS := ⟨D.lasts, [], 0, false, none, []⟩

/-- what holds of each disk: writes that wait lie within it; sectors are whole -/
def DS.ok (D : DS) : Prop := (∀ x ∈ D.waits, x.1 < D.lasts.length ∧ x.2.length = 512) ∧ (∀ s ∈ D.lasts, s.length = 512)
theorem setAll_whole (ws : List (Nat × List UInt8)) : ∀ L : List (List UInt8), (∀ s ∈ L, s.length = 512) → (∀ x ∈ ws, x.2.length = 512) → ∀ s ∈ setAll L ws, s.length = 512 := by
  induction ws with
  | nil => intro L h _; exact h
  | cons x ws ih =>
    intro L h hx
    refine ih _ (fun s hs => ?_) (fun y hy => hx y (by simp [hy]))
    rcases List.mem_or_eq_of_mem_set hs with h1 | h1
    · exact h s h1
    · rw [h1]; exact hx x (by simp)
theorem DS.ok_new (n : Nat) : (DS.new n).ok := ⟨fun _ h => absurd h List.not_mem_nil, fun _ h => (congrArg List.length (List.mem_replicate.1 h).2).trans List.length_replicate⟩
theorem DS.ok_crash {D : DS} (h : D.ok) (keep : List Bool) : (D.crash keep).ok := ⟨fun x hx => by simp [DS.crash] at hx, setAll_whole _ _ h.2 fun x hx => (h.1 x (keptOf_mem hx)).2⟩
theorem DS.ok_flushed {D : DS} (h : D.ok) : D.flushed.ok := ⟨fun x hx => by simp [DS.flushed] at hx, setAll_whole _ _ h.2 fun x hx => (h.1 x hx).2⟩
theorem DS.ok_tick {D : DS} (h : D.ok) : D.tick.ok := h
theorem DS.ok_wrote {D : DS} (h : D.ok) {i : Nat} {b : List UInt8} (hi : i < D.lasts.length) (hb : b.length = 512) : (D.wrote i b).ok := ⟨fun x hx => by
  rcases List.mem_append.1 hx with h1 | h1
  · exact h.1 x h1
  · simp at h1
    subst h1
    exact ⟨hi, hb⟩, h.2⟩
end Go.Proofs.Ytplpfhgdanclhaa
