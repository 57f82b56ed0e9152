/-
  Heap: What a call may touch: sets of blocks; rows of cells that are owned or read. No statement is proved here. No condition.
  DPlain: THE PLAIN DISK OF LAYER 3: what lasts, what waits, a fuse; what each call makes of it. No program in sight. No condition.
  DRef: The document's own disk (butteryref03) in memory, and what each call makes of it. Conditions: none but that it lies in memory and its lists are not too long.
  DRefB: The document's own disk: Write, Flush, Crash, Fuse. Conditions: none but that it lies in memory and its lists are not too long.
  DRefC: The document's own disk: Crash, Read, Flush. Conditions: none but that it lies in memory and its lists are not too long.
  DRefD: The document's own disk: Fuse, Reopen. Conditions: none but that it lies in memory and its lists are not too long.
  DRefE: The document's own disk: New. Conditions: none.
  DFull: The laws' own helper 'full': a new slice of 512 bytes that are all one. No condition.
-/
import Derived.Test.YtlokehekkllbeaaMM
import Derived.WalkKit
import Derived.WalkSpells
import Derived.WalkLawsBesides
import Derived.Lib.Hide
import Derived.Deep.AppendLies
import Derived.Deep.Onto
import Derived.BigQuiet
import Derived.Deep.QuietTactic
import Derived.Deep.DeepMust
import Derived.Deep.DeepFit
import Derived.Deep.DeepCutAuto
import Derived.Deep.RegionWith
import Derived.BigRegion
import Derived.Lib.SmallJoins
import Derived.Laws.MakeOwn
namespace Go.Proofs.Ytlokehekkllbeaa
open Go.RowKit

/-- Of what was there, the blocks of F alone may have turned. -/
structure Kept (w w' : World) (F : Nat → Prop) : Prop where
  os : w'.os = w.os
  tape : w'.tape = w.tape
  output : w'.output = w.output
  size : w.heap.size ≤ w'.heap.size
  block : ∀ b, b < w.heap.size → ¬ F b → w'.heap[b]? = w.heap[b]?

theorem Kept.refl (w : World) (F : Nat → Prop) : Kept w w F := ⟨rfl, rfl, rfl, Nat.le_refl _, fun _ _ _ => rfl⟩
theorem Kept.drew (w : World) (F : Nat → Prop) : Kept w w.drew F := ⟨rfl, rfl, rfl, Nat.le_refl _, fun _ _ _ => rfl⟩
theorem Kept.mono {w w' : World} {F G : Nat → Prop} (h : Kept w w' F) (hFG : ∀ b, b < w.heap.size → F b → G b) : Kept w w' G := ⟨h.os, h.tape, h.output, h.size, fun b hb hG => h.block b hb fun hF => hG (hFG b hb hF)⟩
/-- Two steps: the second may touch what the first may, and what the first has made. -/
theorem Kept.trans {a b c : World} {F G : Nat → Prop} (h : Kept a b F) (k : Kept b c G) (hG : ∀ n, G n → F n ∨ a.heap.size ≤ n) : Kept a c F :=
  ⟨k.os.trans h.os, k.tape.trans h.tape, k.output.trans h.output, Nat.le_trans h.size k.size, fun n hn hF => (k.block n (Nat.lt_of_lt_of_le hn h.size) fun g => by
    rcases hG n g with h1 | h1
    · exact hF h1
    · omega).trans (h.block n hn hF)⟩
theorem Kept.grown {w w' : World} {row : Option Nat} {F : Nat → Prop} (h : w.grownBy w' row) (hF : ∀ b, row = some b → F b) : Kept w w' F := ⟨h.os, h.tape, h.output, h.size, fun b hb hn => h.block b hb fun e => hn (hF b e.symm)⟩
theorem Kept.alloc (w : World) (o : Obj) (F : Nat → Prop) : Kept w (w.alloc o) F := ⟨rfl, rfl, rfl, by simp, fun k hk _ => Below.heap_alloc w o k hk⟩
theorem Kept.setCell (w : World) (p : Addr) (u : Value) (F : Nat → Prop) (h : F p.block) : Kept w (w.setCell p u) F := ⟨rfl, rfl, rfl, by simp [World.setCell], fun k _ hn => Below.heap_setCell w p u k fun e => hn (by rw [e]; exact h)⟩
theorem Kept.below {w w' : World} {F : Nat → Prop} {B : Nat} (h : Kept w w' F) (hB : B ≤ w.heap.size) (hF : ∀ b, F b → B ≤ b) : Below B w w' := ⟨h.os, h.tape, h.output, h.size, fun k hk => h.block k (by omega) fun f => by have := hF k f; omega⟩
theorem Kept.of_below {w w' : World} {B : Nat} (h : Below B w w') : Kept w w' (fun b => B ≤ b) := ⟨h.os, h.tape, h.output, h.size, fun k _ hn => h.block k (by omega)⟩
theorem Kept.cell {w w' : World} {F : Nat → Prop} (h : Kept w w' F) {p : Addr} (hp : p.block < w.heap.size) (hF : ¬ F p.block) : w'.cell? p = w.cell? p := World.cell?_of_block (h.block _ hp hF)

/-- a row that a call owns is kept where its block is -/
theorem row_same {w w' : World} {base : Nat} {e : TypeId} {size : Nat} {v : Value} {n : Nat} {xs : List Value} (h : w.ownsRow base e size v n xs) (hk : ∀ p, v.ownBlock = some p → w'.heap[p]? = w.heap[p]?) : w'.ownsRow base e size v n xs := by
  refine ⟨h.1, ?_⟩
  rcases h.2 with hn | ⟨g, cap, cur, rfl, hb, hg, rest⟩
  · exact .inl hn
  · exact .inr ⟨g, cap, cur, rfl, hb, (hk g rfl).trans hg, rest⟩
/-- the element's type of a row's block -/
theorem row_type {w : World} {base : Nat} {e : TypeId} {size : Nat} {v : Value} {n : Nat} {xs : List Value} (h : w.ownsRow base e size v n xs) {p : Nat} (hp : v.ownBlock = some p) : ∃ cur, w.heap[p]? = some (.cells cur e (0, 0)) := by
  rcases h.2 with ⟨rfl, _⟩ | ⟨g, cap, cur, rfl, hb, hg, rest⟩
  · cases hp
  · injection hp with hp
    subst hp
    exact ⟨cur, hg⟩
/-- two rows of two types lie apart -/
theorem rows_apart {w : World} {b1 b2 : Nat} {e1 e2 : TypeId} {s1 s2 : Nat} {v1 v2 : Value} {n1 n2 : Nat} {x1 x2 : List Value} (h1 : w.ownsRow b1 e1 s1 v1 n1 x1) (h2 : w.ownsRow b2 e2 s2 v2 n2 x2) (hne : e1 ≠ e2) {p q : Nat} (hp : v1.ownBlock = some p) (hq : v2.ownBlock = some q) : p ≠ q := by
  intro e
  subst e
  obtain ⟨c1, k1⟩ := row_type h1 hp
  obtain ⟨c2, k2⟩ := row_type h2 hq
  rw [k1] at k2
  injection k2 with k2
  injection k2 with _ k2
  exact hne k2

/-- a slice that reads as cells -/
def RowAt (w : World) (v : Value) (n size : Nat) (xs : List Value) : Prop :=
  ∃ A c, v = .slice A n c ∧ xs.length = n * size ∧ n ≤ c ∧ c ≤ maxLen ∧ (A = none → c = 0) ∧ (0 < n → ∃ b o, A = some ⟨b, o, none⟩ ∧ ∀ j u, xs[j]? = some u → w.cell? ⟨b, o + j, none⟩ = some u)
theorem RowAt.of_own {w : World} {base : Nat} {e : TypeId} {size : Nat} {v : Value} {n : Nat} {xs : List Value} (h : w.ownsRow base e size v n xs) : RowAt w v n size xs := by
  rcases h.2 with ⟨rfl, h0⟩ | ⟨g, cap, cur, rfl, hb, hg, hnc, hcm, hcs, htake⟩
  · subst h0
    exact ⟨none, 0, rfl, h.1, Nat.le_refl _, by unfold maxLen; omega, fun _ => rfl, fun h => absurd h (Nat.lt_irrefl _)⟩
  · refine ⟨_, cap, rfl, h.1, hnc, hcm, (fun h => by cases h), fun _ => ⟨g, 0, rfl, fun j u hu => ?_⟩⟩
    have := h.cells (g := g) rfl j u hu
    rw [plus_zero] at this
    exact this

section
variable {P : Program} {w : World}
/-- append of a row that reads as cells, as a run -/
theorem run_appG (base : Nat) (t ty e : TypeId) (i : TypeInfo) (z : Value) (size bytes : Nat) (ht : P.underlying t = some (.slice e)) (hi : P.info? e = some i) (hz : i.zero = some z) (hsize : i.size = size) (hby : i.bytes = bytes) (hzs : z.cells.size = size) (hsz : 0 < size)
    (v x : Value) (n : Nat) (xs : List Value) (hown : w.ownsRow base e size v n xs) (m : Nat) (ys : List Value) (hx : RowAt w x m size ys) (h1 : ∀ u ∈ ys, u.oneCell' = true) (h63 : n + m ≤ maxLen) (hbytes : (n + m) * bytes ≤ 140737488355328) (hbase : base ≤ w.heap.size) :
    ∃ v' w', (Builtin.append_ #[t, t] ty #[v, x]).run P w = .ok v' w' ∧ w'.ownsRow base e size v' (n + m) (xs ++ ys) ∧ w.grownBy w' v.ownBlock := by
  obtain ⟨A, c, rfl, hl, hmc, hcm, h3, h4⟩ := hx
  cases A with
  | none =>
    have hc := h3 rfl
    have hm : m = 0 := by omega
    subst hm
    subst hc
    have hys : ys = [] := List.eq_nil_of_length_eq_zero (by omega)
    subst hys
    exact ⟨v, w, run_append_owned_none w base t ty e i size ht hi v n xs hown, by simpa using hown, ⟨rfl, rfl, rfl, Nat.le_refl _, fun _ _ _ => rfl⟩⟩
  | some ad =>
    obtain ⟨v', w', k1, k2, k3, _⟩ := run_append_own (P := P) w base t ty e i z size bytes ht hi hz hsize hby hzs hsz v n xs hown ad m c ys hl
      (fun j u hj => by
        obtain ⟨b, o, hA, hc⟩ := h4 (by
          rcases Nat.eq_zero_or_pos m with h0 | h0
          · subst h0
            have : ys = [] := List.eq_nil_of_length_eq_zero (by omega)
            subst this
            simp at hj
          · exact h0)
        injection hA with hA
        subst hA
        rw [plus_zero]
        exact hc j u hj) h1 h63 hbytes hbase
    exact ⟨v', w', k1, k2, k3⟩

theorem wpList_appG {ops : Array Oper} {rest : List Oper} {o : Oper} {a : Act} {Q : Exit → Act → World → Prop} (hgd : o.guard = none) (s x : Operand) (t : TypeId)
    (ho : o.op = .call { callee := .builtin .append, args := #[s, x], argTypes := #[t, t] })
    (base : Nat) (e : TypeId) (i : TypeInfo) (z : Value) (size bytes : Nat) (ht : P.underlying t = some (.slice e)) (hi : P.info? e = some i) (hz : i.zero = some z) (hsize : i.size = size) (hby : i.bytes = bytes) (hzs : z.cells.size = size) (hsz : 0 < size)
    (v y : Value) (n : Nat) (xs : List Value) (m : Nat) (ys : List Value) (hs : a.eval s = v) (hy : a.eval x = y) (hown : w.ownsRow base e size v n xs) (hx : RowAt w y m size ys) (h1 : ∀ u ∈ ys, u.oneCell' = true)
    (h63 : n + m ≤ maxLen) (hbytes : (n + m) * bytes ≤ 140737488355328) (hbase : base ≤ w.heap.size)
    (h : ∀ v' w', w'.ownsRow base e size v' (n + m) (xs ++ ys) → w.grownBy w' v.ownBlock → wpList P ops Q rest (a.put o.dst v') w') : wpList P ops Q (o :: rest) a w := by
  refine wpList_plain hgd fun K hK => ?_
  obtain ⟨v', w', hr, h2, h3⟩ := run_appG (P := P) (w := w) base t o.type e i z size bytes ht hi hz hsize hby hzs hsz v y n xs hown m ys hx h1 h63 hbytes hbase
  unfold Oper.wp execOp
  simp only [ho, resolve, invoke, builtin, Sem.run_bind, Sem.run_pure, Result.andThen_ok, List.map_toArray, List.map_cons, List.map_nil, hs, hy, hr]
  exact hK _ _ (h v' w' h2 h3)
/-- The same of a row that is not empty, and where its block lies. -/
theorem wpList_appL {ops : Array Oper} {rest : List Oper} {o : Oper} {a : Act} {Q : Exit → Act → World → Prop} (hgd : o.guard = none) (s x : Operand) (t : TypeId)
    (ho : o.op = .call { callee := .builtin .append, args := #[s, x], argTypes := #[t, t] })
    (base : Nat) (e : TypeId) (i : TypeInfo) (z : Value) (size bytes : Nat) (ht : P.underlying t = some (.slice e)) (hi : P.info? e = some i) (hz : i.zero = some z) (hsize : i.size = size) (hby : i.bytes = bytes) (hzs : z.cells.size = size) (hsz : 0 < size)
    (v y : Value) (n : Nat) (xs : List Value) (m : Nat) (ys : List Value) (hs : a.eval s = v) (hy : a.eval x = y) (hown : w.ownsRow base e size v n xs) (hx : RowAt w y m size ys) (h1 : ∀ u ∈ ys, u.oneCell' = true) (hm : 0 < m)
    (h63 : n + m ≤ maxLen) (hbytes : (n + m) * bytes ≤ 140737488355328) (hbase : base ≤ w.heap.size)
    (h : ∀ g cap w', w'.ownsRow base e size (.slice (some ⟨g, 0, none⟩) (n + m) cap) (n + m) (xs ++ ys) → w.grownBy w' v.ownBlock → (v.ownBlock = some g ∨ g = w.heap.size) → g < w'.heap.size → wpList P ops Q rest (a.put o.dst (.slice (some ⟨g, 0, none⟩) (n + m) cap)) w') : wpList P ops Q (o :: rest) a w := by
  refine wpList_plain hgd fun K hK => ?_
  obtain ⟨A, c, rfl, hl, hmc, hcm, h3, h4⟩ := hx
  obtain ⟨b, o', rfl, hc⟩ := h4 hm
  obtain ⟨g, cap, w', hr, k1, k2, k3, k4⟩ := run_append_lies (P := P) w t o.type base e i z size bytes ht hi hz hsize hby hzs hsz v n xs hown ⟨b, o', none⟩ m c ys hl (fun j u hj => by rw [plus_zero]; exact hc j u hj) h1 hm h63 hbytes hbase w.heap.size rfl
  unfold Oper.wp execOp
  simp only [ho, resolve, invoke, builtin, Sem.run_bind, Sem.run_pure, Result.andThen_ok, List.map_toArray, List.map_cons, List.map_nil, hs, hy, hr]
  exact hK _ _ (h g cap w' k1 k2 k3 k4)
end
end Go.Proofs.Ytlokehekkllbeaa
namespace Go.Proofs.Ytlokehekkllbeaa

/-- a disk -/
structure DS where
  lasts : List (List UInt8)
  waits : List (Nat × List UInt8)
  done : Nat
  dead : Bool
  fuse : Option Nat
  keep : List Bool

/-- writes that last, one after the other -/
def setAll (L : List (List UInt8)) (ws : List (Nat × List UInt8)) : List (List UInt8) := ws.foldl (fun L x => L.set x.1 x.2) L
theorem setAll_length (ws : List (Nat × List UInt8)) : ∀ L : List (List UInt8), (setAll L ws).length = L.length := by
  induction ws with
  | nil => intro L; rfl
  | cons x ws ih => intro L; show (setAll (L.set x.1 x.2) ws).length = _; rw [ih, List.length_set]
theorem setAll_snoc (L : List (List UInt8)) (ws : List (Nat × List UInt8)) (x : Nat × List UInt8) : setAll L (ws ++ [x]) = (setAll L ws).set x.1 x.2 := by unfold setAll; rw [List.foldl_append]; rfl
/-- the writes that are kept -/
def keptOf (ws : List (Nat × List UInt8)) (keep : List Bool) : List (Nat × List UInt8) := ((ws.zip keep).filter (·.2)).map (·.1)
/-- what a sector reads as -/
def look (L : List (List UInt8)) (ws : List (Nat × List UInt8)) (i : Nat) : List UInt8 := ws.foldl (fun s x => if x.1 = i then x.2 else s) (L.getD i [])
theorem look_snoc (L : List (List UInt8)) (ws : List (Nat × List UInt8)) (x : Nat × List UInt8) (i : Nat) : look L (ws ++ [x]) i = if x.1 = i then x.2 else look L ws i := by unfold look; rw [List.foldl_append]; rfl

theorem take_snoc {α : Type} {l : List α} {k : Nat} {x : α} (h : l[k]? = some x) : l.take (k + 1) = l.take k ++ [x] := by
  obtain ⟨hk, rfl⟩ := List.getElem?_eq_some_iff.1 h
  rw [List.take_append_getElem]
theorem keptOf_snoc {ws : List (Nat × List UInt8)} {keep : List Bool} {k : Nat} {x : Nat × List UInt8} {b : Bool} (h1 : ws[k]? = some x) (h2 : keep[k]? = some b) :
    keptOf (ws.take (k + 1)) (keep.take (k + 1)) = keptOf (ws.take k) (keep.take k) ++ (if b then [x] else []) := by
  have hk1 := (List.getElem?_eq_some_iff.1 h1).1
  have hk2 := (List.getElem?_eq_some_iff.1 h2).1
  have hz : (ws.take (k + 1)).zip (keep.take (k + 1)) = (ws.take k).zip (keep.take k) ++ [(x, b)] := by
    rw [take_snoc h1, take_snoc h2, List.zip_append (by rw [List.length_take, List.length_take]; omega)]
    rfl
  unfold keptOf
  rw [hz, List.filter_append, List.map_append]
  cases b <;> rfl
theorem keptOf_all (ws : List (Nat × List UInt8)) (keep : List Bool) {k : Nat} (h : k = min ws.length keep.length) : keptOf (ws.take k) (keep.take k) = keptOf ws keep := by
  unfold keptOf
  congr 2
  apply List.ext_getElem?
  intro i
  rw [List.zip_eq_zipWith, List.zip_eq_zipWith, List.getElem?_zipWith, List.getElem?_zipWith, List.getElem?_take, List.getElem?_take]
  by_cases hi : i < k
  · rw [if_pos hi, if_pos hi]
  · rw [if_neg hi, if_neg hi]
    have : ws[i]? = none ∨ keep[i]? = none := by
      rcases Nat.lt_or_ge i ws.length with h1 | h1
      · right; exact List.getElem?_eq_none (by omega)
      · left; exact List.getElem?_eq_none h1
    rcases this with h1 | h1 <;> rw [h1] <;> cases ws[i]? <;> rfl
theorem keptOf_mem {ws : List (Nat × List UInt8)} {keep : List Bool} {x : Nat × List UInt8} (h : x ∈ keptOf ws keep) : x ∈ ws := by
  unfold keptOf at h
  obtain ⟨y, hy, rfl⟩ := List.mem_map.1 h
  exact (List.of_mem_zip (List.mem_filter.1 hy).1).1

/-- the calls -/
def DS.new (n : Nat) : DS := ⟨List.replicate n (List.replicate 512 0), [], 0, false, none, []⟩
def DS.crash (D : DS) (keep : List Bool) : DS := { D with lasts := setAll D.lasts (keptOf D.waits keep), waits := [], dead := true }
def DS.tick (D : DS) : DS := { D with done := D.done + 1, fuse := D.fuse.map (· - 1) }
def DS.flushed (D : DS) : DS := { D with lasts := setAll D.lasts D.waits, waits := [] }
def DS.wrote (D : DS) (i : Nat) (b : List UInt8) : DS := { D with waits := D.waits ++ [(i, b)] }
def inside (D : DS) (i : Int) : Bool := decide (0 ≤ i) && decide (i < (D.lasts.length : Int))
def DS.read (D : DS) (i : Int) : Int × List UInt8 := if D.dead then (20, []) else if inside D i then (0, look D.lasts D.waits i.toNat) else (1, [])
def DS.write (D : DS) (i : Int) (b : List UInt8) : Int × DS :=
  if D.dead then (20, D) else if inside D i && decide (b.length = 512) then (if D.fuse = some 0 then (20, (D.wrote i.toNat b).crash D.keep) else (0, (D.wrote i.toNat b).tick)) else (1, D)
def DS.flush (D : DS) : Int × DS := if D.dead then (20, D) else if D.fuse = some 0 then (20, D.crash D.keep) else (0, D.tick.flushed)
def DS.crashed (D : DS) (keep : List Bool) : Int × DS := if D.dead then (20, D) else (0, D.crash keep)
def DS.lit (D : DS) (k : Int) (keep : List Bool) : Int × DS := if D.dead then (20, D) else if k < 0 then (1, D) else (0, { D with fuse := some k.toNat, keep := keep })
def DS.again (D : DS) : DS := ⟨D.lasts, [], 0, false, none, []⟩

/-- what holds of each disk: writes that wait lie within it; sectors are whole -/
def DS.ok (D : DS) : Prop := (∀ x ∈ D.waits, x.1 < D.lasts.length ∧ x.2.length = 512) ∧ (∀ s ∈ D.lasts, s.length = 512)
theorem setAll_whole (ws : List (Nat × List UInt8)) : ∀ L : List (List UInt8), (∀ s ∈ L, s.length = 512) → (∀ x ∈ ws, x.2.length = 512) → ∀ s ∈ setAll L ws, s.length = 512 := by
  induction ws with
  | nil => intro L h _; exact h
  | cons x ws ih =>
    intro L h hx
    refine ih _ (fun s hs => ?_) (fun y hy => hx y (by simp [hy]))
    rcases List.mem_or_eq_of_mem_set hs with h1 | h1
    · exact h s h1
    · rw [h1]; exact hx x (by simp)
theorem DS.ok_new (n : Nat) : (DS.new n).ok := ⟨fun _ h => absurd h List.not_mem_nil, fun _ h => (congrArg List.length (List.mem_replicate.1 h).2).trans List.length_replicate⟩
theorem DS.ok_crash {D : DS} (h : D.ok) (keep : List Bool) : (D.crash keep).ok := ⟨fun x hx => by simp [DS.crash] at hx, setAll_whole _ _ h.2 fun x hx => (h.1 x (keptOf_mem hx)).2⟩
theorem DS.ok_flushed {D : DS} (h : D.ok) : D.flushed.ok := ⟨fun x hx => by simp [DS.flushed] at hx, setAll_whole _ _ h.2 fun x hx => (h.1 x hx).2⟩
theorem DS.ok_tick {D : DS} (h : D.ok) : D.tick.ok := h
theorem DS.ok_wrote {D : DS} (h : D.ok) {i : Nat} {b : List UInt8} (hi : i < D.lasts.length) (hb : b.length = 512) : (D.wrote i b).ok := ⟨fun x hx => by
  rcases List.mem_append.1 hx with h1 | h1
  · exact h.1 x h1
  · simp at h1
    subst h1
    exact ⟨hi, hb⟩, h.2⟩
end Go.Proofs.Ytlokehekkllbeaa
namespace Go.Proofs.Ytlokehekkllbeaa
open Go.RowKit

def SS (l : List (List UInt8)) : List Value := l.map fun s => .string ⟨s.toArray⟩
def WS (l : List (Nat × List UInt8)) : List Value := l.flatMap fun x => [.int .i64 (x.1 : Int), .string ⟨x.2.toArray⟩]
def KS (l : List Bool) : List Value := l.map .bool
theorem WS_get {l : List (Nat × List UInt8)} {k : Nat} {x : Nat × List UInt8} (h : l[k]? = some x) : (WS l)[k * 2]? = some (.int .i64 (x.1 : Int)) ∧ (WS l)[k * 2 + 1]? = some (.string ⟨x.2.toArray⟩) := by
  induction l generalizing k with
  | nil => simp at h
  | cons y l ih =>
    cases k with
    | zero =>
      simp only [List.getElem?_cons_zero, Option.some.injEq] at h
      subst h
      exact ⟨rfl, rfl⟩
    | succ k =>
      have := ih (k := k) (by simpa using h)
      rw [show (k + 1) * 2 = k * 2 + 1 + 1 by omega]
      exact this
theorem WS_append (l m : List (Nat × List UInt8)) : WS (l ++ m) = WS l ++ WS m := by unfold WS; rw [List.flatMap_append]
theorem SS_set (l : List (List UInt8)) (i : Nat) (s : List UInt8) : SS (l.set i s) = (SS l).set i (.string ⟨s.toArray⟩) := by unfold SS; rw [List.map_set]
theorem SS_get {l : List (List UInt8)} {i : Nat} (h : i < l.length) : (SS l)[i]? = some (.string ⟨(l.getD i []).toArray⟩) := by
  unfold SS
  rw [List.getElem?_map, List.getElem?_eq_getElem h]
  simp [List.getD, h]
theorem KS_get {l : List Bool} {i : Nat} {b : Bool} (h : l[i]? = some b) : (KS l)[i]? = some (.bool b) := by unfold KS; rw [List.getElem?_map, h]; rfl

theorem row_not {w : World} {p : Nat} {C : Array Value} {T e : TypeId} {base size n : Nat} {v : Value} {xs : List Value} (h : w.heap[p]? = some (.cells C T (0, 0))) (ho : w.ownsRow base e size v n xs) (hne : e ≠ T) : ∀ b, v.ownBlock = some b → b ≠ p := by
  intro b hb e1
  subst e1
  obtain ⟨cur, hc⟩ := row_type ho hb
  rw [hc] at h
  injection h with h
  injection h with _ h
  exact hne h
theorem row7 {w : World} {p : Nat} {C : Array Value} {T : TypeId} (h : w.heap[p]? = some (.cells C T (0, 0))) : (∀ i, w.cell? ⟨p, i, none⟩ = C[i]?) ∧ (∀ i, w.frozen? ⟨p, i, none⟩ = false) :=
  ⟨fun i => cell_of_row w p i C T (0, 0) h, fun i => by simp [World.frozen?, h]⟩

theorem set_other {w : World} {p i : Nat} {u : Value} {b : Nat} (h : b ≠ p) : (w.setCell ⟨p, i, none⟩ u).heap[b]? = w.heap[b]? := Below.heap_setCell w ⟨p, i, none⟩ u b h

/-- a row that is read is kept where its block is -/
theorem RowAt.kept {w w' : World} {v : Value} {n size : Nat} {xs : List Value} (h : RowAt w v n size xs) (hk : ∀ b, v.ownBlock = some b → w'.heap[b]? = w.heap[b]?) : RowAt w' v n size xs := by
  obtain ⟨A, c, rfl, h1, h2, h3, h4, h5⟩ := h
  refine ⟨A, c, rfl, h1, h2, h3, h4, fun hn => ?_⟩
  obtain ⟨b, o, rfl, hc⟩ := h5 hn
  exact ⟨b, o, rfl, fun j u hu => (World.cell?_of_block (hk b rfl)).trans (hc j u hu)⟩
theorem own_eq {w : World} {b1 b2 : Nat} {e : TypeId} {size : Nat} {v : Value} {n m : Nat} {xs ys : List Value} (h : w.ownsRow b1 e size v n xs) (hn : n = m) (hx : xs = ys) (hb : b2 ≤ b1) : w.ownsRow b2 e size v m ys := by
  subst hn
  subst hx
  exact World.ownsRow.mono h hb

end Go.Proofs.Ytlokehekkllbeaa
namespace Go.Proofs.Ytlokehekkllbeaa
open Go.RowKit

/-- blocks that were there, and those that have been made since -/
def More (F : Nat → Prop) (w w' : World) : Nat → Prop := fun n => F n ∨ (w.heap.size ≤ n ∧ n < w'.heap.size)
theorem More.here {F : Nat → Prop} {w w' : World} : ∀ b, F b → More F w w' b := fun _ h => .inl h
theorem info_S : (Try.prog.info? 9).map (fun i => (i.zero, i.size, i.bytes)) = some (some (.string ByteArray.empty), 1, 16) := by kernel_rfl
theorem info_B : (Try.prog.info? 4).map (fun i => (i.zero, i.size, i.bytes)) = some (some (.bool false), 1, 1) := by kernel_rfl

end Go.Proofs.Ytlokehekkllbeaa
namespace Go.Proofs.Ytlokehekkllbeaa
open Go.RowKit

end Go.Proofs.Ytlokehekkllbeaa
namespace Go.Proofs.Ytlokehekkllbeaa
open Go.RowKit

/-- a new row of no elements -/
theorem empty_row (w : World) (e : TypeId) (size base : Nat) (h : base ≤ w.heap.size) : (w.alloc (.cells #[] e)).ownsRow base e size (.slice (some ⟨w.heap.size, 0, none⟩) 0 0) 0 [] := World.ownsRow_lit w #[] 0 h (by unfold maxLen; omega) (by simp)
theorem KS_one (l : List Bool) : ∀ u ∈ KS l, u.oneCell' = true := by
  intro u hu
  obtain ⟨b, _, rfl⟩ := List.mem_map.1 hu
  rfl
theorem SS_one (l : List (List UInt8)) : ∀ u ∈ SS l, u.oneCell' = true := by
  intro u hu
  obtain ⟨b, _, rfl⟩ := List.mem_map.1 hu
  rfl
theorem KS_length (l : List Bool) : (KS l).length = l.length := by simp [KS]
theorem SS_length (l : List (List UInt8)) : (SS l).length = l.length := by simp [SS]

/-- blocks that have been made since -/
def Made (w w' : World) : Nat → Prop := fun n => w.heap.size ≤ n ∧ n < w'.heap.size

end Go.Proofs.Ytlokehekkllbeaa
namespace Go.Proofs.Ytlokehekkllbeaa
open Go.RowKit

/-- n sectors of noughts -/
def blank (n : Nat) : List (List UInt8) := List.replicate n (List.replicate 512 0)
theorem blank_snoc (n : Nat) : blank (n + 1) = blank n ++ [List.replicate 512 0] := List.replicate_succ'
theorem blank_length (n : Nat) : (blank n).length = n := List.length_replicate
theorem SS_append (l m : List (List UInt8)) : SS (l ++ m) = SS l ++ SS m := by unfold SS; rw [List.map_append]

theorem zero_text (w : World) : ∃ v w' bs, (Instr.makeSlice 39 (.int .i64 512) (.int .i64 512)).run Try.prog w = .ok v w' ∧ (convert 39 9 v).run Try.prog w' = .ok (.string bs) w' ∧ bs = ⟨(List.replicate 512 (0 : UInt8)).toArray⟩ ∧ Below w.heap.size w w' ∧ (∃ A, v = .slice A 512 512) := by
  obtain ⟨i0, hi, hz0, hz1, hz2⟩ := info_parts (show (Try.prog.info? 5).map (fun i => (i.zero, i.size, i.bytes)) = some (some (.int .u8 0), 1, 1) by kernel_rfl)
  obtain ⟨w', h1, h2, h3⟩ := run_make_full (P := Try.prog) w w.heap.size 39 5 i0 _ 1 Try.underlying39 hi hz0 hz1 .i64 .i64 512 (by rw [hz2]; omega) (by unfold maxLen; omega) (Nat.le_refl _)
  have hBS : (madeCells (Value.int .u8 0).cells (512 * 1)).toList = BS (List.replicate 512 0) := by
    show (madeCells #[Value.int .u8 0] (512 * 1)).toList = _
    rw [toList_madeCells_one]
    unfold BS
    rw [List.map_replicate]
    rfl
  rw [hBS] at h2
  exact ⟨_, w', _, h1, run_str (P := Try.prog) 39 5 9 Try.underlying39 Try.underlying5 Try.underlying9 (Rd.own h2), rfl, (Below.refl _ _).grown h3 (Nat.le_refl _) (fun k h => by cases h), _, rfl⟩

end Go.Proofs.Ytlokehekkllbeaa
namespace Go.Proofs.Ytlokehekkllbeaa
open Go.RowKit

theorem made_bytes (w : World) : ∃ w', (Instr.makeSlice 39 (.int .i64 512) (.int .i64 512)).run Try.prog w = .ok (.slice (some ⟨w.heap.size, 0, none⟩) 512 512) w' ∧ w'.ownsRow w.heap.size 5 1 (.slice (some ⟨w.heap.size, 0, none⟩) 512 512) 512 (BS (List.replicate 512 0)) ∧ Below w.heap.size w w' := by
  obtain ⟨i0, hi, hz0, hz1, hz2⟩ := info_parts (show (Try.prog.info? 5).map (fun i => (i.zero, i.size, i.bytes)) = some (some (.int .u8 0), 1, 1) by kernel_rfl)
  obtain ⟨w', h1, h2, h3⟩ := run_make_full (P := Try.prog) w w.heap.size 39 5 i0 _ 1 Try.underlying39 hi hz0 hz1 .i64 .i64 512 (by rw [hz2]; omega) (by unfold maxLen; omega) (Nat.le_refl _)
  have hBS : (madeCells (Value.int .u8 0).cells (512 * 1)).toList = BS (List.replicate 512 0) := by
    show (madeCells #[Value.int .u8 0] (512 * 1)).toList = _
    rw [toList_madeCells_one]
    unfold BS
    rw [List.map_replicate]
    rfl
  rw [hBS] at h2
  exact ⟨w', h1, h2, (Below.refl _ _).grown h3 (Nat.le_refl _) (fun k h => by cases h)⟩
theorem BS_set (xs : List UInt8) (r : Nat) (u : UInt8) : BS (xs.set r u) = (BS xs).set r (.int .u8 (u.toNat : Int)) := by unfold BS; rw [List.map_set]
/-- r bytes c, the rest noughts -/
def filled (c : UInt8) (r : Nat) : List UInt8 := List.replicate r c ++ List.replicate (512 - r) 0
theorem filled_set (c : UInt8) (r : Nat) (h : r < 512) : (filled c r).set r c = filled c (r + 1) := by
  unfold filled
  rw [List.set_append_right _ _ (by rw [List.length_replicate]; exact Nat.le_refl _), List.length_replicate, Nat.sub_self, show 512 - r = (512 - (r + 1)) + 1 by omega, List.replicate_succ, List.set_cons_zero, List.replicate_succ', List.append_assoc]
  rfl
theorem filled_length (c : UInt8) (r : Nat) (h : r ≤ 512) : (filled c r).length = 512 := by unfold filled; rw [List.length_append, List.length_replicate, List.length_replicate]; omega

/-- a sector of one byte -/
def all512 (c : UInt8) : List UInt8 := List.replicate 512 c

end Go.Proofs.Ytlokehekkllbeaa
