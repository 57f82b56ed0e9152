/-
  PMem: The program's own disk in memory: rows of pointers to sectors, a map of the last write of each. No statement is proved here. No condition.
  PCalls: The program's own disk: live, find, what it tells, marks. No statement is proved here. No condition.
  PStep: The program's own disk: mark, burn. No statement is proved here. No condition.
  PSettle: The program's own disk: settle. No statement is proved here. No condition.
  PCrash: The program's own disk: crash, step. No statement is proved here. No condition.
  PTick: The program's own disk: step. No statement is proved here. No condition.
  PWait: The program's own disk: wait. No statement is proved here. No condition.
-/
import Derived.Test.YtlokehekkllbeaaDA
import Derived.Maps.OwnOps
import Derived.Maps.Views
import Derived.Deep.MidRow
import Derived.Deep.WholeRow
import Derived.Laws.Pointers
import Derived.Laws.Externs
import Derived.MapKept
import Derived.Laws.CopyRow
import Derived.Laws.CopyOwn
namespace Go.Proofs.Ytlokehekkllbeaa
open Go.RowKit Go.Maps

/-- a pointer to a sector, or none -/
def ptr : Option Nat → Value
  | none => .pointer none
  | some g => .pointer (some ⟨g, 0, none⟩)
theorem ptr_cell (o : Option Nat) : (ptr o).oneCell' = true := by cases o <;> rfl
/-- what a pointer reads as in a map -/
def Rp : Value → Option (DataW Unit × List MemPlace)
  | .pointer none => some (.nil, [])
  | .pointer (some ⟨g, 0, none⟩) => some (.lit (.int .u64 (g : Int)), [])
  | _ => none
def encp : Option Nat → DataW Unit
  | none => .nil
  | some g => .lit (.int .u64 (g : Int))
theorem Rp_ptr (o : Option Nat) : Rp (ptr o) = some (encp o, []) := by cases o <;> rfl
theorem Rp_inv {v : Value} {z : DataW Unit} {ps : List MemPlace} (h : Rp v = some (z, ps)) : ∃ o, v = ptr o ∧ z = encp o := by
  unfold Rp at h
  split at h
  · injection h with h; injection h with h1 h2; exact ⟨none, rfl, h1.symm⟩
  · injection h with h; injection h with h1 h2; exact ⟨some _, rfl, h1.symm⟩
  · cases h
theorem encp_inj {a b : Option Nat} (h : encp a = encp b) : a = b := by
  cases a <;> cases b
  · rfl
  · cases h
  · cases h
  · injection h with h
    injection h with _ h
    congr 1
    omega

/-- the last write of a sector that waits -/
def lastOf (pw : List (Nat × Nat)) (a : Nat) : Option Nat := pw.foldl (fun s x => if x.1 = a then some x.2 else s) none
theorem lastOf_snoc (pw : List (Nat × Nat)) (x : Nat × Nat) (a : Nat) : lastOf (pw ++ [x]) a = if x.1 = a then some x.2 else lastOf pw a := by unfold lastOf; rw [List.foldl_append]; rfl

theorem law_int : Keyed Try.prog 3 := int_keyed Try.underlying3
theorem wf_i64 {a : Nat} (h : a < 9223372036854775808) : (Lit.int .i64 (a : Int)).wf = true := by
  unfold Lit.wf
  rw [Bool.and_eq_true, decide_eq_true_eq, decide_eq_true_eq]
  show (-9223372036854775808 : Int) ≤ _ ∧ _ ≤ (9223372036854775807 : Int)
  omega
theorem key_i64 {a : Nat} (h : a < 9223372036854775808) : keyOf Try.prog 3 (.int .i64 (a : Int)) = some (.int .i64 (a : Int)) := keyOf_int_mk Try.underlying3 (wf_i64 h)

/-- block m is the map of the last writes -/
def MapAt (w : World) (m n : Nat) (pw : List (Nat × Nat)) : Prop := ∃ D : DataW Unit, w.ownsMap Try.prog 3 Rp m n D ∧ IsMap D ∧ ∀ a : Nat, a < 9223372036854775808 → D.atKey (.int .i64 (a : Int)) .nil = encp (lastOf pw a)
theorem MapAt.made (w : World) : MapAt (w.alloc (.map #[] 0)) w.heap.size 0 [] := ⟨_, World.ownsMap_made w _ _ _, isMap_empty, fun _ _ => rfl⟩
theorem MapAt.same {w w' : World} {m n : Nat} {pw : List (Nat × Nat)} (h : MapAt w m n pw) (hk : w'.heap[m]? = w.heap[m]?) : MapAt w' m n pw := by
  obtain ⟨D, ⟨es, clock, hb, F, hs, hD⟩, h2, h3⟩ := h
  exact ⟨D, ⟨es, clock, hk.trans hb, F, hs, hD⟩, h2, h3⟩
theorem MapAt.lt {w : World} {m n : Nat} {pw : List (Nat × Nat)} (h : MapAt w m n pw) : m < w.heap.size := by
  obtain ⟨D, h, _⟩ := h
  exact h.lt
theorem MapAt.obj {w : World} {m n : Nat} {pw : List (Nat × Nat)} (h : MapAt w m n pw) : ∃ es clock, w.heap[m]? = some (.map es clock) := by
  obtain ⟨D, ⟨es, clock, hb, _⟩, _⟩ := h
  exact ⟨es, clock, hb⟩

def PS (l : List (Option Nat)) : List Value := l.map ptr
def PW (l : List (Nat × Nat)) : List Value := l.flatMap fun x => [.int .i64 (x.1 : Int), ptr (some x.2)]
theorem PS_get {l : List (Option Nat)} {i : Nat} {o : Option Nat} (h : l[i]? = some o) : (PS l)[i]? = some (ptr o) := by unfold PS; rw [List.getElem?_map, h]; rfl
theorem PS_set (l : List (Option Nat)) (i : Nat) (o : Option Nat) : PS (l.set i o) = (PS l).set i (ptr o) := by unfold PS; rw [List.map_set]
theorem PS_one (l : List (Option Nat)) : ∀ u ∈ PS l, u.oneCell' = true := by
  intro u hu
  obtain ⟨x, _, rfl⟩ := List.mem_map.1 hu
  exact ptr_cell x
theorem PW_append (l m : List (Nat × Nat)) : PW (l ++ m) = PW l ++ PW m := by unfold PW; rw [List.flatMap_append]
theorem PW_one (l : List (Nat × Nat)) : ∀ u ∈ PW l, u.oneCell' = true := by
  intro u hu
  unfold PW at hu
  obtain ⟨x, _, hx⟩ := List.mem_flatMap.1 hu
  simp at hx
  rcases hx with rfl | rfl <;> rfl
theorem PW_get {l : List (Nat × Nat)} {k : Nat} {x : Nat × Nat} (h : l[k]? = some x) : (PW l)[k * 2]? = some (.int .i64 (x.1 : Int)) ∧ (PW l)[k * 2 + 1]? = some (ptr (some x.2)) := by
  induction l generalizing k with
  | nil => simp at h
  | cons y l ih =>
    cases k with
    | zero =>
      simp only [List.getElem?_cons_zero, Option.some.injEq] at h
      subst h
      exact ⟨rfl, rfl⟩
    | succ k =>
      have := ih (k := k) (by simpa using h)
      rw [show (k + 1) * 2 = k * 2 + 1 + 1 by omega]
      exact this

/-- truth values as a text -/
def marks (l : List Bool) : ByteArray := ⟨(l.map fun b => if b then (1 : UInt8) else 0).toArray⟩

/-- a sector's cells -/
def sec (s : List UInt8) : Array Value := (BS s).toArray
theorem sec_size (s : List UInt8) : (sec s).size = s.length := by unfold sec; rw [List.size_toArray, BS_length]
theorem sec_one (s : List UInt8) : (sec s).all (·.oneCell') = true := all_oneCell_toArray (BS_one s)
/-- is the block a sector's? -/
def IsSec (w : World) (b : Nat) : Prop := ∃ cs, w.heap[b]? = some (.cells cs 85 (0, 0))
/-- what a call may turn of its own blocks: not the sectors -/
def Mut (G : Nat → Prop) (w : World) : Nat → Prop := fun b => G b ∧ ¬ IsSec w b
/-- a pointer to a sector that reads as s -/
def SecAt (w : World) (S : Nat → Prop) (o : Option Nat) (s : List UInt8) : Prop :=
  match o with
  | none => s = List.replicate 512 0
  | some g => S g ∧ w.heap[g]? = some (.cells (sec s) 85 (0, 0)) ∧ s.length = 512
theorem SecAt.kept {w w' : World} {S S' : Nat → Prop} {o : Option Nat} {s : List UInt8} (h : SecAt w S o s) (hS : ∀ b, S b → S' b) (hk : ∀ b, S b → IsSec w b → b < w.heap.size → w'.heap[b]? = w.heap[b]?) : SecAt w' S' o s := by
  cases o with
  | none => exact h
  | some g =>
    obtain ⟨h1, h2, h3⟩ := h
    exact ⟨hS g h1, (hk g h1 ⟨_, h2⟩ (Array.getElem?_eq_some_iff.1 h2).1).trans h2, h3⟩
theorem SecAt.len {w : World} {S : Nat → Prop} {o : Option Nat} {s : List UInt8} (h : SecAt w S o s) : s.length = 512 := by
  cases o with
  | none =>
    have h' : s = List.replicate 512 0 := h
    rw [h', List.length_replicate]
  | some g => exact h.2.2

def Secs (w : World) (S : Nat → Prop) (pl : List (Option Nat)) (L : List (List UInt8)) : Prop := pl.length = L.length ∧ ∀ (i : Nat) (o : Option Nat) (s : List UInt8), pl[i]? = some o → L[i]? = some s → SecAt w S o s
def Wts (w : World) (S : Nat → Prop) (pw : List (Nat × Nat)) (ws : List (Nat × List UInt8)) : Prop := pw.length = ws.length ∧ ∀ (i : Nat) (y : Nat × Nat) (x : Nat × List UInt8), pw[i]? = some y → ws[i]? = some x → y.1 = x.1 ∧ SecAt w S (some y.2) x.2
theorem Secs.kept {w w' : World} {S S' : Nat → Prop} {pl : List (Option Nat)} {L : List (List UInt8)} (h : Secs w S pl L) (hS : ∀ b, S b → S' b) (hk : ∀ b, S b → IsSec w b → b < w.heap.size → w'.heap[b]? = w.heap[b]?) : Secs w' S' pl L :=
  ⟨h.1, fun i o s h1 h2 => (h.2 i o s h1 h2).kept hS hk⟩
theorem Wts.kept {w w' : World} {S S' : Nat → Prop} {pw : List (Nat × Nat)} {ws : List (Nat × List UInt8)} (h : Wts w S pw ws) (hS : ∀ b, S b → S' b) (hk : ∀ b, S b → IsSec w b → b < w.heap.size → w'.heap[b]? = w.heap[b]?) : Wts w' S' pw ws :=
  ⟨h.1, fun i y x h1 h2 => ⟨(h.2 i y x h1 h2).1, (h.2 i y x h1 h2).2.kept hS hk⟩⟩
theorem Secs.set {w : World} {S : Nat → Prop} {pl : List (Option Nat)} {L : List (List UInt8)} (h : Secs w S pl L) (a : Nat) {o : Option Nat} {s : List UInt8} (hs : SecAt w S o s) : Secs w S (pl.set a o) (L.set a s) := by
  refine ⟨by rw [List.length_set, List.length_set]; exact h.1, fun i o' s' h1 h2 => ?_⟩
  by_cases hi : a = i
  · subst hi
    by_cases hl : a < pl.length
    · have hl2 : a < L.length := by have := h.1; omega
      rw [List.getElem?_set_self hl] at h1
      rw [List.getElem?_set_self hl2] at h2
      injection h1 with h1
      injection h2 with h2
      subst h1
      subst h2
      exact hs
    · rw [List.getElem?_eq_none (by rw [List.length_set]; omega)] at h1
      cases h1
  · rw [List.getElem?_set_ne hi] at h1 h2
    exact h.2 i o' s' h1 h2
theorem Wts.nil (w : World) (S : Nat → Prop) : Wts w S [] [] := ⟨rfl, fun i y x h _ => by simp at h⟩
theorem Wts.snoc {w : World} {S : Nat → Prop} {pw : List (Nat × Nat)} {ws : List (Nat × List UInt8)} (h : Wts w S pw ws) (a g : Nat) {s : List UInt8} (hs : SecAt w S (some g) s) : Wts w S (pw ++ [(a, g)]) (ws ++ [(a, s)]) := by
  refine ⟨by rw [List.length_append, List.length_append, h.1]; rfl, fun i y x h1 h2 => ?_⟩
  by_cases hi : i < pw.length
  · rw [List.getElem?_append_left hi] at h1
    rw [List.getElem?_append_left (by rw [← h.1]; exact hi)] at h2
    exact h.2 i y x h1 h2
  · have hil : i = pw.length := by
      have := (List.getElem?_eq_some_iff.1 h1).1
      rw [List.length_append] at this
      simp at this
      omega
    subst hil
    rw [List.getElem?_append_right (Nat.le_refl _), Nat.sub_self] at h1
    rw [List.getElem?_append_right (by rw [h.1]; exact Nat.le_refl _), h.1, Nat.sub_self] at h2
    simp at h1 h2
    subst h1
    subst h2
    exact ⟨rfl, hs⟩
/-- what is found by the map is what reads -/
theorem Wts.look {w : World} {S : Nat → Prop} {pw : List (Nat × Nat)} {ws : List (Nat × List UInt8)} (h : Wts w S pw ws) (L : List (List UInt8)) (a : Nat) :
    match lastOf pw a with
    | none => look L ws a = L.getD a []
    | some g => SecAt w S (some g) (look L ws a) := by
  suffices H : ∀ (pw : List (Nat × Nat)) (ws : List (Nat × List UInt8)), Wts w S pw ws → ∀ (o : Option Nat) (t : List UInt8), (match o with | none => t = L.getD a [] | some g => SecAt w S (some g) t) →
      match pw.foldl (fun s x => if x.1 = a then some x.2 else s) o with
      | none => ws.foldl (fun s x => if x.1 = a then x.2 else s) t = L.getD a []
      | some g => SecAt w S (some g) (ws.foldl (fun s x => if x.1 = a then x.2 else s) t) from H pw ws h none (L.getD a []) rfl
  intro pw
  induction pw with
  | nil =>
    intro ws h o t ht
    have : ws = [] := List.eq_nil_of_length_eq_zero h.1.symm
    subst this
    exact ht
  | cons y pw ih =>
    intro ws h o t ht
    cases ws with
    | nil => have := h.1; simp at this
    | cons x ws =>
      have h0 := h.2 0 y x rfl rfl
      refine ih ws ⟨by have := h.1; simpa using this, fun i y' x' h1 h2 => h.2 (i + 1) y' x' (by simpa using h1) (by simpa using h2)⟩ _ _ ?_
      by_cases hy : y.1 = a
      · have hx : x.1 = a := h0.1 ▸ hy
        simp only [if_pos hy, if_pos hx]
        exact h0.2
      · have hx : ¬ x.1 = a := fun e => hy (h0.1.trans e)
        simp only [if_neg hy, if_neg hx]
        exact ht

/-- the fuse's three fields -/
def FuseIs (D : DS) (st : Bool) (left : Int) (ks : ByteArray) : Prop := D.dead = false → (D.fuse = none → st = false ∧ left = 0 ∧ ks = ByteArray.empty) ∧ ∀ k, D.fuse = some k → st = true ∧ left = (k : Int) ∧ k < 9223372036854775808 ∧ ks = marks D.keep

/-- The program's disk at block q: its own blocks in G, its sectors in S. -/
structure PR (w : World) (G S : Nat → Prop) (q : Nat) (D : DS) (vl vw vm : Value) (st : Bool) (left : Int) (ks : ByteArray) (pl : List (Option Nat)) (pw : List (Nat × Nat)) : Prop where
  inG : G q
  cells : w.heap[q]? = some (.cells #[vl, vw, vm, .int .i64 (D.done : Int), .bool D.dead, .bool st, .int .i64 left, .string ks] 80 (0, 0))
  fz : FuseIs D st left ks
  lasts : w.ownsRow 0 90 1 vl D.lasts.length (PS pl)
  lastsG : ∀ b, vl.ownBlock = some b → G b
  waits : w.ownsRow 0 92 2 vw D.waits.length (PW pw)
  waitsG : ∀ b, vw.ownBlock = some b → G b
  secs : Secs w S pl D.lasts
  wts : Wts w S pw D.waits
def PD (w : World) (G S : Nat → Prop) (q : Nat) (D : DS) : Prop := ∃ vl vw m st left ks pl pw, PR w G S q D vl vw (.map (some m)) st left ks pl pw ∧ G m ∧ MapAt w m D.waits.length pw

variable {w w' : World} {G S : Nat → Prop} {q : Nat} {D : DS} {vl vw vm : Value} {st : Bool} {left : Int} {ks : ByteArray} {pl : List (Option Nat)} {pw : List (Nat × Nat)}
theorem PR.lt (h : PR w G S q D vl vw vm st left ks pl pw) : q < w.heap.size := (Array.getElem?_eq_some_iff.1 h.cells).1
theorem not_sec {T : TypeId} {b : Nat} {C : Array Value} (h : w.heap[b]? = some (.cells C T (0, 0))) (hT : T ≠ 85) : ¬ IsSec w b := by
  rintro ⟨cs, hc⟩
  rw [h] at hc
  injection hc with hc
  injection hc with _ hc
  exact hT hc
theorem row_not_sec {base : Nat} {e : TypeId} {size : Nat} {v : Value} {n : Nat} {xs : List Value} (h : w.ownsRow base e size v n xs) (hT : e ≠ 85) {b : Nat} (hb : v.ownBlock = some b) : ¬ IsSec w b := by
  obtain ⟨cur, hc⟩ := row_type h hb
  exact not_sec hc hT
theorem map_not_sec {m n : Nat} (h : MapAt w m n pw) : ¬ IsSec w m := by
  obtain ⟨es, clock, hb⟩ := h.obj
  rintro ⟨cs, hc⟩
  rw [hb] at hc
  cases hc
theorem PR.kept (h : PR w G S q D vl vw vm st left ks pl pw) {G' S' : Nat → Prop} (hG : ∀ b, G b → G' b) (hS : ∀ b, S b → S' b) (hk : ∀ b, b < w.heap.size → Mut G w b → w'.heap[b]? = w.heap[b]?) (hs : ∀ b, S b → IsSec w b → b < w.heap.size → w'.heap[b]? = w.heap[b]?) : PR w' G' S' q D vl vw vm st left ks pl pw :=
  ⟨hG q h.inG, (hk q h.lt ⟨h.inG, not_sec h.cells (by decide)⟩).trans h.cells, h.fz, row_same h.lasts fun b hb => hk b (h.lasts.lt b hb).2 ⟨h.lastsG b hb, row_not_sec h.lasts (by decide) hb⟩, fun b hb => hG b (h.lastsG b hb), row_same h.waits fun b hb => hk b (h.waits.lt b hb).2 ⟨h.waitsG b hb, row_not_sec h.waits (by decide) hb⟩, fun b hb => hG b (h.waitsG b hb), h.secs.kept hS hs, h.wts.kept hS hs⟩
theorem PD.kept (h : PD w G S q D) {G' S' : Nat → Prop} (hG : ∀ b, G b → G' b) (hS : ∀ b, S b → S' b) (hk : ∀ b, b < w.heap.size → Mut G w b → w'.heap[b]? = w.heap[b]?) (hs : ∀ b, S b → IsSec w b → b < w.heap.size → w'.heap[b]? = w.heap[b]?) : PD w' G' S' q D := by
  obtain ⟨vl, vw, m, st, left, ks, pl, pw, h, hm, hM⟩ := h
  exact ⟨vl, vw, m, st, left, ks, pl, pw, h.kept hG hS hk hs, hG m hm, hM.same (hk m hM.lt ⟨hm, map_not_sec hM⟩)⟩
theorem PD.mono (h : PD w G S q D) {G' S' : Nat → Prop} (hG : ∀ b, G b → G' b) (hS : ∀ b, S b → S' b) : PD w G' S' q D := h.kept hG hS (fun _ _ _ => rfl) (fun _ _ _ _ => rfl)
/-- it is there still behind a call that touches none of its blocks -/
theorem PD.apart (h : PD w G S q D) {F : Nat → Prop} (k : Kept w w' F) (hF : ∀ b, b < w.heap.size → F b → ¬ G b ∧ ¬ S b) : PD w' G S q D :=
  h.kept (fun _ h => h) (fun _ h => h) (fun b hb hm => k.block b hb fun f => (hF b hb f).1 hm.1) (fun b hs _ hb => k.block b hb fun f => (hF b hb f).2 hs)
/-- it is there still behind a call of another disk's -/
theorem PD.beside (h : PD w G S q D) {H : Nat → Prop} (k : Kept w w' (Mut H w)) (hF : ∀ b, b < w.heap.size → G b → ¬ H b) : PD w' G S q D :=
  h.kept (fun _ h => h) (fun _ h => h) (fun b hb hm => k.block b hb fun f => hF b hb hm.1 f.1) (fun b _ hi hb => k.block b hb fun f => f.2 hi)

/-- The head block is written anew, and nothing else. -/
theorem PR.head (h : PR w G S q D vl vw vm st left ks pl pw) (hoth : ∀ b, b ≠ q → w'.heap[b]? = w.heap[b]?) {D' : DS} {vm' : Value} {st' : Bool} {left' : Int} {ks' : ByteArray}
    (hcell : w'.heap[q]? = some (.cells #[vl, vw, vm', .int .i64 (D'.done : Int), .bool D'.dead, .bool st', .int .i64 left', .string ks'] 80 (0, 0))) (hf : FuseIs D' st' left' ks') (h1 : D'.lasts = D.lasts) (h2 : D'.waits = D.waits) : PR w' G S q D' vl vw vm' st' left' ks' pl pw := by
  have hsec : ∀ b, S b → IsSec w b → b < w.heap.size → w'.heap[b]? = w.heap[b]? := fun b _ hi _ => hoth b fun e => not_sec h.cells (by decide) (e ▸ hi)
  exact ⟨h.inG, hcell, hf, by rw [h1]; exact row_same h.lasts fun b hb => hoth b (row_not h.cells h.lasts (by decide) b hb), h.lastsG, by rw [h2]; exact row_same h.waits fun b hb => hoth b (row_not h.cells h.waits (by decide) b hb), h.waitsG, by rw [h1]; exact h.secs.kept (fun _ h => h) hsec, by rw [h2]; exact h.wts.kept (fun _ h => h) hsec⟩
theorem MapAt.other {m n : Nat} {C : Array Value} {T : TypeId} (h : MapAt w m n pw) (hq : w.heap[q]? = some (.cells C T (0, 0))) : m ≠ q := by
  intro e
  subst e
  obtain ⟨es, clock, hb⟩ := h.obj
  rw [hb] at hq
  cases hq

/-- Mut along a call -/
theorem Kept.sec {F : Nat → Prop} (k : Kept w w' (Mut F w)) {b : Nat} (h : IsSec w b) : IsSec w' b := by
  obtain ⟨cs, hc⟩ := h
  exact ⟨cs, (k.block b (Array.getElem?_eq_some_iff.1 hc).1 fun f => f.2 ⟨cs, hc⟩).trans hc⟩
theorem Kept.transM {a b c : World} {G G' : Nat → Prop} (h : Kept a b (Mut G a)) (k : Kept b c (Mut G' b)) (hG : ∀ n, G' n → n < a.heap.size → G n) : Kept a c (Mut G a) := by
  refine h.trans k fun n hn => ?_
  by_cases hs : n < a.heap.size
  · exact .inl ⟨hG n hn.1 hs, fun hi => hn.2 (h.sec hi)⟩
  · exact .inr (by omega)
theorem Kept.ofBelow {F : Nat → Prop} (h : Below w.heap.size w w') : Kept w w' F := ⟨h.os, h.tape, h.output, h.size, fun b hb _ => h.block b hb⟩
end Go.Proofs.Ytlokehekkllbeaa
namespace Go.Proofs.Ytlokehekkllbeaa
open Go.RowKit Go.Maps

theorem p_live (q : Nat) (d : Bool) (w : World) (c : w.cell? ⟨q, 4, none⟩ = some (.bool d)) :
    Calls Try.prog 47 #[.pointer (some ⟨q, 0, none⟩)] w fun e w' => e = .returned (.int .i64 (if d then 20 else 0)) ∧ w = w' := by
  cases d <;>
  · go_enter Try.func47, Try.ntmps47
    go_wp2_with fail
    go_ret
    exact ⟨rfl, rfl⟩
theorem p_live_nil (w : World) : Calls Try.prog 47 #[.pointer none] w fun e w' => e = .returned (.int .i64 2) ∧ w = w' := by
  go_enter Try.func47, Try.ntmps47
  go_wp2_with fail
  go_ret
  exact ⟨rfl, rfl⟩

theorem p_find (q : Nat) (D : DS) (i : Int) (Al : Option Addr) (cl : Nat) (w : World) (c4 : w.cell? ⟨q, 4, none⟩ = some (.bool D.dead)) (c0 : w.cell? ⟨q, 0, none⟩ = some (.slice Al D.lasts.length cl)) :
    Calls Try.prog 35 #[.pointer (some ⟨q, 0, none⟩), .int .i64 i] w fun e w' => e = .returned (.int .i64 (if D.dead then 20 else if inside D i then 0 else 1)) ∧ w = w' := by
  have hl := p_live q D.dead w c4
  cases hd : D.dead with
  | true =>
    rw [hd] at c4 hl
    go_enter Try.func35, Try.ntmps35
    go_wp2_with fail
    refine hl.mono ?_
    rintro e w1 ⟨rfl, rfl⟩
    go_wp2_with fail
    go_ret
    exact ⟨rfl, rfl⟩
  | false =>
    rw [hd] at c4 hl
    by_cases hin : inside D i = true
    · rw [hin]
      unfold inside at hin
      simp only [Bool.and_eq_true, decide_eq_true_eq] at hin
      have a0 : ¬ i < 0 := by omega
      have a1 : ¬ (D.lasts.length : Int) ≤ i := by omega
      go_enter Try.func35, Try.ntmps35
      go_wp2_with fail
      refine hl.mono ?_
      rintro e w1 ⟨rfl, rfl⟩
      go_wp2_with fail
      go_ret
      exact ⟨rfl, rfl⟩
    · rw [Bool.not_eq_true] at hin
      rw [hin]
      have key : i < 0 ∨ (¬ i < 0 ∧ (D.lasts.length : Int) ≤ i) := by
        unfold inside at hin
        rw [Bool.and_eq_false_iff, decide_eq_false_iff_not, decide_eq_false_iff_not] at hin
        omega
      clear hin
      rcases key with a0 | ⟨a0, a1⟩
      · go_enter Try.func35, Try.ntmps35
        go_wp2_with fail
        refine hl.mono ?_
        rintro e w1 ⟨rfl, rfl⟩
        go_wp2_with fail
        go_ret
        exact ⟨rfl, rfl⟩
      · go_enter Try.func35, Try.ntmps35
        go_wp2_with fail
        refine hl.mono ?_
        rintro e w1 ⟨rfl, rfl⟩
        go_wp2_with fail
        go_ret
        exact ⟨rfl, rfl⟩
theorem p_find_nil (i : Int) (w : World) : Calls Try.prog 35 #[.pointer none, .int .i64 i] w fun e w' => e = .returned (.int .i64 2) ∧ w = w' := by
  go_enter Try.func35, Try.ntmps35
  go_wp2_with fail
  refine (p_live_nil w).mono ?_
  rintro e w1 ⟨rfl, rfl⟩
  go_wp2_with fail
  go_ret
  exact ⟨rfl, rfl⟩

theorem pLen_any (G S : Nat → Prop) (q : Nat) (D : DS) (w : World) (h : PD w G S q D) : Calls Try.prog 21 #[.pointer (some ⟨q, 0, none⟩)] w fun e w' => e = .returned (.int .i64 (D.lasts.length : Int)) ∧ w = w' := by
  obtain ⟨vl, vw, m, st, left, ks, pl, pw, h, -, -⟩ := h
  obtain ⟨_, _, hv, -⟩ := RowAt.of_own h.lasts
  have c : w.cell? ⟨q, 0, none⟩ = some vl := (row7 h.cells).1 0
  rw [hv] at c
  clear h hv
  go_enter Try.func21, Try.ntmps21
  go_wp2_with fail
  go_ret
  exact ⟨rfl, rfl⟩
theorem pWaits_any (G S : Nat → Prop) (q : Nat) (D : DS) (w : World) (h : PD w G S q D) : Calls Try.prog 13 #[.pointer (some ⟨q, 0, none⟩)] w fun e w' => e = .returned (.int .i64 (D.waits.length : Int)) ∧ w = w' := by
  obtain ⟨vl, vw, m, st, left, ks, pl, pw, h, -, -⟩ := h
  obtain ⟨_, _, hv, -⟩ := RowAt.of_own h.waits
  have c : w.cell? ⟨q, 1, none⟩ = some vw := (row7 h.cells).1 1
  rw [hv] at c
  clear h hv
  go_enter Try.func13, Try.ntmps13
  go_wp2_with fail
  go_ret
  exact ⟨rfl, rfl⟩
theorem pDead_any (G S : Nat → Prop) (q : Nat) (D : DS) (w : World) (h : PD w G S q D) : Calls Try.prog 44 #[.pointer (some ⟨q, 0, none⟩)] w fun e w' => e = .returned (.bool D.dead) ∧ w = w' := by
  obtain ⟨vl, vw, m, st, left, ks, pl, pw, h, -, -⟩ := h
  have c : w.cell? ⟨q, 4, none⟩ = some (.bool D.dead) := (row7 h.cells).1 4
  clear h
  go_enter Try.func44, Try.ntmps44
  go_wp2_with fail
  go_ret
  exact ⟨rfl, rfl⟩

theorem marks_size (l : List Bool) : (marks l).size = l.length := by unfold marks; simp [ByteArray.size]
/-- is there a true at a place? -/
theorem p_has (l : List Bool) (j : Nat) (w : World) : Calls Try.prog 54 #[.string (marks l), .int .i64 (j : Int)] w fun e w' => e = .returned (.bool (l.getD j false)) ∧ w = w' := by
  have hsz := marks_size l
  by_cases hj : j < l.length
  · have i1 : (j : Int) < ((marks l).size : Int) := by omega
    have i2 : j < (marks l).size := by omega
    have hb : (marks l)[j]'i2 = if l[j] then 1 else 0 := by
      have h1 : (marks l).data.toList[j]? = some (if l[j] then 1 else 0) := by
        unfold marks
        show (l.map fun b => if b then (1 : UInt8) else 0)[j]? = _
        rw [List.getElem?_map, List.getElem?_eq_getElem hj]
        rfl
      have h2 : (marks l).data.toList[j]? = some ((marks l)[j]'i2) := by rw [Array.getElem?_toList]; exact Array.getElem?_eq_getElem i2
      rw [h1] at h2
      exact (Option.some.inj h2).symm
    have hg : l.getD j false = l[j] := by simp [List.getD, hj]
    rw [hg]
    have i3 : (marks l)[j]? = some (if l[j] then 1 else 0) := by rw [getElem?_pos (marks l) j i2, hb]
    cases hlj : l[j] with
    | true =>
      rw [hlj] at hb i3
      go_enter Try.func54, Try.ntmps54
      go_wp2_with fail
      go_ret
      exact ⟨rfl, rfl⟩
    | false =>
      rw [hlj] at hb i3
      go_enter Try.func54, Try.ntmps54
      go_wp2_with fail
      go_ret
      exact ⟨rfl, rfl⟩
  · have i1 : ¬ (j : Int) < ((marks l).size : Int) := by omega
    have hg : l.getD j false = false := by simp [List.getD, List.getElem?_eq_none (Nat.le_of_not_lt hj)]
    rw [hg]
    go_enter Try.func54, Try.ntmps54
    go_wp2_with fail
    go_ret
    exact ⟨rfl, rfl⟩
end Go.Proofs.Ytlokehekkllbeaa
namespace Go.Proofs.Ytlokehekkllbeaa
open Go.RowKit Go.Maps

/-- the first r marks, the rest noughts -/
def marked (ks : List Bool) (r : Nat) : List UInt8 := (ks.take r).map (fun b => if b then (1 : UInt8) else 0) ++ List.replicate (ks.length - r) 0
theorem marked_length (ks : List Bool) {r : Nat} (h : r ≤ ks.length) : (marked ks r).length = ks.length := by unfold marked; rw [List.length_append, List.length_map, List.length_take, List.length_replicate]; omega
theorem marked_zero (ks : List Bool) : marked ks 0 = List.replicate ks.length 0 := rfl
theorem marked_all (ks : List Bool) : marked ks ks.length = ks.map (fun b => if b then (1 : UInt8) else 0) := by unfold marked; rw [List.take_length, Nat.sub_self]; exact List.append_nil _
theorem marked_next (ks : List Bool) {r : Nat} {b : Bool} (h : ks[r]? = some b) : (marked ks r).set r (if b then 1 else 0) = marked ks (r + 1) := by
  have hr := (List.getElem?_eq_some_iff.1 h).1
  have hl : ((ks.take r).map (fun b => if b then (1 : UInt8) else 0)).length = r := by rw [List.length_map, List.length_take]; omega
  unfold marked
  rw [List.set_append_right _ _ (by rw [hl]; exact Nat.le_refl _), hl, Nat.sub_self, show ks.length - r = (ks.length - (r + 1)) + 1 by omega, List.replicate_succ, List.set_cons_zero, take_snoc h, List.map_append, List.append_assoc]
  rfl
theorem marked_same (ks : List Bool) {r : Nat} (h : ks[r]? = some false) : marked ks r = marked ks (r + 1) := by
  have hr := (List.getElem?_eq_some_iff.1 h).1
  have hl : ((ks.take r).map (fun b => if b then (1 : UInt8) else 0)).length = r := by rw [List.length_map, List.length_take]; omega
  unfold marked
  rw [show ks.length - r = (ks.length - (r + 1)) + 1 by omega, List.replicate_succ, take_snoc h, List.map_append, List.append_assoc]
  rfl

theorem made_marks (n : Nat) (hn : n ≤ 140737488355328) (w : World) : ∃ w', (Instr.makeSlice 39 (.int .i64 (n : Int)) (.int .i64 (n : Int))).run Try.prog w = .ok (.slice (some ⟨w.heap.size, 0, none⟩) n n) w' ∧ w'.ownsRow w.heap.size 5 1 (.slice (some ⟨w.heap.size, 0, none⟩) n n) n (BS (List.replicate n 0)) ∧ Below w.heap.size w w' := by
  obtain ⟨i0, hi, hz0, hz1, hz2⟩ := info_parts (show (Try.prog.info? 5).map (fun i => (i.zero, i.size, i.bytes)) = some (some (.int .u8 0), 1, 1) by kernel_rfl)
  obtain ⟨w', h1, h2, h3⟩ := run_make_full (P := Try.prog) w w.heap.size 39 5 i0 _ 1 Try.underlying39 hi hz0 hz1 .i64 .i64 n (by rw [hz2]; omega) (by unfold maxLen; omega) (Nat.le_refl _)
  have hBS : (madeCells (Value.int .u8 0).cells (n * 1)).toList = BS (List.replicate n 0) := by
    show (madeCells #[Value.int .u8 0] (n * 1)).toList = _
    rw [toList_madeCells_one]
    unfold BS
    rw [List.map_replicate, Nat.mul_one]
    rfl
  rw [hBS] at h2
  exact ⟨w', h1, h2, (Below.refl _ _).grown h3 (Nat.le_refl _) (fun k h => by cases h)⟩

set_option maxHeartbeats 1000000 in
/-- burn: is it at its end? Else one less is left. -/
theorem p_burn (q : Nat) (st : Bool) (left : Int) (ks : ByteArray) (C : Array Value) (T : TypeId) (w : World) (hc : w.heap[q]? = some (.cells C T (0, 0))) (h5 : C[5]? = some (.bool st)) (h6 : C[6]? = some (.int .i64 left)) (h7 : C[7]? = some (.string ks))
    (hz : st = false → left = 0 ∧ ks = ByteArray.empty) (hl : 0 ≤ left) :
    Calls Try.prog 49 #[.pointer (some ⟨q, 5, none⟩)] w fun e w' => e = .returned (.bool (st && decide (left = 0))) ∧ w' = if st && decide (left ≠ 0) then w.setCell ⟨q, 6, none⟩ (.int .i64 (wrap64 (left - 1))) else w := by
  obtain ⟨hcell, hzz⟩ := row7 hc
  have c5 : w.cell? ⟨q, 5, none⟩ = some (.bool st) := (hcell 5).trans h5
  have c6 : w.cell? ⟨q, 6, none⟩ = some (.int .i64 left) := (hcell 6).trans h6
  have c7 : w.cell? ⟨q, 7, none⟩ = some (.string ks) := (hcell 7).trans h7
  have z6 := hzz 6
  clear hcell hzz hc h5 h6 h7
  cases st with
  | false =>
    obtain ⟨rfl, rfl⟩ := hz rfl
    go_enter Try.func49, Try.ntmps49
    go_wp2_with fail
    go_ret
    exact ⟨rfl, rfl⟩
  | true =>
    clear hz
    by_cases h0 : left = 0
    · subst h0
      go_enter Try.func49, Try.ntmps49
      go_wp2_with fail
      go_ret
      exact ⟨rfl, rfl⟩
    · have h0' : (left == 0) = false := by simp; exact h0
      have hd : decide (left = 0) = false := decide_eq_false h0
      have hd' : decide (left ≠ 0) = true := decide_eq_true h0
      rw [hd, hd']
      clear h0 hd hd'
      go_enter Try.func49, Try.ntmps49
      go_wp2_with fail
      go_ret
      exact ⟨rfl, rfl⟩
end Go.Proofs.Ytlokehekkllbeaa
namespace Go.Proofs.Ytlokehekkllbeaa
open Go.RowKit Go.Maps

/-- One pointer of what lasts is written anew. -/
theorem PR.setLast {w : World} {G S : Nat → Prop} {q : Nat} {D : DS} {vw vm : Value} {st : Bool} {left : Int} {ks : ByteArray} {pl : List (Option Nat)} {pw : List (Nat × Nat)} {gl cl : Nat} (h : PR w G S q D (.slice (some ⟨gl, 0, none⟩) D.lasts.length cl) vw vm st left ks pl pw) (a : Nat) {o : Option Nat} {s : List UInt8} (hs : SecAt w S o s) :
    PR (w.setCell ⟨gl, a, none⟩ (ptr o)) G S q { D with lasts := D.lasts.set a s } (.slice (some ⟨gl, 0, none⟩) D.lasts.length cl) vw vm st left ks (pl.set a o) pw := by
  have hq : q ≠ gl := fun e => row_not h.cells h.lasts (by decide) gl rfl e.symm
  have hst := (h.lasts.stored a (ptr o)).1
  rw [← PS_set] at hst
  have hsec : ∀ b, S b → IsSec w b → b < w.heap.size → (w.setCell ⟨gl, a, none⟩ (ptr o)).heap[b]? = w.heap[b]? := fun b _ hi _ => set_other fun e => row_not_sec h.lasts (by decide) rfl (e ▸ hi)
  refine ⟨h.inG, (set_other hq).trans h.cells, h.fz, ?_, h.lastsG, row_same h.waits fun b hb => set_other (rows_apart h.waits h.lasts (by decide) hb rfl), h.waitsG, (h.secs.kept (fun _ h => h) hsec).set a (hs.kept (fun _ h => h) hsec), h.wts.kept (fun _ h => h) hsec⟩
  exact own_eq hst (by simp) rfl (Nat.le_refl _)

/-- What waits is forgotten. -/
theorem PR.settled {w w' : World} {G S : Nat → Prop} {q : Nat} {D : DS} {vl vw vm : Value} {st : Bool} {left : Int} {ks : ByteArray} {pl : List (Option Nat)} {pw : List (Nat × Nat)} (h : PR w G S q D vl vw vm st left ks pl pw) (hoth : ∀ b, b < w.heap.size → b ≠ q → w'.heap[b]? = w.heap[b]?) {D' : DS} {vm' : Value} {st' : Bool} {left' : Int} {ks' : ByteArray}
    (hcell : w'.heap[q]? = some (.cells #[vl, .slice none 0 0, vm', .int .i64 (D'.done : Int), .bool D'.dead, .bool st', .int .i64 left', .string ks'] 80 (0, 0))) (hf : FuseIs D' st' left' ks') (h1 : D'.lasts = D.lasts) (h2 : D'.waits = []) : PR w' G S q D' vl (.slice none 0 0) vm' st' left' ks' pl [] := by
  have hsec : ∀ b, S b → IsSec w b → b < w.heap.size → w'.heap[b]? = w.heap[b]? := fun b _ hi hb => hoth b hb fun e => not_sec h.cells (by decide) (e ▸ hi)
  refine ⟨h.inG, hcell, hf, by rw [h1]; exact row_same h.lasts fun b hb => hoth b (h.lasts.lt b hb).2 (row_not h.cells h.lasts (by decide) b hb), h.lastsG, by rw [h2]; exact World.ownsRow_nil _ _ _ _, (fun b hb => by cases hb), by rw [h1]; exact h.secs.kept (fun _ h => h) hsec, by rw [h2]; exact Wts.nil _ _⟩
theorem PR.mono {w : World} {G G' S S' : Nat → Prop} {q : Nat} {D : DS} {vl vw vm : Value} {st : Bool} {left : Int} {ks : ByteArray} {pl : List (Option Nat)} {pw : List (Nat × Nat)} (h : PR w G S q D vl vw vm st left ks pl pw) (hG : ∀ b, G b → G' b) (hS : ∀ b, S b → S' b) : PR w G' S' q D vl vw vm st left ks pl pw := h.kept hG hS (fun _ _ _ => rfl) (fun _ _ _ _ => rfl)
/-- the head block may be turned -/
theorem PR.headMut {w : World} {G S : Nat → Prop} {q : Nat} {D : DS} {vl vw vm : Value} {st : Bool} {left : Int} {ks : ByteArray} {pl : List (Option Nat)} {pw : List (Nat × Nat)} (h : PR w G S q D vl vw vm st left ks pl pw) : Mut G w q := ⟨h.inG, not_sec h.cells (by decide)⟩

set_option maxHeartbeats 2000000 in
theorem p_settle (G S : Nat → Prop) (q : Nat) (D : DS) (vl vw vm : Value) (st : Bool) (left : Int) (ks : ByteArray) (pl : List (Option Nat)) (pw : List (Nat × Nat)) (w : World) (h : PR w G S q D vl vw vm st left ks pl pw)
    (hin : ∀ x ∈ D.waits, x.1 < D.lasts.length) (hlen : D.waits.length ≤ 1000000) (hll : D.lasts.length ≤ 1000000) :
    Calls Try.prog 48 #[.pointer (some ⟨q, 0, none⟩)] w fun e w' => e = .returned (.tuple #[]) ∧ Kept w w' (Mut G w) ∧ PD w' (More G w w') S q D.flushed := by
  have hq := h.inG
  have hqs := h.lt
  have hc := (row7 h.cells).1
  have c1 : w.cell? ⟨q, 1, none⟩ = some vw := hc 1
  obtain ⟨_, _, hvw, -⟩ := RowAt.of_own h.waits
  have hvw' : ∃ Aw cw, vw = .slice Aw D.waits.length cw := ⟨_, _, hvw⟩
  clear hvw
  obtain ⟨Aw, cw, rfl⟩ := hvw'
  have H := Lib.hid h
  clear h hc
  go_enter Try.func48, Try.ntmps48
  go_wp2_with fail
  go_loopw [3, 9] (fun _ i wr => ∃ (j : Nat) (pl' : List (Option Nat)), i = .int .i64 j ∧ j ≤ D.waits.length ∧ Hid (PR wr G S q { D with lasts := setAll D.lasts (D.waits.take j) } vl (.slice Aw D.waits.length cw) vm st left ks pl' pw) ∧ Kept w wr (Mut G w)) (fun _ i _ => D.waits.length - (intOf i).toNat)
  case atStart => exact ⟨0, pl, rfl, by omega, H, Kept.refl _ _⟩
  case round =>
    obtain ⟨j, pl', rfl, hj1, hx, hkept⟩ := hrel
    have hcr := (row7 hx.out.cells).1
    have c0 : wr.cell? ⟨q, 0, none⟩ = some vl := hcr 0
    have hqr : wr.heap[q]? = _ := hx.out.cells
    have hqrs := hx.out.lt
    have hsz := hkept.size
    by_cases hin1 : j < D.waits.length
    · have i1 : (j : Int) < (D.waits.length : Int) := by omega
      have i0 : (0 : Int) ≤ (j : Int) := by omega
      have hpwl := H.out.wts.1
      have hxj : D.waits[j]? = some D.waits[j] := List.getElem?_eq_getElem hin1
      have hyj : pw[j]? = some (pw[j]'(by omega)) := List.getElem?_eq_getElem (by omega)
      have hsn := take_snoc hxj
      have hwhole := hin _ (List.getElem_mem hin1)
      obtain ⟨⟨a, sx⟩, hxx⟩ : ∃ x, x = D.waits[j] := ⟨_, rfl⟩
      obtain ⟨⟨a', gs⟩, hyy⟩ : ∃ y, y = pw[j]'(by omega) := ⟨_, rfl⟩
      rw [← hxx] at hxj hsn hwhole
      rw [← hyy] at hyj
      clear hxx hyy
      obtain ⟨haa, hsec⟩ := hx.out.wts.2 j _ _ hyj hxj
      have haa' : a' = a := haa
      subst haa'
      have hnew : setAll D.lasts (D.waits.take (j + 1)) = (setAll D.lasts (D.waits.take j)).set a' sx := by rw [hsn, setAll_snoc]
      have hL : (setAll D.lasts (D.waits.take j)).length = D.lasts.length := setAll_length _ _
      obtain ⟨L, hLL⟩ : ∃ L, L = setAll D.lasts (D.waits.take j) := ⟨_, rfl⟩
      rw [← hLL] at hL hnew hx
      have ha : a' < D.lasts.length := hwhole
      have hlr : wr.ownsRow 0 90 1 vl L.length (PS pl') := hx.out.lasts
      obtain ⟨gl, cl, hvl, -, hgl⟩ := hlr.form (by omega)
      have hwr : wr.ownsRow 0 92 2 (.slice Aw D.waits.length cw) D.waits.length (PW pw) := hx.out.waits
      obtain ⟨gw, cw', hvw, -, hgw⟩ := hwr.form (by omega)
      injection hvw with e1 _ e2
      subst e1
      subst e2
      rw [hL] at hvl
      subst hvl
      obtain ⟨w1, w2⟩ := PW_get hyj
      have k1 : wr.cell? ⟨gw, j * 2, none⟩ = some (.int .i64 (a' : Int)) := (hwr.cellAt (j * 2) (by omega)).trans w1
      have k2 : wr.cell? ⟨gw, j * 2 + 1, none⟩ = some (.pointer (some ⟨gs, 0, none⟩)) := (hwr.cellAt (j * 2 + 1) (by omega)).trans w2
      have hb1 := Below.alloc (Below.refl wr.heap.size wr) (Nat.le_refl _) (.cells #[.int .i64 (a' : Int), .pointer (some ⟨gs, 0, none⟩)] 92)
      have hnewb := heap_alloc_new wr (.cells #[.int .i64 (a' : Int), .pointer (some ⟨gs, 0, none⟩)] 92)
      go_upto_region 3 with fail
      obtain ⟨g3, hg3⟩ : ∃ g3, g3 = wr.heap.size := ⟨_, rfl⟩
      rw [← hg3] at hnewb ⊢
      obtain ⟨wa, hwa⟩ : ∃ wa, wa = wr.alloc (.cells #[.int .i64 (a' : Int), .pointer (some ⟨gs, 0, none⟩)] 92) := ⟨_, rfl⟩
      rw [← hwa] at hb1 hnewb ⊢
      clear hwa hg3
      have hxa : PR wa G S q { D with lasts := L } (.slice (some ⟨gl, 0, none⟩) D.lasts.length cl) (.slice (some ⟨gw, 0, none⟩) D.waits.length cw) vm st left ks pl' pw := hx.out.kept (fun _ h => h) (fun _ h => h) (fun b hb _ => hb1.block b hb) (fun b _ _ hb => hb1.block b hb)
      have hsa : SecAt wa S (some gs) sx := hsec.kept (fun _ h => h) (fun b _ _ hb => hb1.block b hb)
      have hka : Kept w wa (Mut G w) := hkept.trans (Kept.ofBelow (F := fun _ => False) hb1) (fun _ h => h.elim)
      have d0 : wa.cell? ⟨q, 0, none⟩ = some (.slice (some ⟨gl, 0, none⟩) D.lasts.length cl) := (row7 hxa.cells).1 0
      have d1 : wa.cell? ⟨g3, 0, none⟩ = some (.int .i64 (a' : Int)) := (row7 hnewb).1 0
      have d2 : wa.cell? ⟨g3, 1, none⟩ = some (.pointer (some ⟨gs, 0, none⟩)) := (row7 hnewb).1 1
      have hla : wa.ownsRow 0 90 1 (.slice (some ⟨gl, 0, none⟩) D.lasts.length cl) D.lasts.length (PS pl') := own_eq hxa.lasts hL rfl (Nat.le_refl _)
      obtain ⟨u, hu⟩ : ∃ u, wa.cell? ⟨gl, a', none⟩ = some u := by
        rw [hla.cellAt a' (by omega)]
        have := hla.1
        exact ⟨_, List.getElem?_eq_getElem (by omega)⟩
      have z3 : wa.frozen? ⟨gl, a', none⟩ = false := hla.frozenAt a'
      have a0 : (0 : Int) ≤ (a' : Int) := by omega
      have a1 : (a' : Int) < (D.lasts.length : Int) := by omega
      have hset : PR (wa.setCell ⟨gl, a', none⟩ (.pointer (some ⟨gs, 0, none⟩))) G S q { D with lasts := L.set a' sx } (.slice (some ⟨gl, 0, none⟩) D.lasts.length cl) (.slice (some ⟨gw, 0, none⟩) D.waits.length cw) vm st left ks (pl'.set a' (some gs)) pw := by
        have h0 : PR wa G S q { D with lasts := L } (.slice (some ⟨gl, 0, none⟩) ({ D with lasts := L } : DS).lasts.length cl) (.slice (some ⟨gw, 0, none⟩) D.waits.length cw) vm st left ks pl' pw := by
          rw [show ({ D with lasts := L } : DS).lasts.length = D.lasts.length from hL]
          exact hxa
        have h1 := PR.setLast h0 a' hsa
        rw [show ({ D with lasts := L } : DS).lasts.length = D.lasts.length from hL] at h1
        exact h1
      have hG : Mut G w gl ∨ w.heap.size ≤ gl := by
        by_cases hs : gl < w.heap.size
        · exact .inl ⟨hx.out.lastsG gl rfl, fun hi => row_not_sec hla (by decide) rfl ((hka.sec hi))⟩
        · exact .inr (by omega)
      have hkp2 := hka.trans (Kept.setCell wa ⟨gl, a', none⟩ (.pointer (some ⟨gs, 0, none⟩)) (fun b => b = gl) rfl) (fun b h => by subst h; exact hG)
      rw [← hnew] at hset
      have HSET := Lib.hid hset
      have HKP2 := Lib.hid hkp2
      clear hset hsn hnew hLL hlr hwr w1 w2 hx hkept hwhole hxa hsa hka hla hkp2 hG hb1 hnewb hsec hqr hcr hyj hxj
      go_region
      all_goals go_wp2_with fail
      all_goals exact ⟨⟨j + 1, _, by go_num, hin1, HSET.out.kept (fun _ h => h) (fun _ h => h) (fun _ _ _ => rfl) (fun _ _ _ _ => rfl), HKP2.out.trans (Kept.drew _ (fun _ => False)) (fun _ h => h.elim)⟩, by simp [intOf]; omega⟩
    · have i1 : ¬ (j : Int) < (D.waits.length : Int) := by omega
      rw [List.take_of_length_le (by omega)] at hx
      have hb1 := Below.alloc (Below.refl wr.heap.size wr) (Nat.le_refl _) (.map #[] 0)
      have hM := MapAt.made wr
      have hmm := run_makeMap (P := Try.prog) 75 wr
      obtain ⟨m, hm⟩ : ∃ m, m = wr.heap.size := ⟨_, rfl⟩
      obtain ⟨wm, hwm⟩ : ∃ wm, wm = wr.alloc (.map #[] 0) := ⟨_, rfl⟩
      rw [← hwm, ← hm] at hmm hM
      rw [← hwm] at hb1
      have hcm := (hb1.block q hqrs).trans hqr
      have hms : m < wm.heap.size := hM.lt
      have d1 : wm.cell? ⟨q, 1, none⟩ = some (.slice Aw D.waits.length cw) := (row7 hcm).1 1
      have d2 : wm.cell? ⟨q, 2, none⟩ = some vm := (row7 hcm).1 2
      have z1 : wm.frozen? ⟨q, 1, none⟩ = false := (row7 hcm).2 1
      have z2 : wm.frozen? ⟨q, 2, none⟩ = false := (row7 hcm).2 2
      have hcf := Joins.block_setCell (i := 2) (Joins.block_setCell (i := 1) hcm (.slice none 0 0)) (.map (some m))
      have hoth : ∀ b, b ≠ q → ((wm.setCell ⟨q, 1, none⟩ (.slice none 0 0)).setCell ⟨q, 2, none⟩ (.map (some m))).heap[b]? = wm.heap[b]? := fun b hb => (set_other hb).trans (set_other hb)
      have hfz : FuseIs D.flushed st left ks := H.out.fz
      have hqm : m ≠ q := by omega
      have hzz : ((wm.setCell ⟨q, 1, none⟩ (.slice none 0 0)).setCell ⟨q, 2, none⟩ (.map (some m))).heap.size = wm.heap.size := by simp
      have hfin : PR ((wm.setCell ⟨q, 1, none⟩ (.slice none 0 0)).setCell ⟨q, 2, none⟩ (.map (some m))) G S q D.flushed vl (.slice none 0 0) (.map (some m)) st left ks pl' [] :=
        hx.out.settled (fun b hb hbq => (hoth b hbq).trans (hb1.block b hb)) (by rw [hcf]; unfold DS.flushed; simp) hfz rfl rfl
      have hMf : MapAt ((wm.setCell ⟨q, 1, none⟩ (.slice none 0 0)).setCell ⟨q, 2, none⟩ (.map (some m))) m 0 [] := hM.same (hoth m hqm)
      have hkf : Kept w ((wm.setCell ⟨q, 1, none⟩ (.slice none 0 0)).setCell ⟨q, 2, none⟩ (.map (some m))) (Mut G w) :=
        ((hkept.trans (Kept.ofBelow (F := fun _ => False) hb1) (fun _ h => h.elim)).trans (Kept.setCell wm ⟨q, 1, none⟩ _ (Mut G w) H.out.headMut) (fun _ h => .inl h)).trans (Kept.setCell _ ⟨q, 2, none⟩ _ (Mut G w) H.out.headMut) (fun _ h => .inl h)
      have HFIN := Lib.hid hfin
      have HMF := Lib.hid hMf
      have HKF := Lib.hid hkf
      have HM := Lib.hid hm
      have HZZ := Lib.hid hzz
      have HB1 := Lib.hid hb1.size
      clear hfin hMf hkf hm hwm hzz hb1 hM hcm hcf hoth hfz hqr hcr hx hkept hin hqm
      go_wp2_with fail
      go_end0
      have hzz := HZZ.out
      have hb1 := HB1.out
      have hm := HM.out
      exact ⟨rfl, HKF.out, vl, .slice none 0 0, m, st, left, ks, pl', [], HFIN.out.mono More.here (fun _ h => h), .inr ⟨by omega, by rw [hzz]; omega⟩, HMF.out⟩
end Go.Proofs.Ytlokehekkllbeaa
namespace Go.Proofs.Ytlokehekkllbeaa
open Go.RowKit Go.Maps

theorem keptOf_take {ws : List (Nat × List UInt8)} {kl : List Bool} {j : Nat} {x : Nat × List UInt8} (h : ws[j]? = some x) : keptOf (ws.take (j + 1)) kl = keptOf (ws.take j) kl ++ (if kl.getD j false then [x] else []) := by
  have hj := (List.getElem?_eq_some_iff.1 h).1
  by_cases hk : j < kl.length
  · have hb : kl[j]? = some kl[j] := List.getElem?_eq_getElem hk
    have h0 := keptOf_all (ws.take j) kl (k := j) (by rw [List.length_take]; omega)
    have h1 := keptOf_all (ws.take (j + 1)) kl (k := j + 1) (by rw [List.length_take]; omega)
    rw [List.take_take, Nat.min_self] at h0 h1
    rw [← h0, ← h1, keptOf_snoc h hb]
    simp [List.getD, hk]
  · have h0 := keptOf_all (ws.take j) kl (k := kl.length) (by rw [List.length_take]; omega)
    have h1 := keptOf_all (ws.take (j + 1)) kl (k := kl.length) (by rw [List.length_take]; omega)
    rw [List.take_take] at h0 h1
    rw [← h0, ← h1, show min kl.length (j + 1) = kl.length by omega, show min kl.length j = kl.length by omega]
    have : kl.getD j false = false := by simp [List.getD, List.getElem?_eq_none (Nat.le_of_not_lt hk)]
    rw [this]
    exact (List.append_nil _).symm
theorem keptOf_len (ws : List (Nat × List UInt8)) (kl : List Bool) : (keptOf ws kl).length ≤ ws.length := by
  unfold keptOf
  rw [List.length_map]
  refine Nat.le_trans (List.length_filter_le _ _) ?_
  rw [List.length_zip]
  omega

theorem info_PW : (Try.prog.info? 92).map (fun i => (i.zero, i.size, i.bytes)) = some (some (.agg #[.int .i64 0, .pointer none]), 2, 16) := by kernel_rfl
theorem info_P : (Try.prog.info? 90).map (fun i => (i.zero, i.size, i.bytes)) = some (some (.pointer none), 1, 8) := by kernel_rfl

set_option maxHeartbeats 2000000 in
theorem p_crash (G S : Nat → Prop) (q : Nat) (D : DS) (vl vw vm : Value) (st : Bool) (left : Int) (ks : ByteArray) (pl : List (Option Nat)) (pw : List (Nat × Nat)) (kl : List Bool) (w : World) (h : PR w G S q D vl vw vm st left ks pl pw)
    (hin : ∀ x ∈ D.waits, x.1 < D.lasts.length) (hlen : D.waits.length ≤ 1000000) (hll : D.lasts.length ≤ 1000000) :
    Calls Try.prog 50 #[.pointer (some ⟨q, 0, none⟩), .string (marks kl)] w fun e w' => e = .returned (.tuple #[]) ∧ Kept w w' (Mut G w) ∧ PD w' (More G w w') S q (D.crash kl) := by
  have hqs := h.lt
  have hc := (row7 h.cells).1
  have c1 : w.cell? ⟨q, 1, none⟩ = some vw := hc 1
  obtain ⟨_, _, hvw, -⟩ := RowAt.of_own h.waits
  have hvw' : ∃ Aw cw, vw = .slice Aw D.waits.length cw := ⟨_, _, hvw⟩
  clear hvw
  obtain ⟨Aw, cw, rfl⟩ := hvw'
  obtain ⟨i0, hi0, hz0, hz1, hz2⟩ := info_parts info_PW
  have H := Lib.hid h
  have HIN := Lib.hid hin
  clear h hc hin
  go_enter Try.func50, Try.ntmps50
  go_wp2_with fail
  go_loopw [4, 5, 6, 12] (fun kv _ _ i wr => ∃ (j : Nat) (pk : List (Nat × Nat)), i = .int .i64 j ∧ j ≤ D.waits.length ∧ Hid (Wts w S pk (keptOf (D.waits.take j) kl)) ∧ wr.ownsRow w.heap.size 92 2 kv (keptOf (D.waits.take j) kl).length (PW pk) ∧ Below w.heap.size w wr) (fun _ _ _ i _ => D.waits.length - (intOf i).toNat)
  case atStart => exact ⟨0, [], rfl, by omega, Wts.nil _ _, World.ownsRow_nil _ _ _ _, Below.refl _ _⟩
  case round =>
    obtain ⟨j, pk, rfl, hj1, hwt, hown, hb⟩ := hrel
    have hbs := hb.size
    by_cases hin1 : j < D.waits.length
    · have i1 : (j : Int) < (D.waits.length : Int) := by omega
      have i0' : (0 : Int) ≤ (j : Int) := by omega
      have hpwl := H.out.wts.1
      have hxj : D.waits[j]? = some D.waits[j] := List.getElem?_eq_getElem hin1
      have hyj : pw[j]? = some (pw[j]'(by omega)) := List.getElem?_eq_getElem (by omega)
      have hsn := keptOf_take (kl := kl) hxj
      obtain ⟨⟨a, sx⟩, hxx⟩ : ∃ x, x = D.waits[j] := ⟨_, rfl⟩
      obtain ⟨⟨a', gs⟩, hyy⟩ : ∃ y, y = pw[j]'(by omega) := ⟨_, rfl⟩
      rw [← hxx] at hxj hsn
      rw [← hyy] at hyj
      clear hxx hyy
      obtain ⟨haa, hsec⟩ := H.out.wts.2 j _ _ hyj hxj
      have haa' : a' = a := haa
      subst haa'
      have hwr : w.ownsRow 0 92 2 (.slice Aw D.waits.length cw) D.waits.length (PW pw) := H.out.waits
      obtain ⟨gw, cw', hvw, -, hgw⟩ := hwr.form (by omega)
      injection hvw with e1 _ e2
      subst e1
      subst e2
      obtain ⟨w1, w2⟩ := PW_get hyj
      have k1 : wr.cell? ⟨gw, j * 2, none⟩ = some (.int .i64 (a' : Int)) := (hb.cell (p := ⟨gw, j * 2, none⟩) hgw).trans ((hwr.cellAt (j * 2) (by omega)).trans w1)
      have k2 : wr.cell? ⟨gw, j * 2 + 1, none⟩ = some (.pointer (some ⟨gs, 0, none⟩)) := (hb.cell (p := ⟨gw, j * 2 + 1, none⟩) hgw).trans ((hwr.cellAt (j * 2 + 1) (by omega)).trans w2)
      have hb1 := hb.alloc hbs (.cells #[.int .i64 (a' : Int), .pointer (some ⟨gs, 0, none⟩)] 92)
      have hown1 := hown.alloc (.cells #[.int .i64 (a' : Int), .pointer (some ⟨gs, 0, none⟩)] 92)
      have hnewb := heap_alloc_new wr (.cells #[.int .i64 (a' : Int), .pointer (some ⟨gs, 0, none⟩)] 92)
      obtain ⟨g3, hg3⟩ : ∃ g3, g3 = wr.heap.size := ⟨_, rfl⟩
      go_upto_region 4 with fail
      rw [← hg3] at hnewb ⊢
      obtain ⟨wa, hwa⟩ : ∃ wa, wa = wr.alloc (.cells #[.int .i64 (a' : Int), .pointer (some ⟨gs, 0, none⟩)] 92) := ⟨_, rfl⟩
      rw [← hwa] at hb1 hnewb hown1 ⊢
      have hwas : wr.heap.size ≤ wa.heap.size := by rw [hwa]; simp
      have d1 : wa.cell? ⟨g3, 0, none⟩ = some (.int .i64 (a' : Int)) := (row7 hnewb).1 0
      have d2 : wa.cell? ⟨g3, 1, none⟩ = some (.pointer (some ⟨gs, 0, none⟩)) := (row7 hnewb).1 1
      have HOWN := Lib.hid hown1
      have HSEC := Lib.hid hsec
      clear hwa hg3 k1 k2 w1 w2 hown hsec hnewb hown1 hb
      go_wp2_with fail
      refine (p_has kl j wa).mono ?_
      rintro e w1 ⟨rfl, rfl⟩
      cases hkj : kl.getD j false with
      | false =>
        rw [hkj] at hsn
        have hsn' : keptOf (D.waits.take (j + 1)) kl = keptOf (D.waits.take j) kl := hsn.trans (List.append_nil _)
        rw [← hsn'] at hwt
        have hown2 : wa.ownsRow w.heap.size 92 2 u4 (keptOf (D.waits.take (j + 1)) kl).length (PW pk) := by rw [hsn']; exact HOWN.out
        clear hsn hsn' hkj
        go_wp2_with fail
        exact ⟨⟨j + 1, pk, by go_num, hin1, hwt, hown2, hb1⟩, by simp [intOf]; omega⟩
      | true =>
        rw [hkj] at hsn
        have hsn' : keptOf (D.waits.take (j + 1)) kl = keptOf (D.waits.take j) kl ++ [(a', sx)] := hsn
        have hwt2 : Hid (Wts w S (pk ++ [(a', gs)]) (keptOf (D.waits.take (j + 1)) kl)) := by
          rw [hsn']
          exact hwt.out.snoc a' gs HSEC.out
        have hkl2 := Nat.le_trans (keptOf_len (D.waits.take j) kl) (by rw [List.length_take]; omega : (D.waits.take j).length ≤ 1000000)
        have hrow : RowAt (wa.alloc (.cells #[.int .i64 (a' : Int), .pointer (some ⟨gs, 0, none⟩)] 92)) (.slice (some ⟨wa.heap.size, 0, none⟩) 1 1) 1 2 (PW [(a', gs)]) := by
          have ho := World.ownsRow_lit (base := 0) (e := 92) (size := 2) wa #[.int .i64 (a' : Int), .pointer (some ⟨gs, 0, none⟩)] 1 (Nat.zero_le _) (by unfold maxLen; omega) rfl
          exact RowAt.of_own ho
        have HSN := Lib.hid hsn'
        clear hsn hsn' hkj hwt
        go_wp2_with (at_builtin; go_must (refine wpList_appG rfl (.tmp 20) (.tmp 22) 74 rfl w.heap.size 92 i0 _ 2 16 Try.underlying74 hi0 hz0 hz1 hz2 rfl (by decide) u4 _ (keptOf (D.waits.take j) kl).length (PW pk) 1 (PW [(a', gs)]) rfl rfl (HOWN.out.alloc _) hrow (PW_one _) (by unfold maxLen; omega) (by omega) (by simp; omega) ?_; intro v2 w2 ho2 hg2; have hb2 : Below w.heap.size w w2 := (hb1.alloc hb1.size _).grown hg2 (by simp; omega) (fun k hk => (HOWN.out.lt k hk).1)))
        have hn : (keptOf (D.waits.take (j + 1)) kl).length = (keptOf (D.waits.take j) kl).length + 1 := by rw [HSN.out, List.length_append]; rfl
        have ho3 : w2.ownsRow w.heap.size 92 2 v2 (keptOf (D.waits.take (j + 1)) kl).length (PW (pk ++ [(a', gs)])) := own_eq ho2 hn.symm (PW_append _ _).symm (Nat.le_refl _)
        exact ⟨⟨j + 1, _, by go_num, hin1, hwt2, ho3, hb2⟩, by simp [intOf]; omega⟩
    · have i1 : ¬ (j : Int) < (D.waits.length : Int) := by omega
      rw [List.take_of_length_le (by omega)] at hwt hown
      have hkn := keptOf_len D.waits kl
      have hinK : ∀ x ∈ keptOf D.waits kl, x.1 < D.lasts.length := fun x hx => HIN.out x (keptOf_mem hx)
      obtain ⟨K, hK⟩ : ∃ K, K = keptOf D.waits kl := ⟨_, rfl⟩
      rw [← hK] at hwt hown hkn hinK
      obtain ⟨_, _, hkv, -⟩ := RowAt.of_own hown
      have hkv' : ∃ Ak ck, u4 = .slice Ak K.length ck := ⟨_, _, hkv⟩
      clear hkv
      obtain ⟨Ak, ck, rfl⟩ := hkv'
      have hxr : PR wr G S q D vl (.slice Aw D.waits.length cw) vm st left ks pl pw := H.out.kept (fun _ h => h) (fun _ h => h) (fun b hb' _ => hb.block b hb') (fun b _ _ hb' => hb.block b hb')
      have d1 : wr.cell? ⟨q, 1, none⟩ = some (.slice Aw D.waits.length cw) := (row7 hxr.cells).1 1
      have z1 : wr.frozen? ⟨q, 1, none⟩ = false := (row7 hxr.cells).2 1
      have hoth : ∀ b, b ≠ q → (wr.setCell ⟨q, 1, none⟩ (.slice Ak K.length ck)).heap[b]? = wr.heap[b]? := fun b hb => set_other hb
      have hcf := Joins.block_setCell (i := 1) hxr.cells (.slice Ak K.length ck)
      have hsec : ∀ b, S b → IsSec wr b → b < wr.heap.size → (wr.setCell ⟨q, 1, none⟩ (.slice Ak K.length ck)).heap[b]? = wr.heap[b]? := fun b _ hi _ => hoth b fun e => not_sec hxr.cells (by decide) (e ▸ hi)
      have hwtr : Wts wr S pk K := hwt.out.kept (fun _ h => h) (fun b _ _ hb' => hb.block b hb')
      have hx2 : PR (wr.setCell ⟨q, 1, none⟩ (.slice Ak K.length ck)) (More G w wr) S q { D with waits := K } vl (.slice Ak K.length ck) vm st left ks pl pk := by
        refine ⟨.inl hxr.inG, ?_, hxr.fz, row_same hxr.lasts fun b hb => hoth b (row_not hxr.cells hxr.lasts (by decide) b hb), fun b hb => .inl (hxr.lastsG b hb), own_eq (row_same hown fun b hb => hoth b (row_not hxr.cells hown (by decide) b hb)) rfl rfl (Nat.zero_le _), fun b hb => .inr (hown.lt b hb), hxr.secs.kept (fun _ h => h) hsec, hwtr.kept (fun _ h => h) hsec⟩
        rw [hcf]
        simp
      have hk2 : Kept w (wr.setCell ⟨q, 1, none⟩ (.slice Ak K.length ck)) (Mut G w) := (Kept.ofBelow hb).trans (Kept.setCell wr ⟨q, 1, none⟩ _ (Mut G w) H.out.headMut) (fun _ h => .inl h)
      have hz2' : (wr.setCell ⟨q, 1, none⟩ (.slice Ak K.length ck)).heap.size = wr.heap.size := by simp
      obtain ⟨w2, hw2⟩ : ∃ w2, w2 = wr.setCell ⟨q, 1, none⟩ (.slice Ak K.length ck) := ⟨_, rfl⟩
      have HX2 := Lib.hid hx2
      have HK2 := Lib.hid hk2
      have HKE := Lib.hid hK
      have HZ2 := Lib.hid hz2'
      clear hwt hown hxr hoth hcf hsec hwtr hx2 hk2 hK hb hz2'
      go_upto_region 8 with fail
      rw [← hw2] at HX2 HK2 HZ2 ⊢
      clear hw2 d1 z1 i1
      go_wp2_with fail
      refine (p_settle (More G w wr) S q { D with waits := K } vl (.slice Ak K.length ck) vm st left ks pl pk w2 HX2.out hinK (Nat.le_trans hkn hlen) hll).mono ?_
      rintro e w3 ⟨rfl, hk3, hx3⟩
      obtain ⟨vl3, vw3, m3, st3, l3, ks3, pl3, pw3, hx3, hm3, hM3⟩ := hx3
      have hc3 := (row7 hx3.cells).1
      have hzz := (row7 hx3.cells).2
      have e4 : w3.cell? ⟨q, 4, none⟩ = some (.bool D.dead) := hc3 4
      have e5 : w3.cell? ⟨q, 5, none⟩ = some (.bool st3) := hc3 5
      have e6 : w3.cell? ⟨q, 6, none⟩ = some (.int .i64 l3) := hc3 6
      have e7 : w3.cell? ⟨q, 7, none⟩ = some (.string ks3) := hc3 7
      have y4 := hzz 4
      have y5 := hzz 5
      have y6 := hzz 6
      have y7 := hzz 7
      have HX3 := Lib.hid hx3
      have HM3 := Lib.hid hM3
      have HG3 := Lib.hid hm3
      have HK3 := Lib.hid hk3
      clear hx3 hM3 hm3 hk3 hc3 hzz
      go_wp2_with fail
      go_end0
      have hoth : ∀ b, b ≠ q → ((((w3.setCell ⟨q, 4, none⟩ (.bool true)).setCell ⟨q, 5, none⟩ (.bool false)).setCell ⟨q, 6, none⟩ (.int .i64 0)).setCell ⟨q, 7, none⟩ (.string ByteArray.empty)).heap[b]? = w3.heap[b]? := fun b hb => (((set_other hb).trans (set_other hb)).trans (set_other hb)).trans (set_other hb)
      have hcf := Joins.block_setCell (i := 7) (Joins.block_setCell (i := 6) (Joins.block_setCell (i := 5) (Joins.block_setCell (i := 4) HX3.out.cells (.bool true)) (.bool false)) (.int .i64 0)) (.string ByteArray.empty)
      have hKE := HKE.out
      have hfin : PR ((((w3.setCell ⟨q, 4, none⟩ (.bool true)).setCell ⟨q, 5, none⟩ (.bool false)).setCell ⟨q, 6, none⟩ (.int .i64 0)).setCell ⟨q, 7, none⟩ (.string ByteArray.empty)) (More (More G w wr) w2 w3) S q (D.crash kl) vl3 vw3 (.map (some m3)) false 0 ByteArray.empty pl3 pw3 := by
        refine HX3.out.head hoth (D' := D.crash kl) ?_ (fun h => by cases h) ?_ rfl
        · rw [hcf]
          unfold DS.crash
          simp
          rfl
        · show setAll D.lasts (keptOf D.waits kl) = setAll D.lasts K
          rw [hKE]
      have hmq : m3 ≠ q := HM3.out.other HX3.out.cells
      have hk := ((HK2.out.transM HK3.out (fun n hn hs => hn.elim id fun h => absurd h.1 (by omega))).trans (Kept.setCell w3 ⟨q, 4, none⟩ (.bool true) (Mut G w) H.out.headMut) (fun _ h => .inl h)).trans (((Kept.setCell _ ⟨q, 5, none⟩ (.bool false) (Mut G w) H.out.headMut).trans (Kept.setCell _ ⟨q, 6, none⟩ (.int .i64 0) (Mut G w) H.out.headMut) (fun _ h => .inl h)).trans (Kept.setCell _ ⟨q, 7, none⟩ (.string ByteArray.empty) (Mut G w) H.out.headMut) (fun _ h => .inl h)) (fun _ h => .inl h)
      have hz4 : ((((w3.setCell ⟨q, 4, none⟩ (.bool true)).setCell ⟨q, 5, none⟩ (.bool false)).setCell ⟨q, 6, none⟩ (.int .i64 0)).setCell ⟨q, 7, none⟩ (.string ByteArray.empty)).heap.size = w3.heap.size := by simp
      have hz2 := HZ2.out
      have hk3s := HK3.out.size
      have hsub : ∀ b, More (More G w wr) w2 w3 b → More G w ((((w3.setCell ⟨q, 4, none⟩ (.bool true)).setCell ⟨q, 5, none⟩ (.bool false)).setCell ⟨q, 6, none⟩ (.int .i64 0)).setCell ⟨q, 7, none⟩ (.string ByteArray.empty)) b := by
        intro b hb
        rcases hb with (hb | hb) | hb
        · exact .inl hb
        · exact .inr ⟨hb.1, by rw [hz4]; omega⟩
        · exact .inr ⟨by omega, by rw [hz4]; exact hb.2⟩
      exact ⟨rfl, hk, vl3, vw3, m3, false, 0, ByteArray.empty, pl3, pw3, hfin.mono hsub (fun _ h => h), hsub m3 HG3.out, HM3.out.same (hoth m3 hmq)⟩
end Go.Proofs.Ytlokehekkllbeaa
namespace Go.Proofs.Ytlokehekkllbeaa
open Go.RowKit Go.Maps

/-- A disk in memory that lives, and is not too long. -/
structure Fine (D : DS) : Prop where
  ok : D.ok
  done : D.done < 4611686018427387904
  waits : D.waits.length < 1000000
  lasts : D.lasts.length ≤ 1000000
  keep : D.keep.length ≤ 140737488355328

set_option maxHeartbeats 2000000 in
theorem p_step (G S : Nat → Prop) (q : Nat) (D : DS) (w : World) (h : PD w G S q D) (hdead : D.dead = false) (hin : ∀ x ∈ D.waits, x.1 < D.lasts.length) (hd : D.done < 4611686018427387904) (hlen : D.waits.length ≤ 1000000) (hll : D.lasts.length ≤ 1000000) :
    Calls Try.prog 37 #[.pointer (some ⟨q, 0, none⟩)] w fun e w' => e = .returned (.int .i64 (if D.fuse = some 0 then 20 else 0)) ∧ Kept w w' (Mut G w) ∧ PD w' (More G w w') S q (if D.fuse = some 0 then D.crash D.keep else D.tick) := by
  obtain ⟨vl, vw, m, st, left, ks, pl, pw, h, hm, hM⟩ := h
  obtain ⟨hf1, hf2⟩ := h.fz hdead
  have hq := h.lt
  obtain ⟨hcell, hzz⟩ := row7 h.cells
  have c3 : w.cell? ⟨q, 3, none⟩ = some (.int .i64 (D.done : Int)) := hcell 3
  have z3 := hzz 3
  have c7 : w.cell? ⟨q, 7, none⟩ = some (.string ks) := hcell 7
  have hmq : m ≠ q := hM.other h.cells
  have H := Lib.hid h
  have HM := Lib.hid hM
  have HGM := Lib.hid hm
  have HDEAD := Lib.hid hdead
  cases hfu : D.fuse with
  | none =>
    obtain ⟨rfl, rfl, rfl⟩ := hf1 hfu
    have hb : Calls Try.prog 49 #[.pointer (some ⟨q, 5, none⟩)] w fun e w' => e = .returned (.bool false) ∧ w' = w := (p_burn q false 0 _ _ _ w h.cells rfl rfl rfl (fun _ => ⟨rfl, rfl⟩) (by omega)).mono fun e w' h => ⟨h.1, h.2⟩
    have hif : (if (none : Option Nat) = some 0 then D.crash D.keep else D.tick) = D.tick := rfl
    have hif2 : (if (none : Option Nat) = some 0 then (20 : Int) else 0) = 0 := rfl
    rw [hif, hif2]
    have hfz : FuseIs D.tick false 0 ByteArray.empty := fun _ => ⟨fun _ => ⟨rfl, rfl, rfl⟩, fun k hk => by unfold DS.tick at hk; rw [hfu] at hk; cases hk⟩
    have HFZ := Lib.hid hfz
    clear hcell hzz h hM hm hdead hf1 hf2 hfu hif hif2 hfz
    go_enter Try.func37, Try.ntmps37
    go_wp2_with fail
    refine hb.mono ?_
    rintro e w1 ⟨rfl, rfl⟩
    go_wp2_with fail
    go_ret
    have hoth : ∀ b, b ≠ q → (w1.setCell ⟨q, 3, none⟩ (.int .i64 ((D.done : Int) + 1))).heap[b]? = w1.heap[b]? := fun b hb => set_other hb
    refine ⟨rfl, Kept.setCell w1 ⟨q, 3, none⟩ _ (Mut G w1) H.out.headMut, vl, vw, m, false, 0, ByteArray.empty, pl, pw, (H.out.head hoth ?_ HFZ.out rfl rfl).mono More.here (fun _ h => h), .inl HGM.out, HM.out.same (hoth m hmq)⟩
    rw [Joins.block_setCell H.out.cells _]
    unfold DS.tick
    simp
  | some k =>
    obtain ⟨rfl, rfl, hk, rfl⟩ := hf2 k hfu
    cases k with
    | zero =>
      have hb : Calls Try.prog 49 #[.pointer (some ⟨q, 5, none⟩)] w fun e w' => e = .returned (.bool true) ∧ w' = w := (p_burn q true 0 _ _ _ w h.cells rfl rfl rfl (fun h => by cases h) (by omega)).mono fun e w' h => ⟨h.1, h.2⟩
      have hif : (if (some 0 : Option Nat) = some 0 then D.crash D.keep else D.tick) = D.crash D.keep := if_pos rfl
      have hif2 : (if (some 0 : Option Nat) = some 0 then (20 : Int) else 0) = 20 := if_pos rfl
      rw [hif, hif2]
      have hcr := p_crash G S q D vl vw (.map (some m)) true 0 (marks D.keep) pl pw D.keep w h hin hlen hll
      clear hcell hzz h hM hm hdead hf1 hf2 hfu hif hif2
      go_enter Try.func37, Try.ntmps37
      go_wp2_with fail
      refine hb.mono ?_
      rintro e w1 ⟨rfl, rfl⟩
      go_wp2_with fail
      refine hcr.mono ?_
      rintro e w2 ⟨rfl, hk2, hx2⟩
      go_wp2_with fail
      go_ret
      exact ⟨rfl, hk2, hx2⟩
    | succ k =>
      have hne : ¬ (((k + 1 : Nat) : Int) = 0) := by omega
      have hdf : decide (((k + 1 : Nat) : Int) = 0) = false := decide_eq_false hne
      have hdt : decide (((k + 1 : Nat) : Int) ≠ 0) = true := decide_eq_true hne
      have hwr : wrap64 (((k + 1 : Nat) : Int) - 1) = (k : Int) := by unfold wrap64; omega
      have hb : Calls Try.prog 49 #[.pointer (some ⟨q, 5, none⟩)] w fun e w' => e = .returned (.bool false) ∧ w' = w.setCell ⟨q, 6, none⟩ (.int .i64 (k : Int)) := (p_burn q true ((k + 1 : Nat) : Int) _ _ _ w h.cells rfl rfl rfl (fun h => by cases h) (by omega)).mono fun e w' h => by
        rw [hdf, hdt, hwr] at h
        exact ⟨h.1, h.2⟩
      have hif : (if (some (k + 1) : Option Nat) = some 0 then D.crash D.keep else D.tick) = D.tick := if_neg (fun h => by cases h)
      have hif2 : (if (some (k + 1) : Option Nat) = some 0 then (20 : Int) else 0) = 0 := if_neg (fun h => by cases h)
      rw [hif, hif2]
      have hfz : FuseIs D.tick true (k : Int) (marks D.keep) := by
        intro _
        refine ⟨fun hn => ?_, fun k' hk' => ?_⟩
        · unfold DS.tick at hn
          rw [hfu] at hn
          cases hn
        · unfold DS.tick at hk'
          rw [hfu] at hk'
          simp at hk'
          subst hk'
          exact ⟨rfl, rfl, by omega, rfl⟩
      have HFZ := Lib.hid hfz
      have d3 : (w.setCell ⟨q, 6, none⟩ (.int .i64 (k : Int))).cell? ⟨q, 3, none⟩ = some (.int .i64 (D.done : Int)) := by
        rw [(row7 (Joins.block_setCell h.cells _)).1 3]
        simp
      have y3 : (w.setCell ⟨q, 6, none⟩ (.int .i64 (k : Int))).frozen? ⟨q, 3, none⟩ = false := (row7 (Joins.block_setCell h.cells _)).2 3
      obtain ⟨w6, hw6⟩ : ∃ w6, w6 = w.setCell ⟨q, 6, none⟩ (.int .i64 (k : Int)) := ⟨_, rfl⟩
      rw [← hw6] at hb d3 y3
      have HW6 := Lib.hid hw6
      clear hcell hzz h hM hm hdead hf1 hf2 hfu hif hif2 hfz hw6 hne hdf hdt hwr
      go_enter Try.func37, Try.ntmps37
      go_wp2_with fail
      refine hb.mono ?_
      rintro e w1 ⟨rfl, rfl⟩
      go_wp2_with fail
      go_ret
      have hw6 := HW6.out
      have hoth : ∀ b, b ≠ q → (w1.setCell ⟨q, 3, none⟩ (.int .i64 ((D.done : Int) + 1))).heap[b]? = w.heap[b]? := fun b hb => (set_other hb).trans (by rw [hw6]; exact set_other hb)
      refine ⟨rfl, ?_, vl, vw, m, true, (k : Int), marks D.keep, pl, pw, (H.out.head hoth ?_ HFZ.out rfl rfl).mono More.here (fun _ h => h), .inl HGM.out, HM.out.same (hoth m hmq)⟩
      · have k1 : Kept w w1 (Mut G w) := by rw [hw6]; exact Kept.setCell w ⟨q, 6, none⟩ _ (Mut G w) H.out.headMut
        exact k1.trans (Kept.setCell w1 ⟨q, 3, none⟩ _ (Mut G w) H.out.headMut) (fun _ h => .inl h)
      · rw [hw6, Joins.block_setCell (Joins.block_setCell H.out.cells _) _]
        unfold DS.tick
        simp
end Go.Proofs.Ytlokehekkllbeaa
namespace Go.Proofs.Ytlokehekkllbeaa
open Go.RowKit Go.Maps

theorem info_Sec : (Try.prog.info? 85).map (fun i => (i.zero, i.size)) = some (some (.agg (sec (List.replicate 512 0))), 512) := by kernel_rfl
theorem sec_zero (w : World) : (zeroValue 85).run Try.prog w = .ok (.agg (sec (List.replicate 512 0))) w := (zero_of_info info_Sec).1 w
theorem sec_info : (Try.prog.info? 85).map (·.size) = some 512 := (zero_of_info info_Sec).2
theorem u8_one : (Try.prog.info? 5).map (·.size) = some 1 := by kernel_rfl

/-- copy(s[:], b) into a new sector -/
theorem run_copy_sec {w : World} {G m cc : Nat} (ty : TypeId) (Z : Array Value) (ad : Addr) (l : List UInt8) (hg : w.heap[G]? = some (.cells Z 85 (0, 0))) (hZ : Z.size = 512) (hl : l.length = 512) (hm : 512 ≤ m)
    (hsrc : ∀ j u, (BS l)[j]? = some u → w.cell? (ad.add j) = some u) :
    (Builtin.copy_ #[39, 39] ty #[.slice (some ⟨G, 0, none⟩) 512 512, .slice (some ad) m cc]).run Try.prog w = .ok (.int .i64 512) (w.setRow G (sec l)) := by
  have h := run_copy_row (P := Try.prog) w 39 39 ty 5 G 0 512 512 ad m cc Z 85 (BS l) Try.underlying39 u8_one hg (by rw [BS_length, hl]; exact (Nat.min_eq_right hm).symm) hsrc (by rw [BS_length]; omega) (BS_one l)
  have e : (Z.toList.take 0 ++ BS l ++ Z.toList.drop (0 + (BS l).length)) = BS l := by
    rw [List.take_zero, List.nil_append, List.drop_eq_nil_of_le (by rw [BS_length, Array.length_toList]; omega), List.append_nil]
  rw [e, BS_length, hl] at h
  exact h

theorem own_map_count {w : World} {m n n' : Nat} {D : DataW Unit} (h : w.ownsMap Try.prog 3 Rp m n D) (e : n = n') : w.ownsMap Try.prog 3 Rp m n' D := e ▸ h
/-- What waits is another row now. -/
theorem PR.waiting {w w2 : World} {G S G' S' : Nat → Prop} {q : Nat} {D : DS} {vl vw vm v' : Value} {st : Bool} {left : Int} {ks : ByteArray} {pl : List (Option Nat)} {pw pw' : List (Nat × Nat)} {ws : List (Nat × List UInt8)} (h : PR w G S q D vl vw vm st left ks pl pw) (hG : ∀ b, G b → G' b) (hS : ∀ b, S b → S' b) (hk : ∀ b, b < w.heap.size → vw.ownBlock ≠ some b → w2.heap[b]? = w.heap[b]?)
    (ho : w2.ownsRow 0 92 2 v' ws.length (PW pw')) (hvG : ∀ b, v'.ownBlock = some b → G' b) (hw : Wts w S' pw' ws) : PR (w2.setCell ⟨q, 1, none⟩ v') G' S' q { D with waits := ws } vl v' vm st left ks pl pw' := by
  have hpw : vw.ownBlock ≠ some q := fun e => row_not h.cells h.waits (by decide) q e rfl
  have hc2 := (hk q h.lt hpw).trans h.cells
  have hl2 : w2.ownsRow 0 90 1 vl D.lasts.length (PS pl) := row_same h.lasts fun b hb => hk b (h.lasts.lt b hb).2 fun e => rows_apart h.waits h.lasts (by decide) e hb rfl
  have hsec : ∀ b, IsSec w b → b < w.heap.size → (w2.setCell ⟨q, 1, none⟩ v').heap[b]? = w.heap[b]? := fun b hi hb => (set_other (by rintro rfl; exact not_sec h.cells (by decide) hi)).trans (hk b hb fun e => row_not_sec h.waits (by decide) e hi)
  refine ⟨hG q h.inG, ?_, h.fz, row_same hl2 fun b hb => set_other (row_not hc2 hl2 (by decide) b hb), fun b hb => hG b (h.lastsG b hb), row_same ho fun b hb => set_other (row_not hc2 ho (by decide) b hb), hvG, h.secs.kept hS fun b _ hi hb => hsec b hi hb, hw.kept (fun _ h => h) fun b _ hi hb => hsec b hi hb⟩
  rw [Joins.block_setCell hc2 _]
  simp

set_option maxHeartbeats 2000000 in
theorem p_wait (G S : Nat → Prop) (q : Nat) (D : DS) (a : Nat) (v : Value) (s : List UInt8) (w : World) (h : PD w G S q D) (hs : s.length = 512) (hv : Rd w w.heap.size v s) (ha : a < D.lasts.length) (hlen : D.waits.length < 1000000) (hll : D.lasts.length ≤ 1000000) :
    Calls Try.prog 36 #[.pointer (some ⟨q, 0, none⟩), .int .i64 (a : Int), v] w fun e w' => e = .returned (.tuple #[]) ∧ Kept w w' (Mut G w) ∧ PD w' (More G w w') (More S w w') q (D.wrote a s) := by
  obtain ⟨vl, vw, m, st, left, ks, pl, pw, h, hm, hM⟩ := h
  obtain ⟨A, c, rfl, h1, h2, h3, h4⟩ := hv
  obtain ⟨b, o, rfl, hbs, hcell⟩ := h4 (by intro e; rw [e] at hs; simp at hs)
  rw [hs] at h1 ⊢
  obtain ⟨i0, hi0, hz0, hz1, hz2⟩ := info_parts info_PW
  have hq := h.lt
  have H := Lib.hid h
  have HM := Lib.hid hM
  have HGM := Lib.hid hm
  have HC := Lib.hid hcell
  have hzero := sec_zero
  have hZs : (sec (List.replicate 512 0)).size = 512 := by rw [sec_size, List.length_replicate]
  obtain ⟨Z, hZ⟩ : ∃ Z, Z = sec (List.replicate 512 0) := ⟨_, rfl⟩
  rw [← hZ] at hZs
  simp only [← hZ] at hzero
  have hnewb := heap_alloc_new w (.cells Z 85)
  have hb1 := Below.alloc (Below.refl w.heap.size w) (Nat.le_refl _) (.cells Z 85)
  clear h hM hm hcell h4 hZ
  go_enter Try.func36, Try.ntmps36
  go_upto_region 1 with fail
  obtain ⟨g, hg⟩ : ∃ g, g = w.heap.size := ⟨_, rfl⟩
  have hgq : q < g := by omega
  have hgw : w.heap.size ≤ g := by omega
  have hgb : b < g := by omega
  rw [← hg] at hnewb ⊢
  obtain ⟨w1, hw1⟩ : ∃ w1, w1 = w.alloc (.cells Z 85) := ⟨_, rfl⟩
  rw [← hw1] at hb1 hnewb ⊢
  have hz1' : w1.heap.size = g + 1 := by rw [hw1, hg]; simp
  have hcp := run_copy_sec (w := w1) (G := g) (m := 512) (cc := c) 3 Z ⟨b, o, none⟩ s hnewb hZs hs (Nat.le_refl _) (fun j u hu => by
    obtain ⟨x, hx, rfl⟩ := BS_get hu
    rw [plus_zero]
    exact (hb1.cell (p := ⟨b, o + j, none⟩) hbs).trans (HC.out j x hx))
  have HG := Lib.hid hg
  have HZ1 := Lib.hid hz1'
  clear hw1 hg hz1'
  go_upto_region 2 with fail
  have hb2 := below_setRow hb1 hgw (sec s)
  have hsec2 := setRow_heap w1 g Z (sec s) _ _ hnewb
  have hz2' := setRow_size w1 g (sec s)
  obtain ⟨w2, hw2⟩ : ∃ w2, w2 = w1.setRow g (sec s) := ⟨_, rfl⟩
  rw [← hw2] at hb2 hsec2 hz2' ⊢
  have hz2 : w2.heap.size = g + 1 := hz2'.trans HZ1.out
  have HZ2 := Lib.hid hz2
  have hx2 : PR w2 G S q D vl vw (.map (some m)) st left ks pl pw := H.out.kept (fun _ h => h) (fun _ h => h) (fun b hb _ => hb2.block b hb) (fun b _ _ hb => hb2.block b hb)
  have hM2 : MapAt w2 m D.waits.length pw := HM.out.same (hb2.block m HM.out.lt)
  have d1 : w2.cell? ⟨q, 1, none⟩ = some vw := (row7 hx2.cells).1 1
  have hq2 : q < w2.heap.size := by omega
  have hrow : RowAt (w2.alloc (.cells #[.int .i64 (a : Int), .pointer (some ⟨g, 0, none⟩)] 92)) (.slice (some ⟨w2.heap.size, 0, none⟩) 1 1) 1 2 (PW [(a, g)]) := by
    have ho := World.ownsRow_lit (base := 0) (e := 92) (size := 2) w2 #[.int .i64 (a : Int), .pointer (some ⟨g, 0, none⟩)] 1 (Nat.zero_le _) (by unfold maxLen; omega) rfl
    exact RowAt.of_own ho
  have hpc : ∀ W : World, Kept w2 W (fun n => vw.ownBlock = some n) → W.frozen? ⟨q, 1, none⟩ = false ∧ W.cell? ⟨q, 1, none⟩ = some vw := by
    intro W hW
    have hc := (hW.block q hq2 (fun e => row_not hx2.cells hx2.waits (by decide) q e rfl)).trans hx2.cells
    exact ⟨(row7 hc).2 1, (row7 hc).1 1⟩
  have HPC := Lib.hid hpc
  have HX2 := Lib.hid hx2
  have HM2 := Lib.hid hM2
  have HSEC2 := Lib.hid hsec2
  have HB2 := Lib.hid hb2
  have HROW := Lib.hid hrow
  clear hpc hx2 hM2 hsec2 hb2 hcp hnewb hb1 hw2 hz2' hz2 hrow
  go_upto_region 3 with (at_builtin; go_must (refine wpList_appL rfl (.tmp 17) (.tmp 21) 74 rfl 0 92 i0 _ 2 16 Try.underlying74 hi0 hz0 hz1 hz2 rfl (by decide) vw _ D.waits.length (PW pw) 1 (PW [(a, g)]) rfl rfl (HX2.out.waits.alloc _) HROW.out (PW_one _) (by decide) (by unfold maxLen; omega) (by omega) (Nat.zero_le _) ?_; intro g3 cp3 w3 ho3 hg3 hgl hg33; have hk3 : Kept w2 w3 (fun n => vw.ownBlock = some n) := (Kept.alloc w2 _ _).trans (Kept.grown (F := fun n => vw.ownBlock = some n) hg3 (fun _ h => h)) (fun _ h => .inl h); obtain ⟨y1, d1'⟩ := HPC.out w3 hk3; have HO3 := Lib.hid ho3; have HGL := Lib.hid hgl; have HK3 := Lib.hid hk3; clear ho3 hg3 hgl hk3))
  have hgG : ∀ b, (Value.slice (some ⟨g3, 0, none⟩) (D.waits.length + 1) cp3).ownBlock = some b → G b ∨ (w.heap.size ≤ b ∧ b < w3.heap.size) := by
    intro b hb
    injection hb with hb
    subst hb
    rcases HGL.out with h1 | h1
    · exact .inl (HX2.out.waitsG _ h1)
    · right
      refine ⟨?_, hg33⟩
      rw [h1]
      have := HZ2.out
      simp
      omega
  have hzset : (w3.setCell ⟨q, 1, none⟩ (.slice (some ⟨g3, 0, none⟩) (D.waits.length + 1) cp3)).heap.size = w3.heap.size := by simp
  have hk3 := HK3.out
  have hz3 := hk3.size
  have hHG := HG.out
  have hHZ := HZ2.out
  have hx4 : PR (w3.setCell ⟨q, 1, none⟩ (.slice (some ⟨g3, 0, none⟩) (D.waits.length + 1) cp3)) (More G w w3) (More S w w3) q (D.wrote a s) vl (.slice (some ⟨g3, 0, none⟩) (D.waits.length + 1) cp3) (.map (some m)) st left ks pl (pw ++ [(a, g)]) := by
    refine HX2.out.waiting More.here More.here (fun b hb hne => hk3.block b hb hne) (own_eq HO3.out (by simp) (PW_append _ _).symm (Nat.le_refl _)) hgG ?_
    refine (HX2.out.wts.kept More.here (fun _ _ _ _ => rfl)).snoc a g ⟨.inr ⟨hgw, by omega⟩, HSEC2.out, hs⟩
  have hmw : vw.ownBlock ≠ some m := by
    intro e
    obtain ⟨cur, hc⟩ := row_type HX2.out.waits e
    exact HM2.out.other hc rfl
  have hmq : m ≠ q := HM2.out.other HX2.out.cells
  have hM4 : MapAt (w3.setCell ⟨q, 1, none⟩ (.slice (some ⟨g3, 0, none⟩) (D.waits.length + 1) cp3)) m D.waits.length pw := HM2.out.same ((set_other hmq).trans (hk3.block m HM2.out.lt hmw))
  have hk4 : Kept w (w3.setCell ⟨q, 1, none⟩ (.slice (some ⟨g3, 0, none⟩) (D.waits.length + 1) cp3)) (Mut G w) := by
    refine ((Kept.ofBelow (F := Mut G w) HB2.out).trans hk3 fun n hn => ?_).trans (Kept.setCell w3 ⟨q, 1, none⟩ _ (Mut G w) H.out.headMut) (fun _ h => .inl h)
    by_cases hs : n < w.heap.size
    · left
      exact ⟨H.out.waitsG n hn, fun hi => row_not_sec H.out.waits (by decide) hn hi⟩
    · right; omega
  obtain ⟨w4, hw4⟩ : ∃ w4, w4 = w3.setCell ⟨q, 1, none⟩ (.slice (some ⟨g3, 0, none⟩) (D.waits.length + 1) cp3) := ⟨_, rfl⟩
  rw [← hw4] at hx4 hM4 hk4 hzset ⊢
  have e2 : w4.cell? ⟨q, 2, none⟩ = some (.map (some m)) := (row7 hx4.cells).1 2
  obtain ⟨Dm, hown, hism, hat⟩ := hM4
  have hll' : a < 9223372036854775808 := by omega
  have hkey := key_i64 hll'
  have hval : Rp (.pointer (some ⟨g, 0, none⟩)) = some (encp (some g), []) := Rp_ptr (some g)
  have HX4 := Lib.hid hx4
  have HK4 := Lib.hid hk4
  have HOWN := Lib.hid hown
  have HZS := Lib.hid hzset
  have HAT := Lib.hid hat
  clear hx4 hk4 hown hw4 hzset hgG hk3 hz3 hHG hHZ hat d1 y1 d1' HPC HROW
  go_wp2_with (at_mapUpdate; refine wpList_mapUpdate_own _ rfl _ _ _ 75 rfl 3 90 law_int Try.underlying75 _ m D.waits.length Dm rfl HOWN.out (by unfold maxLen; omega) _ _ (.int .i64 (a : Int)) rfl rfl hkey (encp (some g)) [] hval ?_; intro w5 hown5 hgr5)
  go_end0
  have hk5 : Kept w4 w5 (fun n => n = m) := Kept.grown hgr5 (fun b hb => (Option.some.inj hb).symm)
  have hx4 := HX4.out
  have hms : ¬ IsSec w m := map_not_sec HM.out
  have hk4 := HK4.out
  have hk3 := HK3.out
  have hsz4 := HZS.out
  have hsz3 := hk3.size
  have hHG := HG.out
  have hHZ := HZ2.out
  have hsz5 := hk5.size
  have hms4 : ¬ IsSec w4 m := by
    rintro ⟨cs, hc⟩
    obtain ⟨es, clock, hb, _⟩ := HOWN.out
    rw [hb] at hc
    cases hc
  have hmv : ∀ b, (Value.slice (some ⟨g3, 0, none⟩) (D.waits.length + 1) cp3).ownBlock = some b → b ≠ m := by
    intro b hb e
    subst e
    obtain ⟨cur, hc⟩ := row_type hx4.waits hb
    obtain ⟨es, clock, hb, _⟩ := HOWN.out
    rw [hb] at hc
    cases hc
  have hml : ∀ b, vl.ownBlock = some b → b ≠ m := by
    intro b hb e
    subst e
    obtain ⟨cur, hc⟩ := row_type hx4.lasts hb
    obtain ⟨es, clock, hb, _⟩ := HOWN.out
    rw [hb] at hc
    cases hc
  have hmq' : q ≠ m := fun e => hmq e.symm
  have hsub : ∀ (F : Nat → Prop) b, More F w w3 b → More F w w5 b := fun F b h => h.elim .inl fun h => .inr ⟨h.1, by omega⟩
  have hs5 : ∀ b, IsSec w4 b → b < w4.heap.size → w5.heap[b]? = w4.heap[b]? := fun b hi hb => hk5.block b hb (by rintro rfl; exact hms4 hi)
  have hx5 : PR w5 (More G w w5) (More S w w5) q (D.wrote a s) vl (.slice (some ⟨g3, 0, none⟩) (D.waits.length + 1) cp3) (.map (some m)) st left ks pl (pw ++ [(a, g)]) :=
    ⟨hsub G q hx4.inG, (hk5.block q hx4.lt hmq').trans hx4.cells, hx4.fz, row_same hx4.lasts fun b hb => hk5.block b (hx4.lasts.lt b hb).2 (hml b hb), fun b hb => hsub G b (hx4.lastsG b hb), row_same hx4.waits fun b hb => hk5.block b (hx4.waits.lt b hb).2 (hmv b hb), fun b hb => hsub G b (hx4.waitsG b hb), hx4.secs.kept (hsub S) fun b _ hi hb => hs5 b hi hb, hx4.wts.kept (hsub S) fun b _ hi hb => hs5 b hi hb⟩
  refine ⟨rfl, hk4.trans hk5 (fun n hn => .inl (by subst hn; exact ⟨HGM.out, hms⟩)), vl, _, m, st, left, ks, pl, pw ++ [(a, g)], hx5, .inl HGM.out, ?_⟩
  refine ⟨_, own_map_count hown5 (by unfold DS.wrote; simp), hism.put _ _, fun x hx => ?_⟩
  rw [lastOf_snoc]
  by_cases hxa : a = x
  · subst hxa
    rw [if_pos rfl, atKey_put_same hism (law_int.key hkey)]
  · rw [if_neg hxa, atKey_put_other (by intro e; injection e with _ e; omega), HAT.out x hx]
end Go.Proofs.Ytlokehekkllbeaa
