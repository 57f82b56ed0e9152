/-
  The program's own disk in memory: rows of pointers to sectors, a map of the last write of each. No statement is proved here. No condition.
-/
import Derived.Test.YtplpfhgdanclhaaDRefD
import Derived.Maps.OwnOps
import Derived.Maps.Views
import Derived.Deep.MidRow
import Derived.Deep.WholeRow
import Derived.Laws.Pointers
import Derived.Laws.Externs
import Derived.MapKept
namespace Go.Proofs.Ytplpfhgdanclhaa
open Go.RowKit Go.Maps

/-- a pointer to a sector, or none -/
def ptr : Option Nat → Value
  | none => .pointer none
  | some g => .pointer (some ⟨g, 0, none⟩)
theorem ptr_cell (o : Option Nat) : (ptr o).oneCell' = true := by cases o <;> rfl
/-- what a pointer reads as in a map -/
def Rp : Value → Option (DataW Unit × List MemPlace)
  | .pointer none => some (.nil, [])
  | .pointer (some ⟨g, 0, none⟩) => some (.lit (.int .u64 (g : Int)), [])
  | _ => none
def encp : Option Nat → DataW Unit
  | none => .nil
  | some g => .lit (.int .u64 (g : Int))
theorem Rp_ptr (o : Option Nat) : Rp (ptr o) = some (encp o, []) := by cases o <;> rfl
theorem Rp_inv {v : Value} {z : DataW Unit} {ps : List MemPlace} (h : Rp v = some (z, ps)) : ∃ o, v = ptr o ∧ z = encp o := by
  unfold Rp at h
  split at h
  · injection h with h; injection h with h1 h2; exact ⟨none, rfl, h1.symm⟩
  · injection h with h; injection h with h1 h2; exact ⟨some _, rfl, h1.symm⟩
  · cases h
theorem encp_inj {a b : Option Nat} (h : encp a = encp b) : a = b := by
  cases a <;> cases b
  · rfl
  · cases h
  · cases h
  · injection h with h
    injection h with _ h
    congr 1
    omega

/-- the last write of a sector that waits -/
def lastOf (pw : List (Nat × Nat)) (a : Nat) : Option Nat := pw.foldl (fun s x => if x.1 = a then some x.2 else s) none
theorem lastOf_snoc (pw : List (Nat × Nat)) (x : Nat × Nat) (a : Nat) : lastOf (pw ++ [x]) a = if x.1 = a then some x.2 else lastOf pw a := by unfold lastOf; rw [List.foldl_append]; rfl

theorem law_int : Keyed Try.prog 3 := int_keyed Try.underlying3
theorem wf_i64 {a : Nat} (h : a < 9223372036854775808) : (Lit.int .i64 (a : Int)).wf = true := by
  unfold Lit.wf
  rw [Bool.and_eq_true, decide_eq_true_eq, decide_eq_true_eq]
  show (-9223372036854775808 : Int) ≤ _ ∧ _ ≤ (9223372036854775807 : Int)
  omega
theorem key_i64 {a : Nat} (h : a < 9223372036854775808) : keyOf Try.prog 3 (.int .i64 (a : Int)) = some (.int .i64 (a : Int)) := keyOf_int_mk Try.underlying3 (wf_i64 h)

/-- block m is the map of the last writes -/
def MapAt (w : World) (m n : Nat) (pw : List (Nat × Nat)) : Prop := ∃ D : DataW Unit, w.ownsMap Try.prog 3 Rp m n D ∧ IsMap D ∧ ∀ a : Nat, a < 9223372036854775808 → D.atKey (.int .i64 (a : Int)) .nil = encp (lastOf pw a)
theorem MapAt.made (w : World) : MapAt (w.alloc (.map #[] 0)) w.heap.size 0 [] := ⟨_, World.ownsMap_made w _ _ _, isMap_empty, fun _ _ => rfl⟩
theorem MapAt.same {w w' : World} {m n : Nat} {pw : List (Nat × Nat)} (h : MapAt w m n pw) (hk : w'.heap[m]? = w.heap[m]?) : MapAt w' m n pw := by
  obtain ⟨D, ⟨es, clock, hb, F, hs, hD⟩, h2, h3⟩ := h
  exact ⟨D, ⟨es, clock, hk.trans hb, F, hs, hD⟩, h2, h3⟩
theorem MapAt.lt {w : World} {m n : Nat} {pw : List (Nat × Nat)} (h : MapAt w m n pw) : m < w.heap.size := by
  obtain ⟨D, h, _⟩ := h
  exact h.lt
theorem MapAt.obj {w : World} {m n : Nat} {pw : List (Nat × Nat)} (h : MapAt w m n pw) : ∃ es clock, w.heap[m]? = some (.map es clock) := by
  obtain ⟨D, ⟨es, clock, hb, _⟩, _⟩ := h
  exact ⟨es, clock, hb⟩

def PS (l : List (Option Nat)) : List Value := l.map ptr
def PW (l : List (Nat × Nat)) : List Value := l.flatMap fun x => [.int .i64 (x.1 : Int), ptr (some x.2)]
theorem PS_get {l : List (Option Nat)} {i : Nat} {o : Option Nat} (h : l[i]? = some o) : (PS l)[i]? = some (ptr o) := by unfold PS; rw [List.getElem?_map, h]; rfl
theorem PS_set (l : List (Option Nat)) (i : Nat) (o : Option Nat) : PS (l.set i o) = (PS l).set i (ptr o) := by unfold PS; rw [List.map_set]
theorem PS_one (l : List (Option Nat)) : ∀ u ∈ PS l, u.oneCell' = true := by
  intro u hu
  obtain ⟨x, _, rfl⟩ := List.mem_map.1 hu
  exact ptr_cell x
theorem PW_append (l m : List (Nat × Nat)) : PW (l ++ m) = PW l ++ PW m := by unfold PW; rw [List.flatMap_append]
theorem PW_one (l : List (Nat × Nat)) : ∀ u ∈ PW l, u.oneCell' = true := by
  intro u hu
  unfold PW at hu
  obtain ⟨x, _, hx⟩ := List.mem_flatMap.1 hu
  simp at hx
  rcases hx with rfl | rfl <;> rfl
theorem PW_get {l : List (Nat × Nat)} {k : Nat} {x : Nat × Nat} (h : l[k]? = some x) : (PW l)[k * 2]? = some (.int .i64 (x.1 : Int)) ∧ (PW l)[k * 2 + 1]? = some (ptr (some x.2)) := by
  induction l generalizing k with
  | nil => simp at h
  | cons y l ih =>
    cases k with
    | zero =>
      simp only [List.getElem?_cons_zero, Option.some.injEq] at h
      subst h
      exact ⟨rfl, rfl⟩
    | succ k =>
      have := ih (k := k) (by simpa using h)
      rw [show (k + 1) * 2 = k * 2 + 1 + 1 by omega]
      exact this

/-- truth values as a text -/
def marks (l : List Bool) : ByteArray := ⟨(l.map fun b => if b then (1 : UInt8) else 0).toArray⟩

/-- a sector's cells -/
def sec (s : List UInt8) : Array Value := (BS s).toArray
theorem sec_size (s : List UInt8) : (sec s).size = s.length := by unfold sec; rw [List.size_toArray, BS_length]
theorem sec_one (s : List UInt8) : (sec s).all (·.oneCell') = true := all_oneCell_toArray (BS_one s)
/-- is the block a sector's? -/
def IsSec (w : World) (b : Nat) : Prop := ∃ cs, w.heap[b]? = some (.cells cs 99 (0, 0))
/-- what a call may turn of its own blocks: not the sectors -/
def Mut (G : Nat → Prop) (w : World) : Nat → Prop := fun b => G b ∧ ¬ IsSec w b
/-- a pointer to a sector that reads as s -/
def SecAt (w : World) (S : Nat → Prop) (o : Option Nat) (s : List UInt8) : Prop :=
  match o with
  | none => s = List.replicate 512 0
  | some g => S g ∧ w.heap[g]? = some (.cells (sec s) 99 (0, 0)) ∧ s.length = 512
theorem SecAt.kept {w w' : World} {S S' : Nat → Prop} {o : Option Nat} {s : List UInt8} (h : SecAt w S o s) (hS : ∀ b, S b → S' b) (hk : ∀ b, S b → IsSec w b → b < w.heap.size → w'.heap[b]? = w.heap[b]?) : SecAt w' S' o s := by
  cases o with
  | none => exact h
  | some g =>
    obtain ⟨h1, h2, h3⟩ := h
    exact ⟨hS g h1, (hk g h1 ⟨_, h2⟩ (Array.getElem?_eq_some_iff.1 h2).1).trans h2, h3⟩
theorem SecAt.len {w : World} {S : Nat → Prop} {o : Option Nat} {s : List UInt8} (h : SecAt w S o s) : s.length = 512 := by
  cases o with
  | none =>
    have h' : s = List.replicate 512 0 := h
    rw [h', List.length_replicate]
  | some g => exact h.2.2

def Secs (w : World) (S : Nat → Prop) (pl : List (Option Nat)) (L : List (List UInt8)) : Prop := pl.length = L.length ∧ ∀ (i : Nat) (o : Option Nat) (s : List UInt8), pl[i]? = some o → L[i]? = some s → SecAt w S o s
def Wts (w : World) (S : Nat → Prop) (pw : List (Nat × Nat)) (ws : List (Nat × List UInt8)) : Prop := pw.length = ws.length ∧ ∀ (i : Nat) (y : Nat × Nat) (x : Nat × List UInt8), pw[i]? = some y → ws[i]? = some x → y.1 = x.1 ∧ SecAt w S (some y.2) x.2
theorem Secs.kept {w w' : World} {S S' : Nat → Prop} {pl : List (Option Nat)} {L : List (List UInt8)} (h : Secs w S pl L) (hS : ∀ b, S b → S' b) (hk : ∀ b, S b → IsSec w b → b < w.heap.size → w'.heap[b]? = w.heap[b]?) : Secs w' S' pl L :=
  ⟨h.1, fun i o s h1 h2 => (h.2 i o s h1 h2).kept hS hk⟩
theorem Wts.kept {w w' : World} {S S' : Nat → Prop} {pw : List (Nat × Nat)} {ws : List (Nat × List UInt8)} (h : Wts w S pw ws) (hS : ∀ b, S b → S' b) (hk : ∀ b, S b → IsSec w b → b < w.heap.size → w'.heap[b]? = w.heap[b]?) : Wts w' S' pw ws :=
  ⟨h.1, fun i y x h1 h2 => ⟨(h.2 i y x h1 h2).1, (h.2 i y x h1 h2).2.kept hS hk⟩⟩
theorem Secs.set {w : World} {S : Nat → Prop} {pl : List (Option Nat)} {L : List (List UInt8)} (h : Secs w S pl L) (a : Nat) {o : Option Nat} {s : List UInt8} (hs : SecAt w S o s) : Secs w S (pl.set a o) (L.set a s) := by
  refine ⟨by rw [List.length_set, List.length_set]; exact h.1, fun i o' s' h1 h2 => ?_⟩
  by_cases hi : a = i
  · subst hi
    by_cases hl : a < pl.length
    · have hl2 : a < L.length := by have := h.1; omega
      rw [List.getElem?_set_self hl] at h1
      rw [List.getElem?_set_self hl2] at h2
      injection h1 with h1
      injection h2 with h2
      subst h1
      subst h2
      exact hs
    · rw [List.getElem?_eq_none (by rw [List.length_set]; omega)] at h1
      cases h1
  · rw [List.getElem?_set_ne hi] at h1 h2
    exact h.2 i o' s' h1 h2
theorem Wts.nil (w : World) (S : Nat → Prop) : Wts w S [] [] := ⟨rfl, fun i y x h _ => by simp at h⟩
theorem Wts.snoc {w : World} {S : Nat → Prop} {pw : List (Nat × Nat)} {ws : List (Nat × List UInt8)} (h : Wts w S pw ws) (a g : Nat) {s : List UInt8} (hs : SecAt w S (some g) s) : Wts w S (pw ++ [(a, g)]) (ws ++ [(a, s)]) := by
  refine ⟨by rw [List.length_append, List.length_append, h.1]; rfl, fun i y x h1 h2 => ?_⟩
  by_cases hi : i < pw.length
  · rw [List.getElem?_append_left hi] at h1
    rw [List.getElem?_append_left (by rw [← h.1]; exact hi)] at h2
    exact h.2 i y x h1 h2
  · have hil : i = pw.length := by
      have := (List.getElem?_eq_some_iff.1 h1).1
      rw [List.length_append] at this
      simp at this
      omega
    subst hil
    rw [List.getElem?_append_right (Nat.le_refl _), Nat.sub_self] at h1
    rw [List.getElem?_append_right (by rw [h.1]; exact Nat.le_refl _), h.1, Nat.sub_self] at h2
    simp at h1 h2
    subst h1
    subst h2
    exact ⟨rfl, hs⟩
/-- what is found by the map is what reads -/
theorem Wts.look {w : World} {S : Nat → Prop} {pw : List (Nat × Nat)} {ws : List (Nat × List UInt8)} (h : Wts w S pw ws) (L : List (List UInt8)) (a : Nat) :
    match lastOf pw a with
    | none => look L ws a = L.getD a []
    | some g => SecAt w S (some g) (look L ws a) := by
  suffices H : ∀ (pw : List (Nat × Nat)) (ws : List (Nat × List UInt8)), Wts w S pw ws → ∀ (o : Option Nat) (t : List UInt8), (match o with | none => t = L.getD a [] | some g => SecAt w S (some g) t) →
      match pw.foldl (fun s x => if x.1 = a then some x.2 else s) o with
      | none => ws.foldl (fun s x => if x.1 = a then x.2 else s) t = L.getD a []
      | some g => SecAt w S (some g) (ws.foldl (fun s x => if x.1 = a then x.2 else s) t) from H pw ws h none (L.getD a []) rfl
  intro pw
  induction pw with
  | nil =>
    intro ws h o t ht
    have : ws = [] := List.eq_nil_of_length_eq_zero h.1.symm
    subst this
    exact ht
  | cons y pw ih =>
    intro ws h o t ht
    cases ws with
    | nil => have := h.1; simp at this
    | cons x ws =>
      have h0 := h.2 0 y x rfl rfl
      refine ih ws ⟨by have := h.1; simpa using this, fun i y' x' h1 h2 => h.2 (i + 1) y' x' (by simpa using h1) (by simpa using h2)⟩ _ _ ?_
      by_cases hy : y.1 = a
      · have hx : x.1 = a := h0.1 ▸ hy
        simp only [if_pos hy, if_pos hx]
        exact h0.2
      · have hx : ¬ x.1 = a := fun e => hy (h0.1.trans e)
        simp only [if_neg hy, if_neg hx]
        exact ht

/-- the fuse's three fields -/
def FuseIs (D : DS) (st : Bool) (left : Int) (ks : ByteArray) : Prop := D.dead = false → (D.fuse = none → st = false ∧ left = 0 ∧ ks = ByteArray.empty) ∧ ∀ k, D.fuse = some k → st = true ∧ left = (k : Int) ∧ k < 9223372036854775808 ∧ ks = marks D.keep

/-- The program's disk at block q: its own blocks in G, its sectors in S. -/
structure PR (w : World) (G S : Nat → Prop) (q : Nat) (D : DS) (vl vw vm : Value) (st : Bool) (left : Int) (ks : ByteArray) (pl : List (Option Nat)) (pw : List (Nat × Nat)) : Prop where
  inG : G q
  cells : w.heap[q]? = some (.cells #[vl, vw, vm, .int .i64 (D.done : Int), .bool D.dead, .bool st, .int .i64 left, .string ks] 90 (0, 0))
  fz : FuseIs D st left ks
  lasts : w.ownsRow 0 95 1 vl D.lasts.length (PS pl)
  lastsG : ∀ b, vl.ownBlock = some b → G b
  waits : w.ownsRow 0 105 2 vw D.waits.length (PW pw)
  waitsG : ∀ b, vw.ownBlock = some b → G b
  secs : Secs w S pl D.lasts
  wts : Wts w S pw D.waits
def PD (w : World) (G S : Nat → Prop) (q : Nat) (D : DS) : Prop := ∃ vl vw m st left ks pl pw, PR w G S q D vl vw (.map (some m)) st left ks pl pw ∧ G m ∧ MapAt w m D.waits.length pw

variable {w w' : World} {G S : Nat → Prop} {q : Nat} {D : DS} {vl vw vm : Value} {st : Bool} {left : Int} {ks : ByteArray} {pl : List (Option Nat)} {pw : List (Nat × Nat)}
theorem PR.lt (h : PR w G S q D vl vw vm st left ks pl pw) : q < w.heap.size := (Array.getElem?_eq_some_iff.1 h.cells).1
theorem not_sec {T : TypeId} {b : Nat} {C : Array Value} (h : w.heap[b]? = some (.cells C T (0, 0))) (hT : T ≠ 99) : ¬ IsSec w b := by
  rintro ⟨cs, hc⟩
  rw [h] at hc
  injection hc with hc
  injection hc with _ hc
  exact hT hc
theorem row_not_sec {base : Nat} {e : TypeId} {size : Nat} {v : Value} {n : Nat} {xs : List Value} (h : w.ownsRow base e size v n xs) (hT : e ≠ 99) {b : Nat} (hb : v.ownBlock = some b) : ¬ IsSec w b := by
  obtain ⟨cur, hc⟩ := row_type h hb
  exact not_sec hc hT
theorem map_not_sec {m n : Nat} (h : MapAt w m n pw) : ¬ IsSec w m := by
  obtain ⟨es, clock, hb⟩ := h.obj
  rintro ⟨cs, hc⟩
  rw [hb] at hc
  cases hc
theorem PR.kept (h : PR w G S q D vl vw vm st left ks pl pw) {G' S' : Nat → Prop} (hG : ∀ b, G b → G' b) (hS : ∀ b, S b → S' b) (hk : ∀ b, b < w.heap.size → Mut G w b → w'.heap[b]? = w.heap[b]?) (hs : ∀ b, S b → IsSec w b → b < w.heap.size → w'.heap[b]? = w.heap[b]?) : PR w' G' S' q D vl vw vm st left ks pl pw :=
  ⟨hG q h.inG, (hk q h.lt ⟨h.inG, not_sec h.cells (by decide)⟩).trans h.cells, h.fz, row_same h.lasts fun b hb => hk b (h.lasts.lt b hb).2 ⟨h.lastsG b hb, row_not_sec h.lasts (by decide) hb⟩, fun b hb => hG b (h.lastsG b hb), row_same h.waits fun b hb => hk b (h.waits.lt b hb).2 ⟨h.waitsG b hb, row_not_sec h.waits (by decide) hb⟩, fun b hb => hG b (h.waitsG b hb), h.secs.kept hS hs, h.wts.kept hS hs⟩
theorem PD.kept (h : PD w G S q D) {G' S' : Nat → Prop} (hG : ∀ b, G b → G' b) (hS : ∀ b, S b → S' b) (hk : ∀ b, b < w.heap.size → Mut G w b → w'.heap[b]? = w.heap[b]?) (hs : ∀ b, S b → IsSec w b → b < w.heap.size → w'.heap[b]? = w.heap[b]?) : PD w' G' S' q D := by
  obtain ⟨vl, vw, m, st, left, ks, pl, pw, h, hm, hM⟩ := h
  exact ⟨vl, vw, m, st, left, ks, pl, pw, h.kept hG hS hk hs, hG m hm, hM.same (hk m hM.lt ⟨hm, map_not_sec hM⟩)⟩
theorem PD.mono (h : PD w G S q D) {G' S' : Nat → Prop} (hG : ∀ b, G b → G' b) (hS : ∀ b, S b → S' b) : PD w G' S' q D := h.kept hG hS (fun _ _ _ => rfl) (fun _ _ _ _ => rfl)
/-- it is there still behind a call that touches none of its blocks -/
theorem PD.apart (h : PD w G S q D) {F : Nat → Prop} (k : Kept w w' F) (hF : ∀ b, b < w.heap.size → F b → ¬ G b ∧ ¬ S b) : PD w' G S q D :=
  h.kept (fun _ h => h) (fun _ h => h) (fun b hb hm => k.block b hb fun f => (hF b hb f).1 hm.1) (fun b hs _ hb => k.block b hb fun f => (hF b hb f).2 hs)
/-- it is there still behind a call of another disk's -/
theorem PD.beside (h : PD w G S q D) {H : Nat → Prop} (k : Kept w w' (Mut H w)) (hF : ∀ b, b < w.heap.size → G b → ¬ H b) : PD w' G S q D :=
  h.kept (fun _ h => h) (fun _ h => h) (fun b hb hm => k.block b hb fun f => hF b hb hm.1 f.1) (fun b _ hi hb => k.block b hb fun f => f.2 hi)

/-- The head block is written anew, and nothing else. -/
theorem PR.head (h : PR w G S q D vl vw vm st left ks pl pw) (hoth : ∀ b, b ≠ q → w'.heap[b]? = w.heap[b]?) {D' : DS} {vm' : Value} {st' : Bool} {left' : Int} {ks' : ByteArray}
    (hcell : w'.heap[q]? = some (.cells #[vl, vw, vm', .int .i64 (D'.done : Int), .bool D'.dead, .bool st', .int .i64 left', .string ks'] 90 (0, 0))) (hf : FuseIs D' st' left' ks') (h1 : D'.lasts = D.lasts) (h2 : D'.waits = D.waits) : PR w' G S q D' vl vw vm' st' left' ks' pl pw := by
  have hsec : ∀ b, S b → IsSec w b → b < w.heap.size → w'.heap[b]? = w.heap[b]? := fun b _ hi _ => hoth b fun e => not_sec h.cells (by decide) (e ▸ hi)
  exact ⟨h.inG, hcell, hf, by rw [h1]; exact row_same h.lasts fun b hb => hoth b (row_not h.cells h.lasts (by decide) b hb), h.lastsG, by rw [h2]; exact row_same h.waits fun b hb => hoth b (row_not h.cells h.waits (by decide) b hb), h.waitsG, by rw [h1]; exact h.secs.kept (fun _ h => h) hsec, by rw [h2]; exact h.wts.kept (fun _ h => h) hsec⟩
theorem MapAt.other {m n : Nat} {C : Array Value} {T : TypeId} (h : MapAt w m n pw) (hq : w.heap[q]? = some (.cells C T (0, 0))) : m ≠ q := by
  intro e
  subst e
  obtain ⟨es, clock, hb⟩ := h.obj
  rw [hb] at hq
  cases hq

/-- Mut along a call -/
theorem Kept.sec {F : Nat → Prop} (k : Kept w w' (Mut F w)) {b : Nat} (h : IsSec w b) : IsSec w' b := by
  obtain ⟨cs, hc⟩ := h
  exact ⟨cs, (k.block b (Array.getElem?_eq_some_iff.1 hc).1 fun f => f.2 ⟨cs, hc⟩).trans hc⟩
theorem Kept.transM {a b c : World} {G G' : Nat → Prop} (h : Kept a b (Mut G a)) (k : Kept b c (Mut G' b)) (hG : ∀ n, G' n → n < a.heap.size → G n) : Kept a c (Mut G a) := by
  refine h.trans k fun n hn => ?_
  by_cases hs : n < a.heap.size
  · exact .inl ⟨hG n hn.1 hs, fun hi => hn.2 (h.sec hi)⟩
  · exact .inr (by omega)
theorem Kept.ofBelow {F : Nat → Prop} (h : Below w.heap.size w w') : Kept w w' F := ⟨h.os, h.tape, h.output, h.size, fun b hb _ => h.block b hb⟩
end Go.Proofs.Ytplpfhgdanclhaa
