/-
  A joiner plainly: what is kept, and what a part does to it. No statement is proved here. No condition.
-/
import Derived.Test.YtfmaocinckeagaaDoorQKeepW
import Derived.Test.YtfmaocinckeagaaDoorQJoined
namespace Go.Proofs.YtfmaocinckeagaaDoor
open Go.RowKit

/-- a message that is kept, plainly -/
structure KP where
  key : Key
  parts : List (List UInt8)
  left : Nat
def KE.k (e : KE) : KP := ⟨e.key, e.parts, e.left⟩
def KP.add (k : KP) (pl : Nat) (d : List UInt8) : KP := if k.parts[pl]? = some [] then { k with parts := k.parts.set pl d, left := k.left - 1 } else k
theorem KE.add_k (e : KE) (pl : Nat) (d : List UInt8) : (e.add pl d).k = e.k.add pl d := by
  unfold KE.add KP.add KE.k
  split <;> rfl
theorem KE.add_same (e : KE) (pl : Nat) (d : List UInt8) : (e.add pl d).key = e.key ∧ (e.add pl d).p = e.p ∧ (e.add pl d).s = e.s := by
  unfold KE.add
  split <;> exact ⟨rfl, rfl, rfl⟩
theorem KP.add_same (k : KP) (pl : Nat) (d : List UInt8) : (k.add pl d).key = k.key ∧ (k.add pl d).parts.length = k.parts.length := by
  unfold KP.add
  split <;> simp
def newP (key : Key) (m : Nat) : KP := ⟨key, List.replicate m [], m⟩
structure okK (k : KP) : Prop where
  one : 1 ≤ k.parts.length
  most : k.parts.length ≤ 22
  left : k.left ≤ 22
  each : ∀ i d, k.parts[i]? = some d → d.length ≤ 380 ∧ (d ≠ [] → i + 1 < k.parts.length → d.length = 380)
  count : 2 ≤ k.parts.length → k.left = k.parts.countP List.isEmpty
theorem okK_new (key : Key) {m : Nat} (h1 : 1 ≤ m) (h2 : m ≤ 22) : okK (newP key m) := by
  unfold newP
  refine ⟨by simpa using h1, by simpa using h2, h2, fun i d hd => ?_, fun _ => ?_⟩
  · rw [List.getElem?_replicate] at hd
    split at hd
    · injection hd with hd
      subst hd
      exact ⟨Nat.zero_le _, fun h => absurd rfl h⟩
    · cases hd
  · show m = (List.replicate m ([] : List UInt8)).countP List.isEmpty
    rw [List.countP_replicate]
    simp
theorem Part.facts {p : Part} (h : p.ok) : p.place < p.many ∧ (p.place + 1 < p.many → p.data.length = 380) ∧ (2 ≤ p.many → p.data ≠ []) := by
  have hm := h.may
  unfold mayBe at hm
  rw [Bool.and_eq_true, decide_eq_true_eq] at hm
  obtain ⟨h1, h2⟩ := hm
  refine ⟨h1, fun h3 => ?_, fun h3 => ?_⟩
  · rw [if_pos h3, decide_eq_true_eq] at h2
    exact h2
  · intro hd
    rw [hd] at h2
    split at h2
    · simp at h2
    · simp at h2
      omega
theorem okK_add {k : KP} {p : Part} (h : okK k) (hp : p.ok) (hm : p.many = k.parts.length) : okK (k.add p.place p.data) := by
  obtain ⟨f1, f2, f3⟩ := Part.facts hp
  unfold KP.add
  split
  case isFalse => exact h
  rename_i he
  have hl : p.place < k.parts.length := by omega
  refine ⟨by simpa using h.one, by simpa using h.most, by have := h.left; dsimp only; omega, fun i d hd => ?_, fun h2 => ?_⟩
  · dsimp only at hd ⊢
    rw [List.length_set]
    by_cases hi : p.place = i
    · subst hi
      rw [List.getElem?_set_self hl] at hd
      injection hd with hd
      subst hd
      exact ⟨hp.small, fun _ h3 => f2 (by omega)⟩
    · rw [List.getElem?_set_ne hi] at hd
      exact h.each i d hd
  · dsimp only at h2 ⊢
    rw [List.length_set] at h2
    have hc := h.count h2
    have hne := f3 (by omega)
    have hg : k.parts[p.place] = [] := by
      have := List.getElem?_eq_getElem hl
      rw [he] at this
      exact (Option.some.inj this).symm
    rw [List.countP_set hl, hg, ← hc]
    have : p.data.isEmpty = false := by simpa using hne
    simp [this]
/-- when none is missing -/
theorem okK.full {k : KP} (h : okK k) (h0 : k.left = 0) : Full k.parts := by
  refine ⟨h.one, h.most, fun i d hd hi => ?_, fun d hd => ?_⟩
  · have hc := h.count (by omega)
    rw [h0] at hc
    have hall := List.countP_eq_zero.1 hc.symm d (List.mem_of_getElem? hd)
    exact (h.each i d hd).2 (by simpa using hall) hi
  · obtain ⟨i, hi⟩ := List.mem_iff_getElem?.1 hd
    exact (h.each i d hi).1
/-- what a joiner has -/
def dropP (J : List KP) (k : Key) : List KP := J.filter fun e => !decide (e.key = k)
def roomP : List KP → List KP
  | [] => []
  | a :: l => if 16 ≤ (a :: l).length then dropP (a :: l) a.key else a :: l
def setP (J : List KP) (k : KP) : List KP := J.map fun y => if y.key = k.key then k else y
def findP (J : List KP) (key : Key) (m : Nat) : Option KP := J.find? fun k => decide (k.key = key ∧ k.parts.length = m)
/-- what a part does -/
def stepJ (J : List KP) (key : Key) (p : Part) : Option (List UInt8) × List KP :=
  match findP J key p.many with
  | some k => if 0 < (k.add p.place p.data).left then (none, setP J (k.add p.place p.data)) else (some (k.add p.place p.data).parts.flatten, dropP J key)
  | none => if 0 < ((newP key p.many).add p.place p.data).left then (none, roomP (dropP J key) ++ [(newP key p.many).add p.place p.data]) else (some ((newP key p.many).add p.place p.data).parts.flatten, dropP J key)
/-- a joiner as it may be -/
structure okJ (J : List KP) : Prop where
  each : ∀ k ∈ J, okK k ∧ 0 < k.left
  most : J.length ≤ 16
theorem drop_k (L : List KE) (key : Key) : (dropL L key).map KE.k = dropP (L.map KE.k) key := by
  unfold dropL dropP
  rw [List.filter_map]
  rfl
theorem room_k (L : List KE) : (roomL L).map KE.k = roomP (L.map KE.k) := by
  cases L with
  | nil => rfl
  | cons a l =>
    show (if 16 ≤ (a :: l).length then dropL (a :: l) a.key else a :: l).map KE.k = if 16 ≤ ((a :: l).map KE.k).length then dropP ((a :: l).map KE.k) a.key else (a :: l).map KE.k
    rw [List.length_map]
    split
    · exact drop_k _ _
    · rfl
theorem dropP_twice (J : List KP) (key : Key) : dropP (dropP J key) key = dropP J key := by
  unfold dropP
  rw [List.filter_filter]
  apply List.filter_congr
  intro x _
  simp
theorem dropL_twice (L : List KE) (key : Key) : dropL (dropL L key) key = dropL L key := by
  unfold dropL
  rw [List.filter_filter]
  apply List.filter_congr
  intro x _
  simp
theorem inj_of {α : Type} {f : KE → α} {L : List KE} (h : (L.map f).Nodup) {a b : KE} (ha : a ∈ L) (hb : b ∈ L) (e : f a = f b) : a = b := by
  induction L with
  | nil => cases ha
  | cons c L ih =>
    rw [List.map_cons, List.nodup_cons] at h
    rcases List.mem_cons.1 ha with h1 | h1 <;> rcases List.mem_cons.1 hb with h2 | h2
    · rw [h1, h2]
    · exact absurd (by rw [← h1, e]; exact List.mem_map_of_mem h2) h.1
    · exact absurd (by rw [← h2, ← e]; exact List.mem_map_of_mem h1) h.1
    · exact ih h.2 h1 h2
section
variable {w w' : World} {G : Nat → Prop} {j mb n : Nat} {rv : Value} {L : List KE}
def setL (L : List KE) (x : KE) : List KE := L.map fun y => if y.key = x.key then x else y
/-- a kept message written in its place -/
theorem JAt.put (h : JAt w G j mb rv n L) {x x' : KE} (hx : x ∈ L) (hm : MsgAt w' x') (hk : x'.key = x.key) (hp : x'.p = x.p) (hs : x'.s = x.s) (hK : Kept w w' (fun b => b = x.p ∨ b = x.s)) : JAt w' G j mb rv n (setL L x') := by
  have hmx := h.msg x hx
  obtain ⟨a1, a2, a3, a4, a5, a6⟩ := h.far hmx
  have far : ∀ b, b < w.heap.size → b ≠ x.p → b ≠ x.s → w'.heap[b]? = w.heap[b]? := fun b hb h1 h2 => hK.block b hb (fun e => e.elim h1 h2)
  have hy : ∀ y ∈ L, y.key = x'.key → y = x := fun y hy e => key_one h.keys hy hx (e.trans hk)
  have hmap : ∀ {α : Type} (f : KE → α), f x' = f x → (setL L x').map f = L.map f := fun f hf => by
    unfold setL
    rw [List.map_map]
    apply List.map_congr_left
    intro y hyL
    show f (if y.key = x'.key then x' else y) = f y
    split
    · rename_i e
      rw [hf, hy y hyL e]
    · rfl
  have mem : ∀ z ∈ setL L x', z = x' ∨ (z ∈ L ∧ z ≠ x) := fun z hz => by
    obtain ⟨y, hyL, rfl⟩ := List.mem_map.1 hz
    by_cases e : y.key = x'.key
    · rw [if_pos e]
      exact .inl rfl
    · rw [if_neg e]
      exact .inr ⟨hyL, fun e2 => e (by rw [e2, hk])⟩
  have t := types_11.2.2.2.2.2
  refine ⟨(far j h.lt (Ne.symm a1) (Ne.symm a4)).trans h.obj, ?_, ?_, fun z hz => ?_, fun z hz => ?_, ?_, ?_, ?_, h.gj, h.gm, h.gr, fun z hz => ?_⟩
  · rw [hmap KE.key hk]
    exact row_same h.row fun p hp => far p (h.row.lt p hp).2 (fun e => a3 (by rw [← e]; exact hp)) (fun e => a6 (by rw [← e]; exact hp))
  · unfold pairs
    rw [hmap (fun e => (e.key, e.p)) (by rw [hk, hp])]
    exact h.map.same (far mb h.map.lt (Ne.symm a2) (Ne.symm a5))
  · rcases mem z hz with rfl | ⟨hzL, hzx⟩
    · exact hm
    · have hmz := h.msg z hzL
      have n1 : z.p ≠ x.p := fun e => hzx (inj_of h.ps hzL hx e)
      have n2 : z.s ≠ x.s := fun e => hzx (inj_of h.ss hzL hx e)
      exact hmz.same (far _ hmz.ltp n1 (apart_T hmz.obj hmx.row t)) (far _ hmz.lts (apart_T hmx.obj hmz.row t).symm n2)
  · rcases mem z hz with rfl | ⟨hzL, -⟩
    · rw [hk]; exact h.good x hx
    · exact h.good z hzL
  · rw [hmap KE.key hk]; exact h.keys
  · rw [hmap KE.p hp]; exact h.ps
  · rw [hmap KE.s hs]; exact h.ss
  · rcases mem z hz with rfl | ⟨hzL, -⟩
    · rw [hp, hs]; exact h.ge x hx
    · exact h.ge z hzL
end
theorem set_k (L : List KE) (x : KE) : (setL L x).map KE.k = setP (L.map KE.k) x.k := by
  unfold setL setP
  rw [List.map_map, List.map_map]
  apply List.map_congr_left
  intro y _
  show (if y.key = x.key then x else y).k = if y.k.key = x.k.key then x.k else y.k
  by_cases h : y.key = x.key
  · rw [if_pos h, if_pos (show y.k.key = x.k.key from h)]
  · rw [if_neg h, if_neg (show ¬ y.k.key = x.k.key from h)]
end Go.Proofs.YtfmaocinckeagaaDoor
