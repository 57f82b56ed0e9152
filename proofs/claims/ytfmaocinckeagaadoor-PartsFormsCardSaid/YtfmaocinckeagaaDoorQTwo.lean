/-
  A joiner plainly, by what it has of a key; messages of which some parts are there. No statement is proved here. No condition.
-/
import Derived.Test.YtfmaocinckeagaaDoorQTake
namespace Go.Proofs.YtfmaocinckeagaaDoor
open Go.RowKit

theorem mem_drop {J : List KP} {key : Key} {x : KP} : x ∈ dropP J key ↔ x ∈ J ∧ x.key ≠ key := by
  unfold dropP
  rw [List.mem_filter]
  simp
theorem dropP_len (J : List KP) (key : Key) : (dropP J key).length ≤ J.length := List.length_filter_le _ _
theorem roomP_cons (a : KP) (l : List KP) : roomP (a :: l) = if 16 ≤ (a :: l).length then dropP (a :: l) a.key else a :: l := rfl
theorem roomP_len {J : List KP} (h : J.length ≤ 16) : (roomP J).length ≤ 15 := by
  cases J with
  | nil => exact Nat.zero_le _
  | cons a l =>
    rw [roomP_cons]
    split
    · have : dropP (a :: l) a.key = dropP l a.key := by unfold dropP; rw [List.filter_cons]; simp
      rw [this]
      have := dropP_len l a.key
      simp only [List.length_cons] at h
      omega
    · simp only [List.length_cons] at *
      omega
theorem roomP_sub {J : List KP} {x : KP} (h : x ∈ roomP J) : x ∈ J := by
  cases J with
  | nil => exact h
  | cons a l =>
    rw [roomP_cons] at h
    split at h
    · exact (mem_drop.1 h).1
    · exact h
theorem roomP_free {J : List KP} (h : J.length < 16) : roomP J = J := by
  cases J with
  | nil => rfl
  | cons a l => rw [roomP_cons, if_neg (by omega)]
theorem findP_some {J : List KP} {key : Key} {m : Nat} {k : KP} (h : findP J key m = some k) : k ∈ J ∧ k.key = key ∧ k.parts.length = m := by
  have := List.find?_some h
  rw [decide_eq_true_eq] at this
  exact ⟨List.mem_of_find?_eq_some h, this⟩
/-- a joiner stays as it may be -/
theorem okJ_step {J : List KP} {key : Key} {p : Part} (h : okJ J) (hp : p.ok) : okJ (stepJ J key p).2 := by
  obtain ⟨f1, -, -⟩ := Part.facts hp
  have hdrop : okJ (dropP J key) := ⟨fun k hk => h.each k (mem_drop.1 hk).1, Nat.le_trans (dropP_len J key) h.most⟩
  unfold stepJ
  cases hf : findP J key p.many with
  | some k =>
    obtain ⟨hk, -, hl⟩ := findP_some hf
    have hok := okK_add (h.each k hk).1 hp hl.symm
    dsimp only
    split
    · rename_i h0
      refine ⟨fun x hx => ?_, by unfold setP; rw [List.length_map]; exact h.most⟩
      obtain ⟨y, hy, rfl⟩ := List.mem_map.1 hx
      split
      · exact ⟨hok, h0⟩
      · exact h.each y hy
    · exact hdrop
  | none =>
    have hok := okK_add (okK_new key (m := p.many) (by omega) hp.many) hp (by unfold newP; simp)
    dsimp only
    split
    · rename_i h0
      refine ⟨fun x hx => ?_, ?_⟩
      · rcases List.mem_append.1 hx with hx | hx
        · exact hdrop.each x (roomP_sub hx)
        · rw [List.mem_singleton.1 hx]; exact ⟨hok, h0⟩
      · have := roomP_len hdrop.most
        dsimp only
        rw [List.length_append, List.length_singleton]
        omega
    · exact hdrop
/-- what a joiner has of a key -/
def look (J : List KP) (key : Key) : Option KP := J.find? fun k => decide (k.key = key)
theorem look_some {J : List KP} {key : Key} {k : KP} (h : look J key = some k) : k ∈ J ∧ k.key = key := by
  have := List.find?_some h
  rw [decide_eq_true_eq] at this
  exact ⟨List.mem_of_find?_eq_some h, this⟩
theorem look_drop (J : List KP) (key j : Key) : look (dropP J key) j = if key = j then none else look J j := by
  unfold look dropP
  rw [List.find?_filter]
  by_cases h : key = j
  · subst h
    rw [if_pos rfl, List.find?_eq_none]
    intro x _
    simp
  · rw [if_neg h]
    congr 1
    funext x
    by_cases hx : x.key = j
    · simp [hx, Ne.symm h]
    · simp [hx]
theorem look_snoc (J : List KP) (k : KP) (j : Key) (h : look J k.key = none) : look (J ++ [k]) j = if k.key = j then some k else look J j := by
  unfold look at *
  rw [List.find?_append]
  by_cases hj : k.key = j
  · subst hj
    rw [h, if_pos rfl]
    simp
  · rw [if_neg hj]
    have : [k].find? (fun x => decide (x.key = j)) = none := by simp [hj]
    rw [this]
    cases J.find? (fun x => decide (x.key = j)) <;> rfl
theorem look_set (J : List KP) (k : KP) (j : Key) (h : (look J k.key).isSome) : look (setP J k) j = if k.key = j then some k else look J j := by
  unfold look setP at *
  induction J with
  | nil => simp at h
  | cons a J ih =>
    rw [List.map_cons]
    by_cases ha : a.key = k.key
    · rw [if_pos ha]
      by_cases hj : k.key = j
      · rw [if_pos hj, List.find?_cons_of_pos (by simpa using hj)]
      · rw [if_neg hj, List.find?_cons_of_neg (by simpa using hj), List.find?_cons_of_neg (by rw [ha]; simpa using hj)]
        have : ∀ l : List KP, (l.map fun y => if y.key = k.key then k else y).find? (fun x => decide (x.key = j)) = l.find? (fun x => decide (x.key = j)) := fun l => by
          induction l with
          | nil => rfl
          | cons b l ihl =>
            rw [List.map_cons, List.find?_cons, List.find?_cons, ihl]
            by_cases hb : b.key = k.key
            · rw [if_pos hb]
              simp [hj, show ¬ b.key = j by rw [hb]; exact hj]
            · rw [if_neg hb]
        exact this J
    · rw [List.find?_cons_of_neg (by simpa using ha)] at h
      rw [if_neg ha, List.find?_cons, List.find?_cons, ih h]
      by_cases haj : a.key = j
      · simp [haj, show ¬ k.key = j from fun e => ha (haj.trans e.symm)]
      · simp [haj]
theorem find_look {J : List KP} {key : Key} {m : Nat} (h : ∀ k, look J key = some k → k.parts.length = m) (hk : (J.map KP.key).Nodup) : findP J key m = look J key := by
  unfold findP look at *
  induction J with
  | nil => rfl
  | cons a J ih =>
    rw [List.map_cons, List.nodup_cons] at hk
    rw [List.find?_cons, List.find?_cons]
    by_cases ha : a.key = key
    · have hl := h a (by rw [List.find?_cons_of_pos (by simpa using ha)])
      simp [ha, hl]
    · simp only [ha, false_and, decide_false]
      exact ih (fun k hk' => h k (by rw [List.find?_cons_of_neg (by simpa using ha)]; exact hk')) hk.2
/-- one step, by what was there of the key -/
theorem step_look {J : List KP} {key : Key} {p : Part} (hJ : J.length < 16) (hk : (J.map KP.key).Nodup) (h : ∀ k, look J key = some k → k.parts.length = p.many) :
    let k1 := ((look J key).getD (newP key p.many)).add p.place p.data
    (stepJ J key p).1 = (if 0 < k1.left then none else some k1.parts.flatten) ∧ ∀ j, look (stepJ J key p).2 j = if key = j then (if 0 < k1.left then some k1 else none) else look J j := by
  have hd : look J key = none → dropP J key = J := fun hn => by
    unfold dropP
    rw [List.filter_eq_self]
    intro x hx
    have := List.find?_eq_none.1 hn x hx
    simpa using this
  unfold stepJ
  rw [find_look h hk]
  cases hl : look J key with
  | some k =>
    obtain ⟨-, hkk⟩ := look_some hl
    have hkey : (k.add p.place p.data).key = key := (KP.add_same _ _ _).1.trans hkk
    dsimp only [Option.getD]
    by_cases h0 : 0 < (k.add p.place p.data).left
    · simp only [if_pos h0]
      refine ⟨trivial, fun j => ?_⟩
      rw [look_set J _ j (by rw [hkey, hl]; rfl), hkey]
    · simp only [if_neg h0]
      refine ⟨trivial, fun j => ?_⟩
      rw [look_drop]
  | none =>
    have hkey : ((newP key p.many).add p.place p.data).key = key := (KP.add_same _ _ _).1
    dsimp only [Option.getD]
    rw [hd hl, roomP_free hJ]
    by_cases h0 : 0 < ((newP key p.many).add p.place p.data).left
    · simp only [if_pos h0]
      refine ⟨trivial, fun j => ?_⟩
      rw [look_snoc J _ j (by rw [hkey]; exact hl), hkey]
    · simp only [if_neg h0]
      refine ⟨trivial, fun j => ?_⟩
      by_cases hj : key = j
      · subst hj
        rw [if_pos rfl, hl]
      · rw [if_neg hj]
end Go.Proofs.YtfmaocinckeagaaDoor
