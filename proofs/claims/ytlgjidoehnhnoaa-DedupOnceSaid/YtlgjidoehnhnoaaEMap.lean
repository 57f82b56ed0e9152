/-
  Lists of pairs as maps: what is found behind a put, behind a taking away; keys that rise; how many there are. Plainly. No statement is proved here. No condition.
-/
import Derived.Test.YtlgjidoehnhnoaaEPlain
namespace Go.Proofs.Ytlgjidoehnhnoaa
open Go.RowKit

theorem findP_repl (p : PP) (k : ByteArray) (l : List PP) : findP (repl (fun q => decide (q.key = p.key)) p l) k = if p.key = k then some p.val else findP l k := by
  induction l with
  | nil => simp [repl, findP]
  | cons q l ih =>
    unfold repl
    by_cases hq : q.key = p.key
    · rw [if_pos (by simp [hq])]
      unfold findP
      by_cases hk : p.key = k
      · rw [if_pos hk, if_pos hk]
      · rw [if_neg hk, if_neg hk, if_neg (by rw [hq]; exact hk)]
    · rw [if_neg (by simp [hq])]
      unfold findP
      by_cases hk : q.key = k
      · rw [if_pos hk, if_pos hk, if_neg (by rw [← hk]; exact fun e => hq e.symm)]
      · rw [if_neg hk, if_neg hk, ih]
theorem findP_ins (p : PP) (k : ByteArray) (l : List PP) (h : findP l p.key = none) : findP (ins (fun q => bLt p.key q.key) p l) k = if p.key = k then some p.val else findP l k := by
  induction l with
  | nil => simp [ins, findP]
  | cons q l ih =>
    unfold findP at h
    by_cases hq : q.key = p.key
    · rw [if_pos hq] at h; cases h
    · rw [if_neg hq] at h
      unfold ins
      split
      · rw [findP]
      · unfold findP
        by_cases hk : q.key = k
        · rw [if_pos hk, if_pos hk, if_neg (by rw [← hk]; exact fun e => hq e.symm)]
        · rw [if_neg hk, if_neg hk, ih h]
theorem findP_put (l : List PP) (p : PP) (k : ByteArray) : findP (putP l p) k = if p.key = k then some p.val else findP l k := by
  unfold putP putBy
  rw [← findP_any]
  cases h : findP l p.key with
  | none => exact findP_ins p k l h
  | some v => exact findP_repl p k l
theorem findP_del (l : List PP) (k j : ByteArray) : findP (delP l k) j = if k = j then none else findP l j := by
  induction l with
  | nil => simp [delP, findP]
  | cons q l ih =>
    unfold delP at ih ⊢
    by_cases hq : q.key = k
    · rw [List.filter_cons_of_neg (by simp [hq]), ih]
      by_cases hk : k = j
      · rw [if_pos hk, if_pos hk]
      · rw [if_neg hk, if_neg hk]
        conv => rhs; unfold findP
        rw [if_neg (by rw [hq]; exact hk)]
    · rw [List.filter_cons_of_pos (by simp [hq])]
      unfold findP
      by_cases hj : q.key = j
      · rw [if_pos hj, if_pos hj, if_neg (by rw [← hj]; exact fun e => hq e.symm)]
      · rw [if_neg hj, if_neg hj, ih]

/-- the keys rise -/
def rise (l : List PP) : Prop := (l.map PP.key).Pairwise fun a b => bLt a b = true
theorem repl_keys (p : PP) (l : List PP) (h : (findP l p.key).isSome = true) : (repl (fun q => decide (q.key = p.key)) p l).map PP.key = l.map PP.key := by
  induction l with
  | nil => cases h
  | cons q l ih =>
    unfold repl
    by_cases hq : q.key = p.key
    · rw [if_pos (by simp [hq])]
      simp [hq]
    · rw [if_neg (by simp [hq])]
      unfold findP at h
      rw [if_neg hq] at h
      rw [List.map_cons, ih h, List.map_cons]
theorem mem_ins {gt : PP → Bool} {p q : PP} {l : List PP} (h : q ∈ ins gt p l) : q = p ∨ q ∈ l := by
  induction l with
  | nil => exact .inl (by simpa [ins] using h)
  | cons a l ih =>
    unfold ins at h
    split at h
    · rcases List.mem_cons.1 h with h | h
      · exact .inl h
      · exact .inr h
    · rcases List.mem_cons.1 h with h | h
      · exact .inr (by rw [h]; exact List.mem_cons_self)
      · rcases ih h with h | h
        · exact .inl h
        · exact .inr (List.mem_cons_of_mem _ h)
theorem rise_ins (p : PP) (l : List PP) (hr : rise l) (h : findP l p.key = none) : rise (ins (fun q => bLt p.key q.key) p l) := by
  induction l with
  | nil => simp [rise, ins]
  | cons q l ih =>
    unfold rise at hr
    rw [List.map_cons, List.pairwise_cons] at hr
    unfold findP at h
    by_cases hq : q.key = p.key
    · rw [if_pos hq] at h; cases h
    · rw [if_neg hq] at h
      unfold ins
      split
      · rename_i hlt
        unfold rise
        rw [List.map_cons, List.map_cons, List.pairwise_cons]
        refine ⟨fun b hb => ?_, List.pairwise_cons.2 hr⟩
        rcases List.mem_cons.1 hb with rfl | hb
        · exact hlt
        · exact bLt_trans hlt (hr.1 b hb)
      · rename_i hlt
        have hqp : bLt q.key p.key = true := by
          cases hh : bLt q.key p.key with
          | true => rfl
          | false => exact absurd (bLt_total hh (by simpa using hlt)) hq
        unfold rise
        rw [List.map_cons, List.pairwise_cons]
        refine ⟨fun b hb => ?_, ih hr.2 h⟩
        obtain ⟨x, hx, rfl⟩ := List.mem_map.1 hb
        rcases mem_ins hx with rfl | hx
        · exact hqp
        · exact hr.1 _ (List.mem_map.2 ⟨x, hx, rfl⟩)
theorem rise_put {l : List PP} (hr : rise l) (p : PP) : rise (putP l p) := by
  unfold putP putBy
  rw [← findP_any]
  cases h : findP l p.key with
  | none => exact rise_ins p l hr h
  | some v =>
    rw [if_pos (show (some v).isSome = true from rfl)]
    unfold rise
    rw [repl_keys p l (by rw [h]; rfl)]
    exact hr
theorem rise_del {l : List PP} (hr : rise l) (k : ByteArray) : rise (delP l k) := hr.sublist ((List.filter_sublist).map _)
theorem put_length (l : List PP) (p : PP) : (putP l p).length = if (findP l p.key).isSome then l.length else l.length + 1 := by
  unfold putP putBy
  rw [← findP_any]
  cases h : findP l p.key with
  | none => exact ins_length _ _ _
  | some v =>
    have h1 := congrArg List.length (repl_keys p l (by rw [h]; rfl))
    simpa using h1
theorem find_none_of_lt {l : List PP} {k : ByteArray} (h : ∀ b ∈ l.map PP.key, bLt k b = true) : findP l k = none := by
  induction l with
  | nil => rfl
  | cons q l ih =>
    unfold findP
    rw [if_neg (fun e => bLt_ne (h q.key (by simp)) e.symm)]
    exact ih fun b hb => h b (by rw [List.map_cons]; exact List.mem_cons_of_mem _ hb)
theorem del_none {l : List PP} {k : ByteArray} (h : findP l k = none) : delP l k = l := by
  unfold delP
  refine List.filter_eq_self.2 fun q hq => ?_
  simp only [ne_eq, decide_not, Bool.not_eq_eq_eq_not, Bool.not_true, decide_eq_false_iff_not]
  intro e
  induction l with
  | nil => cases hq
  | cons a l ih =>
    unfold findP at h
    by_cases ha : a.key = k
    · rw [if_pos ha] at h; cases h
    · rw [if_neg ha] at h
      rcases List.mem_cons.1 hq with rfl | hq
      · exact ha e
      · exact ih h hq
theorem del_length {l : List PP} (hr : rise l) (k : ByteArray) : (delP l k).length = if (findP l k).isSome then l.length - 1 else l.length := by
  induction l with
  | nil => rfl
  | cons q l ih =>
    unfold rise at hr
    rw [List.map_cons, List.pairwise_cons] at hr
    by_cases hq : q.key = k
    · have hn : findP l k = none := find_none_of_lt (by rw [← hq]; exact hr.1)
      have h1 : delP (q :: l) k = l := by
        have := del_none hn
        unfold delP at this ⊢
        rw [List.filter_cons_of_neg (by simp [hq]), this]
      have h2 : findP (q :: l) k = some q.val := by unfold findP; rw [if_pos hq]
      rw [h1, h2]
      simp
    · have h1 : delP (q :: l) k = q :: delP l k := by unfold delP; rw [List.filter_cons_of_pos (by simp [hq])]
      have h2 : findP (q :: l) k = findP l k := by conv => lhs; unfold findP; rw [if_neg hq]
      rw [h1, h2, List.length_cons, ih hr.2]
      split
      · rename_i hs
        have hl : 0 < l.length := by cases l with | nil => cases hs | cons a l => simp
        rw [List.length_cons]
        omega
      · rfl
end Go.Proofs.Ytlgjidoehnhnoaa
