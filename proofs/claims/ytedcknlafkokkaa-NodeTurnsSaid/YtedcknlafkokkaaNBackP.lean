/-
  A node's bytes are read as the node, and what is read is a node's bytes: plainly. No program in sight. No condition.
-/
import Derived.Test.YtedcknlafkokkaaNDec
import Derived.Test.YtedcknlafkokkaaPlainC
namespace Go.Proofs.Ytedcknlafkokkaa
open Go.RowKit

theorem cnt_uv {n : Int} (h0 : 0 ≤ n) (h1 : n ≤ 2147483647) : cnt n = uv n.toNat := by unfold cnt; rw [if_pos ⟨h0, h1⟩]
theorem tx_uv {s : ByteArray} (h : s.size ≤ 2147483647) : tx s = uv s.data.toList.length ++ s.data.toList := by
  unfold tx
  rw [cnt_nat h]
  simp
theorem told_cnt {m : Int} {n : Int} {t : List UInt8} (h0 : 0 ≤ n) (h1 : n ≤ 2147483647) (hm : n ≤ m) : told 0 (gCount m) (some (cnt n ++ t)) = (n, some t) := by
  rw [cnt_uv h0 h1]
  exact told_some (gCount_uv m n t h0 h1 hm)
theorem told_tx {m : Int} {s : ByteArray} {t : List UInt8} (h : s.size ≤ 2147483647) (hm : (s.size : Int) ≤ m) : told [] (gStr m) (some (tx s ++ t)) = (s.data.toList, some t) := by
  rw [tx_uv h]
  exact told_some (gStr_tv m s.data.toList t (by simpa using h) (by simpa using hm))
theorem isCnt_iff {n l : Int} : isCnt n l = true ↔ l ≤ n ∧ n ≤ 2147483647 := by unfold isCnt; simp
theorem rdCell_by {leaf : Bool} {c : PC} (h : c.ok leaf) (t : List UInt8) : rdCell leaf (some (c.by leaf ++ t)) = (c, some t) := by
  obtain ⟨key, val, long, size⟩ := c
  obtain ⟨hk, h2⟩ := h
  dsimp only at hk h2
  unfold rdCell PC.by
  cases leaf with
  | false =>
    simp only [Bool.false_eq_true, ↓reduceIte, List.append_nil] at h2 ⊢
    obtain ⟨hv, rfl, rfl⟩ := h2
    rw [told_tx (by omega) (by omega), bytes_empty hv]
  | true =>
    simp only [↓reduceIte] at h2 ⊢
    by_cases hl : long = 0
    · subst hl
      simp only [↓reduceIte] at h2 ⊢
      obtain ⟨hv, rfl⟩ := h2
      rw [List.append_assoc, told_tx (by omega) (by omega)]
      dsimp only
      rw [List.append_assoc, told_cnt (by omega) (by omega) (by omega)]
      dsimp only
      rw [told_tx (by omega) (by omega)]
      simp
    · simp only [hl, ↓reduceIte] at h2 ⊢
      obtain ⟨hv, h3, h4⟩ := h2
      have h3 := isCnt_iff.1 h3
      have h4 := isCnt_iff.1 h4
      rw [List.append_assoc, told_tx (by omega) (by omega)]
      dsimp only
      rw [List.append_assoc, told_cnt (by omega) (by omega) (by omega)]
      dsimp only
      rw [told_cnt (by omega) (by omega) (by omega), if_neg hl, bytes_empty hv]
theorem rdCells_by {leaf : Bool} : ∀ {l : List PC} (t : List UInt8), (∀ c ∈ l, c.ok leaf) → rdCells leaf l.length (some (csBy leaf l ++ t)) = (l, some t) := by
  intro l
  induction l with
  | nil => intro t _; rfl
  | cons c l ih =>
    intro t h
    have e : csBy leaf (c :: l) ++ t = c.by leaf ++ (csBy leaf l ++ t) := by
      rw [← List.append_assoc]
      rfl
    rw [List.length_cons, e]
    unfold rdCells
    rw [rdCell_by (h c (by simp))]
    dsimp only
    rw [ih t (fun d hd => h d (by simp [hd]))]
theorem rdKids_by : ∀ {l : List Int} (t : List UInt8), (∀ k ∈ l, isCnt k 0 = true) → rdKids l.length (some (ksBy l ++ t)) = (l, some t) := by
  intro l
  induction l with
  | nil => intro t _; rfl
  | cons k l ih =>
    intro t h
    have hk := isCnt_iff.1 (h k (by simp))
    have e : ksBy (k :: l) ++ t = cnt k ++ (ksBy l ++ t) := by
      rw [← List.append_assoc]
      rfl
    rw [List.length_cons, e]
    unfold rdKids
    rw [told_cnt hk.1 hk.2 hk.2]
    dsimp only
    rw [ih t (fun d hd => h d (by simp [hd]))]
theorem tx_pos (s : ByteArray) (h : s.size ≤ 2147483647) : 1 ≤ (tx s).length := by
  rw [tx_uv h, List.length_append]
  have := uv_pos s.data.toList.length
  omega
theorem csBy_pos {leaf : Bool} {l : List PC} (h : ∀ c ∈ l, c.ok leaf) : l.length ≤ (csBy leaf l).length := by
  induction l with
  | nil => exact Nat.zero_le _
  | cons c l ih =>
    have e : csBy leaf (c :: l) = c.by leaf ++ csBy leaf l := rfl
    have h1 := ih (fun d hd => h d (by simp [hd]))
    have h2 := tx_pos c.key (by have := (h c (by simp)).1; omega)
    have h3 : (tx c.key).length ≤ (c.by leaf).length := by unfold PC.by; rw [List.length_append]; omega
    rw [e, List.length_append, List.length_cons]
    omega
theorem may_ok {n : PN} (h : n.may) : ∀ c ∈ n.cells, c.ok n.leaf := fun c hc => by
  obtain ⟨i, hi, rfl⟩ := List.getElem_of_mem hc
  exact (h.1 i _ hi (List.getElem?_eq_getElem hi)).1
/-- Decode undoes Encode, plainly -/
theorem rdNode_by {n : PN} (h : n.may) (hl : n.cells.length ≤ 2147483647) (t : List UInt8) : rdNode (some (n.by ++ t)) = (n, some t) := by
  have hok := may_ok h
  obtain ⟨leaf, cells, kids⟩ := n
  dsimp only at hok hl
  obtain ⟨-, hks, hkl⟩ := h
  dsimp only at hks hkl
  obtain ⟨rest, hrest⟩ : ∃ rest, rest = csBy leaf cells ++ ((if leaf then [] else ksBy kids) ++ t) := ⟨_, rfl⟩
  have e : (PN.by ⟨leaf, cells, kids⟩) ++ t = fv leaf ++ (cnt (cells.length : Int) ++ rest) := by
    unfold PN.by
    rw [hrest]
    simp only [List.append_assoc]
  rw [e]
  have h1 : told false gFlag (some (fv leaf ++ (cnt (cells.length : Int) ++ rest))) = (leaf, some (cnt (cells.length : Int) ++ rest)) := told_some (gFlag_fv leaf _)
  have hle : cells.length ≤ rest.length := by
    rw [hrest, List.length_append]
    have := csBy_pos hok
    omega
  have h2 : told 0 (gCount (((((some (cnt (cells.length : Int) ++ rest)).getD []).length : Nat)) : Int)) (some (cnt (cells.length : Int) ++ rest)) = ((cells.length : Int), some rest) :=
    told_cnt (by omega) (by omega) (by simp only [Option.getD_some, List.length_append]; omega)
  have h3 : rdCells leaf cells.length (some rest) = (cells, some ((if leaf then [] else ksBy kids) ++ t)) := by rw [hrest]; exact rdCells_by _ hok
  unfold rdNode rdMany
  rw [h1]
  dsimp only
  rw [h2]
  dsimp only
  rw [Int.toNat_natCast, h3]
  cases leaf with
  | true =>
    have : kids = [] := List.eq_nil_of_length_eq_zero hkl
    subst this
    rfl
  | false =>
    have hkl' : kids.length = cells.length + 1 := hkl
    simp only [Bool.false_eq_true, ↓reduceIte]
    rw [← hkl', rdKids_by t hks]
theorem decOk_by {n : PN} (h : n.may) {t : List UInt8} (hl : (n.by ++ t).length ≤ 512) (hc : n.cells.length ≤ 2147483647) (ht : allNought t = true) : decErr (n.by ++ t) = 0 ∧ decNode (n.by ++ t) = n := by
  have hr := rdNode_by h hc t
  have ho : decOk (n.by ++ t) = true := by
    unfold decOk leftOf
    rw [hr]
    simp only [Option.getD_some, Option.isSome_some, Bool.true_and]
    have hd : (n.by ++ t).drop ((n.by ++ t).length - t.length) = t := by
      rw [List.length_append, Nat.add_sub_cancel]
      simp
    rw [hd, ht, PN.chk_yes h, decide_eq_true hl]
    rfl
  unfold decErr decNode
  rw [ho, hr]
  exact ⟨rfl, rfl⟩
/-! ### What is read is a node's bytes -/
theorem count_back {m : Int} {st : Option (List UInt8)} {n : Int} {t : List UInt8} (h : told 0 (gCount m) st = (n, some t)) : st = some (cnt n ++ t) := by
  cases st with
  | none => simp [told] at h
  | some l =>
    cases hg : gCount m l with
    | none => rw [told_none hg] at h; simp at h
    | some p =>
      obtain ⟨q, u⟩ := p
      rw [told_some hg] at h
      injection h with h1 h2
      injection h2 with h2
      subst h1 h2
      obtain ⟨k, rfl, h3, h4⟩ := gCount_nat hg
      rw [gCount_is hg, cnt_nat h3]
      simp
theorem str_back {m : Int} {st : Option (List UInt8)} {s t : List UInt8} (h : told [] (gStr m) st = (s, some t)) : st = some (tx ⟨s.toArray⟩ ++ t) := by
  cases st with
  | none => simp [told] at h
  | some l =>
    cases hg : gStr m l with
    | none => rw [told_none hg] at h; simp at h
    | some p =>
      obtain ⟨q, u⟩ := p
      rw [told_some hg] at h
      injection h with h1 h2
      injection h2 with h2
      subst h1 h2
      obtain ⟨h3, h4⟩ := gStr_is hg
      rw [h3, tx_uv (by simpa [ByteArray.size] using h4)]
theorem flag_back {st : Option (List UInt8)} {b : Bool} {t : List UInt8} (h : told false gFlag st = (b, some t)) : st = some (fv b ++ t) := by
  cases st with
  | none => simp [told] at h
  | some l =>
    cases hg : gFlag l with
    | none => rw [told_none hg] at h; simp at h
    | some p =>
      obtain ⟨q, u⟩ := p
      rw [told_some hg] at h
      injection h with h1 h2
      injection h2 with h2
      subst h1 h2
      rw [gFlag_is hg]
      rfl
theorem told_gone {α : Type} {z : α} {g : List UInt8 → Option (α × List UInt8)} {st : Option (List UInt8)} {p : α × Option (List UInt8)} (h : told z g st = p) {t : List UInt8} (ht : p.2 = some t) : told z g st = (p.1, some t) := by rw [h, ← ht]
theorem rdCell_back {leaf : Bool} {st : Option (List UInt8)} {c : PC} {t : List UInt8} (h : rdCell leaf st = (c, some t)) : st = some (c.by leaf ++ t) := by
  obtain ⟨k, s1, hk⟩ : ∃ k s1, told [] (gStr 48) st = (k, s1) := ⟨_, _, rfl⟩
  unfold rdCell at h
  rw [hk] at h
  cases leaf with
  | false =>
    simp only [Bool.false_eq_true, ↓reduceIte] at h
    injection h with h1 h2
    subst h1 h2
    rw [str_back hk]
    simp [PC.by]
  | true =>
    simp only [↓reduceIte] at h
    obtain ⟨lg, s2, hl⟩ : ∃ lg s2, told 0 (gCount 2147483647) s1 = (lg, s2) := ⟨_, _, rfl⟩
    rw [hl] at h
    dsimp only at h
    by_cases hz : lg = 0
    · subst hz
      simp only [↓reduceIte] at h
      obtain ⟨v, s3, hv⟩ : ∃ v s3, told [] (gStr 64) s2 = (v, s3) := ⟨_, _, rfl⟩
      rw [hv] at h
      injection h with h1 h2
      dsimp only at h2
      subst h1 h2
      have e2 := str_back hv
      subst e2
      have e1 := count_back hl
      subst e1
      rw [str_back hk]
      simp [PC.by]
    · simp only [hz, ↓reduceIte] at h
      obtain ⟨v, s3, hv⟩ : ∃ v s3, told 0 (gCount 2147483647) s2 = (v, s3) := ⟨_, _, rfl⟩
      rw [hv] at h
      injection h with h1 h2
      dsimp only at h2
      subst h1 h2
      have e2 := count_back hv
      subst e2
      have e1 := count_back hl
      subst e1
      rw [str_back hk]
      simp [PC.by, hz]
theorem rdCells_back {leaf : Bool} : ∀ {m : Nat} {st : Option (List UInt8)} {l : List PC} {t : List UInt8}, rdCells leaf m st = (l, some t) → st = some (csBy leaf l ++ t) := by
  intro m
  induction m with
  | zero =>
    intro st l t h
    unfold rdCells at h
    injection h with h1 h2
    subst h1 h2
    rfl
  | succ m ih =>
    intro st l t h
    unfold rdCells at h
    obtain ⟨c, s1, hc⟩ : ∃ c s1, rdCell leaf st = (c, s1) := ⟨_, _, rfl⟩
    rw [hc] at h
    dsimp only at h
    obtain ⟨l', s2, hl'⟩ : ∃ l' s2, rdCells leaf m s1 = (l', s2) := ⟨_, _, rfl⟩
    rw [hl'] at h
    injection h with h1 h2
    dsimp only at h1 h2
    subst h1 h2
    have e := ih hl'
    subst e
    rw [rdCell_back hc, ← List.append_assoc]
    rfl
theorem rdKids_back : ∀ {m : Nat} {st : Option (List UInt8)} {l : List Int} {t : List UInt8}, rdKids m st = (l, some t) → st = some (ksBy l ++ t) := by
  intro m
  induction m with
  | zero =>
    intro st l t h
    unfold rdKids at h
    injection h with h1 h2
    subst h1 h2
    rfl
  | succ m ih =>
    intro st l t h
    unfold rdKids at h
    obtain ⟨c, s1, hc⟩ : ∃ c s1, told 0 (gCount 2147483647) st = (c, s1) := ⟨_, _, rfl⟩
    rw [hc] at h
    dsimp only at h
    obtain ⟨l', s2, hl'⟩ : ∃ l' s2, rdKids m s1 = (l', s2) := ⟨_, _, rfl⟩
    rw [hl'] at h
    injection h with h1 h2
    dsimp only at h1 h2
    subst h1 h2
    have e := ih hl'
    subst e
    rw [count_back hc, ← List.append_assoc]
    rfl
theorem rdNode_back {l : List UInt8} {n : PN} {t : List UInt8} (h : rdNode (some l) = (n, some t)) : l = n.by ++ t := by
  obtain ⟨lf, s1, hf⟩ : ∃ lf s1, told false gFlag (some l) = (lf, s1) := ⟨_, _, rfl⟩
  obtain ⟨m, s2, hm⟩ : ∃ m s2, told 0 (gCount (((s1.getD []).length : Nat) : Int)) s1 = (m, s2) := ⟨_, _, rfl⟩
  obtain ⟨cs, s3, hc⟩ : ∃ cs s3, rdCells lf m.toNat s2 = (cs, s3) := ⟨_, _, rfl⟩
  have hml : m = (cs.length : Int) := by
    have h1 := rdCells_length lf m.toNat s2
    rw [hc] at h1
    have h2 := (told_count_le (s1.getD []).length s1).1
    rw [hm] at h2
    dsimp only at h1 h2
    omega
  unfold rdNode rdMany at h
  rw [hf] at h
  dsimp only at h
  rw [hm] at h
  dsimp only at h
  rw [hc] at h
  have fin : ∀ x : List UInt8, s3 = some x → l = fv lf ++ (cnt (cs.length : Int) ++ (csBy lf cs ++ x)) := fun x hx => by
    subst hx
    have e2 := rdCells_back hc
    subst e2
    have e1 := count_back hm
    subst e1
    have e0 := flag_back hf
    injection e0 with e0
    rw [e0, hml]
  cases lf with
  | true =>
    simp only [↓reduceIte] at h
    injection h with h1 h2
    subst h1
    rw [fin t h2]
    simp [PN.by]
  | false =>
    simp only [Bool.false_eq_true, ↓reduceIte] at h
    obtain ⟨ks, s4, hk⟩ : ∃ ks s4, rdKids (m.toNat + 1) s3 = (ks, s4) := ⟨_, _, rfl⟩
    rw [hk] at h
    injection h with h1 h2
    dsimp only at h2
    subst h1 h2
    rw [fin _ (rdKids_back hk)]
    simp [PN.by]
/-- what Decode takes is Encode's, and noughts -/
theorem decOk_back {l : List UInt8} (h : decOk l = true) : (rdNode (some l)).1.may ∧ l.length ≤ 512 ∧ ∃ t, l = (rdNode (some l)).1.by ++ t ∧ allNought t = true := by
  unfold decOk at h
  rw [Bool.and_eq_true, Bool.and_eq_true, Bool.and_eq_true] at h
  obtain ⟨h1, h2, h3, h4⟩ := h
  obtain ⟨n, s, hn⟩ : ∃ n s, rdNode (some l) = (n, s) := ⟨_, _, rfl⟩
  unfold leftOf at h4
  rw [hn] at h2 h3 h4 ⊢
  dsimp only at h2 h3 h4 ⊢
  cases s with
  | none => simp at h2
  | some t =>
    have e := rdNode_back hn
    refine ⟨n.chk_iff.1 h3, of_decide_eq_true h1, t, e, ?_⟩
    have hd : l.drop (l.length - ((some t).getD []).length) = t := by
      rw [Option.getD_some, e, List.length_append, Nat.add_sub_cancel]
      simp
    rw [hd] at h4
    exact h4
end Go.Proofs.Ytedcknlafkokkaa
