/-
  An entry's bytes, plainly, and back. No statement is proved here. No condition.
-/
import Derived.Test.YtackfigkhjdidaaLPlain
import Derived.Test.YtackfigkhjdidaaCode
import Derived.Test.YtackfigkhjdidaaReaderC
import Derived.Test.YtackfigkhjdidaaPlainC
import Derived.Test.YtackfigkhjdidaaPlainD
namespace Go.Proofs.Ytackfigkhjdidaa

def intsBy (l : List Int) : List UInt8 := l.flatMap fun n => uv n.toNat
def EN.bs (e : EN) : List UInt8 := uv e.term.toNat ++ (uv e.kind.toNat ++ (tv e.data.data.toList ++ (uv e.list.length ++ intsBy e.list)))
def rdInts : Nat → Option (List UInt8) → List Int × Option (List UInt8)
  | 0, st => ([], st)
  | n + 1, st => ((told 0 (gCount 5) st).1 :: (rdInts n (told 0 (gCount 5) st).2).1, (rdInts n (told 0 (gCount 5) st).2).2)
def rdT (st : Option (List UInt8)) := told 0 (gCount 2147483647) st
def rdK (st : Option (List UInt8)) := told 0 (gCount 255) (rdT st).2
def rdD (st : Option (List UInt8)) := told [] (gStr 256) (rdK st).2
def rdC (st : Option (List UInt8)) := told 0 (gCount 5) (rdD st).2
def rdL (st : Option (List UInt8)) := rdInts (rdC st).1.toNat (rdC st).2
def rdE (st : Option (List UInt8)) : EN := ⟨(rdT st).1, (rdK st).1, ⟨(rdD st).1.toArray⟩, (rdL st).1⟩
def readOk (b : List UInt8) : Bool := decide ((rdL (some b)).2 = some []) && (rdE (some b)).may
theorem intsBy_cons (n : Int) (l : List Int) : intsBy (n :: l) = uv n.toNat ++ intsBy l := rfl
theorem told_uv {m n : Int} {t : List UInt8} (h0 : 0 ≤ n) (h1 : n ≤ 2147483647) (hm : n ≤ m) : told 0 (gCount m) (some (uv n.toNat ++ t)) = (n, some t) := told_some (gCount_uv m n t h0 h1 hm)
theorem told_tv {m : Int} {s t : List UInt8} (h : s.length ≤ 2147483647) (hm : (s.length : Int) ≤ m) : told [] (gStr m) (some (tv s ++ t)) = (s, some t) := told_some (gStr_tv m s t h hm)
theorem rdInts_by : ∀ (l : List Int) (t : List UInt8), (∀ n ∈ l, 1 ≤ n ∧ n ≤ 5) → rdInts l.length (some (intsBy l ++ t)) = (l, some t)
  | [], t, _ => rfl
  | n :: l, t, h => by
    have hn := h n (by simp)
    have ih := rdInts_by l t fun m hm => h m (by simp [hm])
    rw [intsBy_cons, List.append_assoc, List.length_cons]
    unfold rdInts
    rw [told_uv (by omega) (by omega) (by omega), ih]
theorem rdE_by {e : EN} (h : e.may = true) (t : List UInt8) : rdE (some (e.bs ++ t)) = e ∧ (rdL (some (e.bs ++ t))).2 = some t := by
  have h1 := EN.may_term h
  have h2 := EN.may_kind h
  have h3 := EN.may_data h
  have h4 := EN.may_list h
  have hds : e.data.data.toList.length = e.data.size := by rw [Array.length_toList]; rfl
  have eT : rdT (some (e.bs ++ t)) = (e.term, some (uv e.kind.toNat ++ (tv e.data.data.toList ++ (uv e.list.length ++ intsBy e.list)) ++ t)) := by
    unfold rdT EN.bs
    rw [List.append_assoc]
    exact told_uv (by omega) h1.2 h1.2
  have eK : rdK (some (e.bs ++ t)) = (e.kind, some (tv e.data.data.toList ++ (uv e.list.length ++ intsBy e.list) ++ t)) := by
    unfold rdK
    rw [eT, List.append_assoc]
    exact told_uv (by omega) (by omega) (by omega)
  have eD : rdD (some (e.bs ++ t)) = (e.data.data.toList, some (uv e.list.length ++ intsBy e.list ++ t)) := by
    unfold rdD
    rw [eK, List.append_assoc]
    exact told_tv (by omega) (by omega)
  have eC : rdC (some (e.bs ++ t)) = ((e.list.length : Int), some (intsBy e.list ++ t)) := by
    unfold rdC
    rw [eD, List.append_assoc]
    have := told_uv (m := 5) (n := (e.list.length : Int)) (t := intsBy e.list ++ t) (by omega) (by omega) (by omega)
    rw [Int.toNat_natCast] at this
    exact this
  have eL : rdL (some (e.bs ++ t)) = (e.list, some t) := by
    unfold rdL
    rw [eC]
    dsimp only
    rw [Int.toNat_natCast]
    exact rdInts_by e.list t h4.2
  refine ⟨?_, by rw [eL]⟩
  unfold rdE
  rw [eT, eK, eD, eL]
theorem read_by {e : EN} (h : e.may = true) : readOk e.bs = true ∧ rdE (some e.bs) = e := by
  have := rdE_by h []
  rw [List.append_nil] at this
  refine ⟨?_, this.1⟩
  unfold readOk
  rw [this.1, this.2, h]
  rfl
theorem uv_back {m : Int} {st : Option (List UInt8)} {n : Int} {t : List UInt8} (h : told 0 (gCount m) st = (n, some t)) : st = some (uv n.toNat ++ t) ∧ 0 ≤ n ∧ n ≤ m := by
  obtain ⟨l, rfl⟩ := told_went (congrArg Prod.snd h)
  cases hg : gCount m l with
  | none => rw [told_none hg] at h; cases h
  | some p =>
    obtain ⟨a, b⟩ := p
    rw [told_some hg] at h
    obtain ⟨rfl, h2⟩ := Prod.mk.inj h
    have h2 := Option.some.inj h2
    subst h2
    obtain ⟨q, rfl, hq1, hq2⟩ := gCount_nat hg
    exact ⟨congrArg some (gCount_is hg), by omega, hq2⟩
theorem tv_back {m : Int} {st : Option (List UInt8)} {s t : List UInt8} (h : told [] (gStr m) st = (s, some t)) : st = some (tv s ++ t) := by
  obtain ⟨l, rfl⟩ := told_went (congrArg Prod.snd h)
  cases hg : gStr m l with
  | none => rw [told_none hg] at h; cases h
  | some p =>
    obtain ⟨a, b⟩ := p
    rw [told_some hg] at h
    obtain ⟨rfl, h2⟩ := Prod.mk.inj h
    have h2 := Option.some.inj h2
    subst h2
    exact congrArg some (gStr_is hg).1
theorem rdInts_back : ∀ (n : Nat) (st : Option (List UInt8)) (l : List Int) (t : List UInt8), rdInts n st = (l, some t) → st = some (intsBy l ++ t) ∧ l.length = n
  | 0, st, l, t, h => by
    obtain ⟨rfl, rfl⟩ := Prod.mk.inj h
    exact ⟨rfl, rfl⟩
  | n + 1, st, l, t, h => by
    unfold rdInts at h
    obtain ⟨rfl, h2⟩ := Prod.mk.inj h
    have ih := rdInts_back n (told 0 (gCount 5) st).2 _ t (Prod.ext rfl h2)
    have := uv_back (m := 5) (st := st) (n := (told 0 (gCount 5) st).1) (Prod.ext rfl ih.1)
    refine ⟨?_, by rw [List.length_cons, ih.2]⟩
    rw [intsBy_cons, List.append_assoc]
    exact this.1
theorem rdInts_len : ∀ (n : Nat) (st : Option (List UInt8)), (rdInts n st).1.length = n
  | 0, _ => rfl
  | n + 1, st => by unfold rdInts; rw [List.length_cons, rdInts_len n]
theorem read_back {b : List UInt8} (h : readOk b = true) : b = (rdE (some b)).bs := by
  unfold readOk at h
  simp only [Bool.and_eq_true, decide_eq_true_eq] at h
  have hL : rdL (some b) = ((rdL (some b)).1, some []) := Prod.ext rfl h.1
  have h4 := rdInts_back _ _ _ _ hL
  have h3 := uv_back (m := 5) (st := (rdD (some b)).2) (n := (rdC (some b)).1) (Prod.ext rfl h4.1)
  have h2 := tv_back (m := 256) (st := (rdK (some b)).2) (s := (rdD (some b)).1) (Prod.ext rfl h3.1)
  have h1 := uv_back (m := 255) (st := (rdT (some b)).2) (n := (rdK (some b)).1) (Prod.ext rfl h2)
  have h0 := uv_back (m := 2147483647) (st := some b) (n := (rdT (some b)).1) (Prod.ext rfl h1.1)
  have hc : (rdC (some b)).1.toNat = (rdL (some b)).1.length := h4.2.symm
  have := Option.some.inj h0.1
  conv => lhs; rw [this]
  unfold EN.bs rdE
  dsimp only
  rw [hc, List.append_nil]
end Go.Proofs.Ytackfigkhjdidaa
