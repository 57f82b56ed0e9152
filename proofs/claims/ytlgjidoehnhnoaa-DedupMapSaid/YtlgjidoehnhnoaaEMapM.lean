/-
  DedupMap: the language's own map of values beside the list of pairs; operations as a row. No statement is proved here. No condition.
-/
import Derived.Test.YtlgjidoehnhnoaaEMap
import Derived.Test.YtlgjidoehnhnoaaEMut
import Derived.Maps.OwnSet
import Derived.Maps.Views
import Derived.StringKeys
namespace Go.Proofs.Ytlgjidoehnhnoaa
open Go.RowKit Go.Maps

/-- what a value reads as in the map -/
def Rk : Value → Option (DataW Unit × List MemPlace)
  | .agg xs => match xs.toList with
    | [.string s] => some (.lit (.string s.data.toList), [])
    | _ => none
  | _ => none
theorem Rk_inv {v : Value} {d : DataW Unit} {ps : List MemPlace} (h : Rk v = some (d, ps)) : ∃ s, v = .agg #[.string s] ∧ d = .lit (.string s.data.toList) := by
  unfold Rk at h
  split at h
  · rename_i xs
    split at h
    · rename_i s hs
      injection h with h
      injection h with h1 h2
      refine ⟨s, ?_, h1.symm⟩
      congr 1
      exact Array.toList_inj.1 hs
    · cases h
  · cases h
def Kl (k : ByteArray) : Lit := .string k.data.toList
theorem Kl_ne {a b : ByteArray} (h : a ≠ b) : Kl a ≠ Kl b := fun e => h (by
  injection e with e
  exact toList_inj (by rw [ByteArray.toList_eq, ByteArray.toList_eq]; exact e))
theorem data_inj {a b : ByteArray} (h : a.data.toList = b.data.toList) : a = b := toList_inj (by rw [ByteArray.toList_eq, ByteArray.toList_eq]; exact h)
theorem str_keyed : Keyed Try.prog 9 := string_keyed Try.underlying9
theorem key_s {k : ByteArray} (h : k.size ≤ 1000) : keyOf Try.prog 9 (.string k) = some (Kl k) := Go.WideMaps.keyOf_string_mk Try.underlying9 (by unfold maxLen; omega)
/-- block b is the map of a list's pairs -/
def MapP (w : World) (b n : Nat) (M : List PP) : Prop := ∃ D : DataW Unit, w.ownsMap Try.prog 9 Rk b n D ∧ (∀ k, has D (Kl k) = (findP M k).isSome) ∧ (∀ k v z, findP M k = some v → D.atKey (Kl k) z = .lit (.string v.data.toList)) ∧ size D = M.length
section
variable {w w' : World} {b n : Nat} {M : List PP}
theorem MapP.made (w : World) : MapP (w.alloc (.map #[] 0)) w.heap.size 0 [] := ⟨_, World.ownsMap_made w _ _ _, fun _ => rfl, (fun _ _ _ h => by cases h), rfl⟩
theorem MapP.lt (h : MapP w b n M) : b < w.heap.size := by obtain ⟨D, h, _⟩ := h; exact h.lt
theorem MapP.same (h : MapP w b n M) (hk : w'.heap[b]? = w.heap[b]?) : MapP w' b n M := by
  obtain ⟨D, ⟨es, clock, hb, F, hs, hD⟩, h2, h3, h4⟩ := h
  exact ⟨D, ⟨es, clock, hk.trans hb, F, hs, hD⟩, h2, h3, h4⟩
theorem MapP.look (h : MapP w b n M) {k : ByteArray} (hk : k.size ≤ 1000) : (Instr.lookup 51 (.map (some b)) (.string k) true).run Try.prog w = .ok (.tuple #[.agg #[.string ((findP M k).getD ⟨#[]⟩)], .bool (findP M k).isSome]) w := by
  obtain ⟨D, h1, h2, h3, h4⟩ := h
  obtain ⟨v, ps, hr, hv⟩ := h1.look_ok (t := 51) (e := 53) str_keyed Try.underlying51 (z := .agg #[.string ⟨#[]⟩]) (by kernel_rfl) (zd := .lit (.string [])) (zp := []) rfl (key_s hk)
  obtain ⟨s, rfl, hd⟩ := Rk_inv hv
  rw [hr, h2 k]
  cases hf : findP M k with
  | none =>
    have hn : has D (Kl k) = false := by rw [h2 k, hf]; rfl
    rw [atKey_of_not_has hn] at hd
    injection hd with hd
    injection hd with hd
    have : s = ⟨#[]⟩ := data_inj hd.symm
    rw [this]
    rfl
  | some x =>
    rw [h3 k x _ hf] at hd
    injection hd with hd
    injection hd with hd
    have : s = x := data_inj hd.symm
    rw [this]
    rfl
theorem MapP.len (h : MapP w b n M) (ty : TypeId) : (Builtin.len_ #[51] ty #[.map (some b)]).run Try.prog w = .ok (.int .i64 (M.length : Int)) w := by
  obtain ⟨D, h1, h2, h3, h4⟩ := h
  rw [h1.len Try.underlying51 ty, h4]
theorem MapP.put (h : MapP w b n M) {k v : ByteArray} (hk : k.size ≤ 1000) (hn : n < maxLen) :
    ∃ w', (Instr.mapUpdate 51 (.map (some b)) (.string k) (.agg #[.string v])).run Try.prog w = .ok () w' ∧ MapP w' b (n + 1) (putP M ⟨k, v⟩) ∧ w.mapTurned w' b := by
  obtain ⟨D, h1, h2, h3, h4⟩ := h
  obtain ⟨w', hr, ho, ht⟩ := h1.store (t := 51) (e := 53) str_keyed Try.underlying51 hn (val := .agg #[.string v]) (d := .lit (.string v.data.toList)) (ps := []) (key_s hk) rfl
  refine ⟨w', hr, ⟨_, ho, fun j => ?_, fun j x z hx => ?_, ?_⟩, ht⟩
  · rw [findP_put]
    by_cases hj : k = j
    · subst hj
      rw [if_pos rfl, has_put_same h1.isMap (show WideAt.IsKeyLit (Kl k) from trivial)]
      rfl
    · rw [if_neg hj, has_put_other (Kl_ne (Ne.symm hj)), h2]
  · rw [findP_put] at hx
    by_cases hj : k = j
    · subst hj
      rw [if_pos rfl] at hx
      injection hx with hx
      rw [atKey_put_same h1.isMap (show WideAt.IsKeyLit (Kl k) from trivial), show v = x from hx]
    · rw [if_neg hj] at hx
      rw [atKey_put_other (Kl_ne (Ne.symm hj)), h3 j x z hx]
  · rw [size_put (h1.tidy str_keyed), h2, h4, put_length]
theorem MapP.del (h : MapP w b n M) (hr : rise M) {k : ByteArray} (hk : k.size ≤ 1000) (ty : TypeId) :
    ∃ w', (Builtin.delete_ #[51, 9] ty #[.map (some b), .string k]).run Try.prog w = .ok (.tuple #[]) w' ∧ MapP w' b n (delP M k) ∧ w.mapTurned w' b := by
  obtain ⟨D, h1, h2, h3, h4⟩ := h
  obtain ⟨w', hrn, ho, ht⟩ := h1.drop (t := 51) (e := 53) str_keyed Try.underlying51 (key_s hk) ty
  refine ⟨w', hrn, ⟨_, ho, fun j => ?_, fun j x z hx => ?_, ?_⟩, ht⟩
  · rw [findP_del]
    by_cases hj : k = j
    · subst hj
      rw [if_pos rfl, has_del_same]
      rfl
    · rw [if_neg hj, has_del_other (Kl_ne (Ne.symm hj)), h2]
  · rw [findP_del] at hx
    by_cases hj : k = j
    · subst hj
      rw [if_pos rfl] at hx
      cases hx
    · rw [if_neg hj] at hx
      rw [atKey_del_other (Kl_ne (Ne.symm hj)), h3 j x z hx]
  · have hs := size_del (k := Kl k) (h1.tidy str_keyed)
    rw [h2, h4] at hs
    rw [del_length hr]
    split at hs <;> rename_i hf <;> simp [hf] <;> omega
end
/-- operations as a row -/
def POk : Type := {o : PO // 0 ≤ o.kind ∧ o.kind ≤ 255}
def opR : Rec {o : PO // 0 ≤ o.kind ∧ o.kind ≤ 255} where
  vals o := [.int .u8 o.1.kind, .string o.1.key, .string o.1.val, .string o.1.old, .bool o.1.had]
  size := 5
  len _ := rfl
  one p u hu := by simp at hu; rcases hu with rfl | rfl | rfl | rfl | rfl <;> rfl
theorem op_cell {w : World} {N : Nat → Prop} {v : Value} {l : List {o : PO // 0 ≤ o.kind ∧ o.kind ≤ 255}} (h : opR.N w N v l) {i : Nat} {o : {o : PO // 0 ≤ o.kind ∧ o.kind ≤ 255}} (hi : l[i]? = some o) :
    ∃ b f n k, v = .slice (some ⟨b, f, none⟩) n k ∧ N b ∧ b < w.heap.size ∧ w.cell? ⟨b, f + i * 5, none⟩ = some (.int .u8 o.1.kind) ∧ w.cell? ⟨b, f + i * 5 + 1, none⟩ = some (.string o.1.key) ∧ w.cell? ⟨b, f + i * 5 + 2, none⟩ = some (.string o.1.val) ∧ w.cell? ⟨b, f + i * 5 + 3, none⟩ = some (.string o.1.old) ∧ w.cell? ⟨b, f + i * 5 + 4, none⟩ = some (.bool o.1.had) := by
  obtain ⟨b, f, n, k, hv, hb, hs, hc⟩ := h.cell hi
  exact ⟨b, f, n, k, hv, hb, hs, hc 0 _ rfl, hc 1 _ rfl, hc 2 _ rfl, hc 3 _ rfl, hc 4 _ rfl⟩
end Go.Proofs.Ytlgjidoehnhnoaa
