/-
  NetHolds: the language's own map of packets to numbers. No statement is proved here. No condition.
-/
import Derived.Test.YtmnaekeecjlapaaKStep
import Derived.Maps.OwnSet
import Derived.Maps.Views
import Derived.DeepKeys4
import Derived.WideKeyEntry
namespace Go.Proofs.Ytmnaekeecjlapaa
open Go.RowKit Go.Maps

theorem laid_out : laidOutB Try.prog = true := by kernel_rfl
/-- a packet of which a key can be made: numbers that the machine has, a text that memory has -/
def PK.good (p : PK) : Prop := (Lit.int .i64 p.frm).wf = true ∧ (Lit.int .i64 p.dst).wf = true ∧ p.data.size ≤ maxLen
theorem pk_law : WideMaps.KeyLaw Try.prog 36 := deep_law_laid laid_out (m := Try.prog.types.size + 1) (by decide +kernel) (by decide +kernel) (by kernel_rfl) (by kernel_rfl)
theorem pk_keyed : Keyed Try.prog 36 := Keyed.of_law pk_law
theorem pk_fields : ∃ fs : Array Field, Try.prog.underlying 36 = some (.struct fs) ∧ fs.toList.map (fun f => (f.offset, f.type, Try.prog.cellsOf f.type)) = [(0, 3, 1), (1, 3, 1), (2, 9, 1)] ∧ fs.all (·.name != "_") = true := ⟨_, Try.underlying36, by kernel_rfl, by kernel_rfl⟩
theorem pk_cells : Try.prog.cellsOf 36 = 3 := by kernel_rfl
theorem pk_type : Try.prog.keyType 36 = true := by kernel_rfl
theorem lits_int (d : Nat) {n : Int} (h : (Lit.int .i64 n).wf = true) : Try.prog.keyLits (d + 1) 3 [.int .i64 n] = some [.int .i64 n] := by
  unfold Program.keyLits
  rw [Try.underlying3]
  simp [h]
theorem lits_str (d : Nat) {s : ByteArray} (h : s.size ≤ maxLen) : Try.prog.keyLits (d + 1) 9 [.string s] = some [.string s.data.toList] := by
  unfold Program.keyLits
  rw [Try.underlying9]
  simp [h]
theorem pk_key {p : PK} (h : p.good) : ∃ l, keyOf Try.prog 36 p.agg = some l := by
  obtain ⟨h1, h2, h3⟩ := h
  obtain ⟨fs, hfs, hmap, hall⟩ := pk_fields
  obtain ⟨d, hd⟩ : ∃ d, Try.prog.types.size = d + 1 := by
    have h0 : 0 < Try.prog.types.size := by decide +kernel
    exact ⟨Try.prog.types.size - 1, by omega⟩
  have hfm : p.agg.formed Try.prog 36 = true := by
    unfold PK.agg Value.formed
    rw [hfs]
    simp [pk_cells]
  have hlits : Try.prog.keyLits (Try.prog.types.size + 1) 36 p.agg.cells.toList = some [.int .i64 p.frm, .int .i64 p.dst, .string p.data.data.toList] := by
    rw [hd]
    unfold Program.keyLits
    rw [hfs]
    have hcl : p.agg.cells.toList = [.int .i64 p.frm, .int .i64 p.dst, .string p.data] := rfl
    rw [hcl]
    dsimp only
    rw [if_pos ⟨by rw [pk_cells]; rfl, hall⟩]
    have hlen : fs.toList.length = 3 := by have := congrArg List.length hmap; simpa using this
    obtain ⟨f0, f1, f2, hfl⟩ : ∃ f0 f1 f2, fs.toList = [f0, f1, f2] := by
      match h : fs.toList, hlen with
      | [f0, f1, f2], _ => exact ⟨f0, f1, f2, rfl⟩
    rw [hfl] at hmap ⊢
    simp only [List.map_cons, List.map_nil, List.cons.injEq, Prod.mk.injEq, and_true] at hmap
    obtain ⟨⟨a0, a1, a2⟩, ⟨b0, b1, b2⟩, c0, c1, c2⟩ := hmap
    simp only [List.mapM_cons, List.mapM_nil, a0, a1, b0, b1, c0, c1]
    have e1 : Try.prog.cellsOf 3 = 1 := by kernel_rfl
    have e2 : Try.prog.cellsOf 9 = 1 := by kernel_rfl
    simp [e1, e2, lits_int d h1, lits_int d h2, lits_str d h3]
  refine ⟨.string (keyBytes [.int .i64 p.frm, .int .i64 p.dst, .string p.data.data.toList]), ?_⟩
  unfold keyOf
  rw [hfs]
  dsimp only
  rw [pk_type, hfm, hlits]
  rfl
section
variable {P : Program} {w : World} {t k e : TypeId} {R : Value → Option (DataW Unit × List MemPlace)} {b : Nat} {es : Array MapEntry} {clock : Nat}
/-- an entry asked for: a new one stands last, or nothing turns -/
theorem map_entry_run (K : WideMaps.KeyLaw P k) (ht : P.underlying t = some (.map k e)) {z : Value} (hz : ∀ u : World, (zeroValue e).run P u = .ok z u) (hb : w.heap[b]? = some (.map es clock)) (F : WideElems.Fit P k R es clock)
    {key : Value} {kl : Lit} (hkey : keyOf P k key = some kl) :
    ((∀ x ∈ es.toList, x.key ≠ key) ∧ ∃ v, (Instr.mapEntry t (.map (some b)) key).run P w = .ok v (ChangeMaps.setBlock w b (.map (es.push ⟨key, z, clock⟩) (clock + 1)))) ∨
      ∃ v, (Instr.mapEntry t (.map (some b)) key).run P w = .ok v (ChangeMaps.setBlock w b (.map es clock)) := by
  rcases K.find w hkey es.toList F.keys with ⟨h1, h2⟩ | ⟨j, e0, h1, h2, h3⟩
  · exact .inl ⟨h2, _, by simp [Instr.mapEntry, run_underlying ht, MapKept.run_getObj_map hb, K.check w false hkey, h1, hz, MapKept.run_setObj_map _ hb, Result.andThen, ChangeMaps.setBlock]; rfl⟩
  · have hj : es[j]? = some e0 := by simpa using h2
    have hsame : es.modify j (fun e => { e with key := key }) = es := by
      apply Array.ext'
      rw [Array.toList_modify, ChangeMaps.modify_eq_set _ _ _ _ h2]
      have h4 : ({ e0 with key := key } : MapEntry) = e0 := by rw [← h3]
      rw [h4]
      exact WideElems.set_self _ _ _ h2
    exact .inr ⟨_, by simp [Instr.mapEntry, run_underlying ht, MapKept.run_getObj_map hb, K.check w false hkey, h1, hj, h3, K.stays w hkey, hsame, MapKept.run_setObj_map _ hb, Result.andThen, ChangeMaps.setBlock]; rfl⟩
theorem map_update_new (K : WideMaps.KeyLaw P k) (ht : P.underlying t = some (.map k e)) (hb : w.heap[b]? = some (.map es clock)) (F : WideElems.Fit P k R es clock)
    {key : Value} {kl : Lit} (hkey : keyOf P k key = some kl) (habs : ∀ x ∈ es.toList, x.key ≠ key) (val : Value) :
    (Instr.mapUpdate t (.map (some b)) key val).run P w = .ok () (ChangeMaps.setBlock w b (.map (es.push ⟨key, val, clock⟩) (clock + 1))) := by
  rcases K.find w hkey es.toList F.keys with ⟨h1, h2⟩ | ⟨j, e0, h1, h2, h3⟩
  · simp [Instr.mapUpdate, run_underlying ht, MapKept.run_getObj_map hb, K.check w false hkey, h1, MapKept.run_setObj_map _ hb, Result.andThen, ChangeMaps.setBlock]
  · exact absurd h3 (habs e0 (List.mem_of_getElem? h2))
end
/-- how a number reads in the map -/
def Ri : Value → Option (DataW Unit × List MemPlace)
  | .int .i64 n => some (.lit (.int .i64 n), [])
  | _ => none
theorem Ri_inv {v : Value} {d : DataW Unit} {ps : List MemPlace} (h : Ri v = some (d, ps)) : ∃ n, v = .int .i64 n ∧ d = .lit (.int .i64 n) := by
  unfold Ri at h
  split at h
  · rename_i n
    injection h with h
    injection h with h1 h2
    exact ⟨n, rfl, h1.symm⟩
  · cases h
theorem zero_int (W : World) : (zeroValue 3).run Try.prog W = .ok (.int .i64 0) W := by kernel_rfl
/-- block b is the map of how often a packet is in the row l -/
def CntM (w : World) (b n : Nat) (l : List PK) : Prop := ∃ D : DataW Unit, w.ownsMap Try.prog 36 Ri b n D ∧ ∀ p k, keyOf Try.prog 36 p.agg = some k → D.atKey k (.lit (.int .i64 0)) = .lit (.int .i64 (cntK p l : Int))
section
variable {w w' : World} {b n : Nat} {l : List PK}
theorem agg_inj {p q : PK} (h : p.agg = q.agg) : p = q := by
  unfold PK.agg at h
  injection h with h
  simp at h
  cases p; cases q
  simp_all
theorem CntM.made (w : World) : CntM (w.alloc (.map #[] 0)) w.heap.size 0 [] := ⟨_, World.ownsMap_made w _ _ _, fun _ _ _ => rfl⟩
theorem CntM.lt (h : CntM w b n l) : b < w.heap.size := by obtain ⟨D, h, _⟩ := h; exact h.lt
theorem CntM.same (h : CntM w b n l) (hk : w'.heap[b]? = w.heap[b]?) : CntM w' b n l := by
  obtain ⟨D, ⟨es, clock, hb, F, hs, hD⟩, h2⟩ := h
  exact ⟨D, ⟨es, clock, hk.trans hb, F, hs, hD⟩, h2⟩
theorem CntM.is_map (h : CntM w b n l) : ∃ es clock, w.heap[b]? = some (.map es clock) := by
  obtain ⟨D, ⟨es, clock, hb, -⟩, -⟩ := h
  exact ⟨es, clock, hb⟩
theorem CntM.look (h : CntM w b n l) {p : PK} (hp : p.good) : (Instr.lookup 54 (.map (some b)) p.agg false).run Try.prog w = .ok (.int .i64 (cntK p l : Int)) w := by
  obtain ⟨D, h1, h2⟩ := h
  obtain ⟨k, hk⟩ := pk_key hp
  obtain ⟨v, ps, hr, hv⟩ := h1.lookup (t := 54) (e := 3) pk_keyed Try.underlying54 (zero_int w) (zd := .lit (.int .i64 0)) (zp := []) rfl hk
  obtain ⟨c, rfl, hc⟩ := Ri_inv hv
  rw [h2 p k hk] at hc
  injection hc with hc
  injection hc with _ hc
  rw [hr, hc]
/-- 'm[p]' written anew, in two steps: the entry, and what stands in it -/
theorem CntM.put (h : CntM w b n l) {p : PK} (hp : p.good) (hn : n < maxLen) {m : List PK} (hm : ∀ q, q ≠ p → cntK q m = cntK q l) :
    ∃ (v0 : Value) (st : Nat) (w1 : World), (Instr.mapEntry 54 (.map (some b)) p.agg).run Try.prog w = .ok (.tuple #[v0, goInt st]) w1 ∧ (∀ g, g ≠ b → w1.heap[g]? = w.heap[g]?) ∧ Below b w w1 ∧
      CntM w1 b (n + 1) l ∧
      ∃ w2, (Instr.entryStore 54 (.map (some b)) (goInt st) (.int .i64 (cntK p m : Int))).run Try.prog w1 = .ok () w2 ∧ CntM w2 b (n + 1) m ∧ (∀ g, g ≠ b → w2.heap[g]? = w.heap[g]?) ∧ Below b w w2 := by
  obtain ⟨D, h1, h2⟩ := h
  obtain ⟨k, hk⟩ := pk_key hp
  have h1' := h1
  obtain ⟨es, clock, hb, F, hs, hD⟩ := h1
  obtain ⟨v0, st, es1, clock1, hr, hv0, hst⟩ := WideElems.entry_then_store pk_law Try.underlying54 zero_int hb F hk
  have hbl : b < w.heap.size := (Array.getElem?_eq_some_iff.1 hb).1
  have hw1 : (ChangeMaps.setBlock w b (.map es1 clock1)).heap[b]? = some (.map es1 clock1) := ChangeMaps.heap_setBlock_same hb _
  have hfar : ∀ o g, g ≠ b → (ChangeMaps.setBlock w b o).heap[g]? = w.heap[g]? := fun o g hg => ChangeMaps.heap_setBlock_other hb _ hg
  have hbel : ∀ o, Below b w (ChangeMaps.setBlock w b o) := fun o => ⟨rfl, rfl, rfl, by simp [ChangeMaps.setBlock], fun i hi => hfar o i (by omega)⟩
  have hown : ∀ val d ps, Ri val = some (d, ps) → ∀ es' clock', (Instr.mapUpdate 54 (.map (some b)) p.agg val).run Try.prog w = .ok () (ChangeMaps.setBlock w b (.map es' clock')) → (ChangeMaps.setBlock w b (.map es' clock')).ownsMap Try.prog 36 Ri b (n + 1) (D.put k d) := fun val d ps hv es' clock' he => by
    obtain ⟨w', hu, ho, -⟩ := h1'.store (t := 54) (e := 3) pk_keyed Try.underlying54 hn hk hv
    rw [hu] at he
    injection he with _ he
    rw [← he]
    exact ho
  have hput : ∀ c q kq, keyOf Try.prog 36 q.agg = some kq → (D.put k (.lit (.int .i64 c))).atKey kq (.lit (.int .i64 0)) = if q = p then .lit (.int .i64 c) else .lit (.int .i64 (cntK q l : Int)) := fun c q kq hq => by
    by_cases hqp : q = p
    · subst hqp
      rw [hk] at hq
      have := Option.some.inj hq
      subst this
      rw [if_pos rfl]
      exact atKey_put_same h1'.isMap (pk_keyed.key hk) _ _
    · rw [if_neg hqp, atKey_put_other (fun e => hqp (agg_inj (pk_keyed.inj (by rw [← e]; exact hq) hk)))]
      exact h2 q kq hq
  refine ⟨v0, st, _, hr, hfar _, hbel _, ?_, ?_⟩
  · -- the entry alone: what is read is as it was
    rcases map_entry_run pk_law Try.underlying54 zero_int hb F hk with ⟨habs, v1, hr1⟩ | ⟨v1, hr1⟩
    · rw [hr] at hr1
      injection hr1 with _ hr1
      obtain ⟨v2, st2, es2, clock2, hr2, -, hst2⟩ := WideElems.entry_then_store pk_law Try.underlying54 zero_int hb F hk
      have hown1 := hown (.int .i64 0) _ _ rfl (es.push ⟨p.agg, .int .i64 0, clock⟩) (clock + 1) (map_update_new pk_law Try.underlying54 hb F hk habs _)
      rw [hr1]
      refine ⟨_, hown1, fun q kq hq => ?_⟩
      rw [hput _ q kq hq]
      by_cases hqp : q = p
      · rw [if_pos hqp, hqp]
        have h0 := h2 p k hk
        rw [← h0]
        have hl := Maps.fit_look false pk_keyed Try.underlying54 (zero_int w) hb F hk
        rcases hl with ⟨-, -, hat⟩ | ⟨e0, y, hm0, hk0, -⟩
        · rw [hD, hat]
        · exact absurd hk0 (habs e0 hm0)
      · rw [if_neg hqp]
    · rw [hr] at hr1
      injection hr1 with _ hr1
      rw [hr1]
      exact ⟨D, ⟨es, clock, ChangeMaps.heap_setBlock_same hb _, F, Nat.le_succ_of_le hs, hD⟩, h2⟩
  · obtain ⟨es', clock', hs', hu'⟩ := hst _ (.int .i64 (cntK p m : Int)) hw1
    have e : ChangeMaps.setBlock (ChangeMaps.setBlock w b (.map es1 clock1)) b (.map es' clock') = ChangeMaps.setBlock w b (.map es' clock') := by unfold ChangeMaps.setBlock; simp
    rw [e] at hs'
    refine ⟨_, hs', ⟨_, hown _ _ _ rfl es' clock' hu', fun q kq hq => ?_⟩, hfar _, hbel _⟩
    rw [hput _ q kq hq]
    by_cases hqp : q = p
    · rw [if_pos hqp, hqp]
    · rw [if_neg hqp, hm q hqp]
end
end Go.Proofs.Ytmnaekeecjlapaa
