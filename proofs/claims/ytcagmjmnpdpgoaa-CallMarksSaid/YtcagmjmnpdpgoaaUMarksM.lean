/-
  CallMarks: a store at a key that is there while a map is gone through; what holds between the steps. No statement is proved here. No condition.
-/
import Derived.Test.YtcagmjmnpdpgoaaUStep
import Derived.Maps.RangeWalk
namespace Go.Proofs.Ytcagmjmnpdpgoaa
open Go.RowKit Go.Maps
open Go.WideElems (Fit rd rg pl rd_key rd_val rg_of other_key rd_mk)
open Go.ChangeMaps Go.MapKept

section
variable {H : Type} {P : Program} {k : TypeId} {R : Value → Option (DataW H × List MemPlace)} {w : World} {b r n : Nat} {D : DataW H} {left : Lit → Bool} {cnt : Nat}
theorem left_size (a : Array MapEntry) (seen : Array Nat) : (leftOf a seen).size = ((a.toList.map (·.born)).filter fun x => !seen.contains x).length := by
  unfold leftOf
  rw [← Array.length_toList, Array.toList_filter, List.filter_map, List.length_map]
  rfl
/-- 'm[k] = v' in the round, at a key that is there -/
theorem ranges_set {t e : TypeId} (h : w.ranges P k R b r n D left cnt) (K : Keyed P k) (ht : P.underlying t = some (.map k e)) (hn : n < maxLen) {key val : Value} {kl : Lit} {d : DataW H} {ps : List MemPlace} (hkey : keyOf P k key = some kl) (hv : R val = some (d, ps)) (hhas : has D kl = true) :
    ∃ w', (Instr.mapUpdate t (.map (some b)) key val).run P w = .ok () w' ∧ w'.ranges P k R b r n (D.put kl d) left cnt ∧ w.mapTurned w' b := by
  have hne := h.ne
  obtain ⟨es, clock, since, seen, c0, hb, F, hs, rfl, hr, hold, rfl, hl1, hl2, hsc, hsk⟩ := h
  obtain ⟨es', clock', hrun, F', hput, -⟩ := Maps.fit_store (R' := R) K ht hb F (Nat.lt_of_le_of_lt hs hn) (fun _ _ _ _ hz => hz) hkey hv
  rcases K.find w hkey es.toList F.keys with ⟨h1, h2⟩ | ⟨j, e0, h1, h2, h3⟩
  · exfalso
    obtain ⟨q, hq, hqk⟩ := List.any_eq_true.1 hhas
    obtain ⟨x, hx, rfl⟩ := List.mem_map.1 (mem_sorted.1 hq)
    obtain ⟨y, hy⟩ := F.reads x hx
    have hk1 := rd_key hy
    have e1 := WideAt.sameKey_eq hqk
    rw [rg_of hy] at e1
    exact h2 x hx (K.inj (by rw [← e1]; exact hk1) hkey)
  · have hj : es[j]? = some e0 := by simpa using h2
    have hrun2 : (Instr.mapUpdate t (.map (some b)) key val).run P w = .ok () (setBlock w b (.map (es.modify j (fun e' => { e' with key := key, val := val })) clock)) := by
      simp [Instr.mapUpdate, run_underlying ht, MapKept.run_getObj_map hb, K.check w false hkey, h1, hj, h3, K.stays w hkey, MapKept.run_setObj_map _ hb, Result.andThen, setBlock]
    rw [hrun] at hrun2
    injection hrun2 with _ hw
    have hcell := congrArg (fun W : World => W.heap[b]?) hw
    rw [heap_setBlock_same hb, heap_setBlock_same hb] at hcell
    have hcell := Option.some.inj hcell
    injection hcell with q1 q2
    subst q1 q2
    have hlist : (es.modify j (fun e' => { e' with key := key, val := val })).toList = es.toList.set j { e0 with key := key, val := val } := by rw [Array.toList_modify, modify_eq_set _ _ _ _ h2]
    have hjl : j < es.toList.length := (List.getElem?_eq_some_iff.1 h2).1
    have he0 : e0 ∈ es.toList := List.mem_of_getElem? h2
    have hborn : (es.modify j (fun e' => { e' with key := key, val := val })).toList.map (·.born) = es.toList.map (·.born) := by
      rw [hlist, List.map_set]
      refine List.ext_getElem? fun q => ?_
      rw [List.getElem?_set]
      split
      · rename_i hq
        subst hq
        rw [if_pos (by rw [List.length_map]; exact hjl), List.getElem?_map, h2]
        rfl
      · rfl
    have hkl0 : (rg P k R e0).1 = kl := by
      obtain ⟨y, hy⟩ := F.reads e0 he0
      have hk1 := rd_key hy
      rw [h3, hkey] at hk1
      rw [rg_of hy]
      exact (Option.some.inj hk1).symm
    have hmem : ∀ x, x ∈ (es.modify j (fun e' => { e' with key := key, val := val })).toList → x = { e0 with key := key, val := val } ∨ x ∈ es.toList := fun x hx => by
      rw [hlist] at hx
      exact (List.mem_or_eq_of_mem_set hx).symm
    have hnew : (rg P k R ({ e0 with key := key, val := val } : MapEntry)).1 = kl := by rw [rg_of (rd_mk hkey hv)]
    refine ⟨_, hrun, ⟨_, clock', since, seen, c0, heap_setBlock_same hb _, F', ?_, by rw [DataW.put_eq, hput], (heap_setBlock_other hb _ hne).trans hr, fun x hx => ?_, ?_, fun x hx => ?_, fun kl' hk' => ?_, hsc, hsk⟩, ⟨es, clock', _, clock', hb, rfl⟩⟩
    · simpa using hs
    · rcases hmem x hx with rfl | hx
      · exact hold e0 he0
      · exact hold x hx
    · rw [left_size, left_size, hborn]
    · rcases hmem x hx with rfl | hx
      · rw [hnew, ← hkl0]
        exact hl1 e0 he0
      · exact hl1 x hx
    · obtain ⟨x, hx, hxk⟩ := hl2 kl' hk'
      obtain ⟨q, hq, hqe⟩ := List.getElem_of_mem hx
      by_cases hqj : q = j
      · refine ⟨{ e0 with key := key, val := val }, ?_, ?_⟩
        · rw [hlist]
          exact List.mem_iff_getElem.2 ⟨j, by simpa using hjl, by simp⟩
        · rw [hnew, ← hxk]
          subst hqj
          rw [List.getElem?_eq_getElem hq] at h2
          rw [← hqe, Option.some.inj h2, hkl0]
      · refine ⟨x, ?_, hxk⟩
        rw [hlist]
        refine List.mem_iff_getElem.2 ⟨q, by simpa using hq, ?_⟩
        rw [List.getElem_set_ne (fun e => hqj e.symm)]
        exact hqe
end
/-- a key, and whether it was marked, in a map -/
abbrev KM := ByteArray × Bool
def kmE (x : KM) : DataW Unit := .lit (.string ((if x.2 then 1 else 0) :: x.1.data.toList))
def Rm : Value → Option (DataW Unit × List MemPlace)
  | .agg xs => match xs.toList with
    | [.string s, .bool m] => some (kmE (s, m), [])
    | _ => none
  | _ => none
def kmV (x : KM) : Value := .agg #[.string x.1, .bool x.2]
theorem kmE_inj {x y : KM} (h : kmE x = kmE y) : x = y := by
  unfold kmE at h
  injection h with h
  injection h with h
  injection h with h1 h2
  obtain ⟨a, m⟩ := x
  obtain ⟨c, q⟩ := y
  have e1 : a = c := by
    cases a with | mk x => cases c with | mk y => congr 1; exact Array.toList_inj.1 h2
  have e2 : m = q := by cases m <;> cases q <;> simp at h1 ⊢
  rw [e1, e2]
theorem Rm_inv {v : Value} {y : DataW Unit × List MemPlace} (h : Rm v = some y) : ∃ c : KM, v = kmV c := by
  unfold Rm at h
  split at h
  · rename_i xs
    split at h
    · rename_i s m hs
      refine ⟨(s, m), ?_⟩
      unfold kmV
      congr 1
      exact Array.toList_inj.1 hs
    · cases h
  · cases h
def mkK : MK KM where
  val := kmV
  enc := kmE
  rd := Rm
  reads _ := rfl
  inv v x ps h := by
    obtain ⟨c, rfl⟩ := Rm_inv h
    have h1 : some (kmE c, ([] : List MemPlace)) = some (kmE x, ps) := h
    injection h1 with h1
    injection h1 with h1 _
    rw [kmE_inj h1]
  zero := (⟨#[]⟩, false)
  t := 56
  e := 58
  under := Try.underlying56
  zeroed W := by kernel_rfl
theorem MapI.turned {V : Type} {K : MK V} {w w' : World} {b n g : Nat} {A : List (Int × V)} (h : MapI K w b n A) (ht : w.mapTurned w' g) (hne : b ≠ g) : MapI K w' b n A := h.same (ht.grown.block b h.lt fun e => hne (Option.some.inj e))
theorem turned_kept {w w' : World} {g : Nat} (ht : w.mapTurned w' g) : Kept w w' (fun n => n = g) := Kept.grown ht.grown fun _ hb => (Option.some.inj hb).symm
theorem sc_map {w : World} {p b g : Nat} {L given : Int} {M : List (Nat × WT)} {K : Type} {KK : MK K} {n : Nat} {A : List (Int × K)} (hs : SC w p b L given M) (hm : MapI KK w g n A) : g ≠ p ∧ ∀ m ∈ M, m.1 ≠ g := by
  obtain ⟨es, c, hb⟩ := hm.is_map
  exact ⟨(apart_M hs.obj hb).symm, fun m hm' => apart_M (hs.here m hm') hb⟩
/-- what marking a key does to what is known -/
def updK (k : ByteArray) (x : KM) : KM := (x.1, x.2 || decide (x.1 = k))
def updA (k : ByteArray) (A : List (Int × KM)) : List (Int × KM) := A.map fun x => (x.1, updK k x.2)
theorem updA_keys (k : ByteArray) (A : List (Int × KM)) : (updA k A).map (·.1) = A.map (·.1) := by unfold updA; rw [List.map_map]; rfl
theorem updA_find (k : ByteArray) (A : List (Int × KM)) (n : Int) : ifind (updA k A) n = (ifind A n).map (updK k) := by
  unfold ifind updA
  rw [List.find?_map, Option.map_map, Option.map_map]
  rfl
/-- the map under way: what is still to come is as it was, the rest is marked -/
structure RM (wr : World) (g r n : Nat) (k : ByteArray) (A : List (Int × KM)) (D : DataW Unit) (left : Lit → Bool) (cnt : Nat) : Prop where
  rg : wr.ranges Try.prog 3 Rm g r n D left cnt
  has : ∀ j, has D (.int .i64 j) = (ifind A j).isSome
  at' : ∀ j v z, ifind A j = some v → D.atKey (.int .i64 j) z = kmE (if left (.int .i64 j) = true then v else updK k v)
  size : size D = A.length
theorem RM.done {wr : World} {g r n cnt : Nat} {k : ByteArray} {A : List (Int × KM)} {D : DataW Unit} {left : Lit → Bool} (h : RM wr g r n k A D left cnt) (hl : ∀ kl, left kl = false) (hn : (A.map (·.1)).Nodup) (hw : ∀ x ∈ A, I6 x.1) : MapI mkK wr g n (updA k A) := by
  refine ⟨by rw [updA_keys]; exact hn, fun x hx => ?_, D, h.rg.owns, fun j => ?_, fun j v z hv => ?_, by rw [h.size]; unfold updA; simp⟩
  · obtain ⟨y, hy, rfl⟩ := List.mem_map.1 hx
    exact hw y hy
  · rw [h.has, updA_find]; simp
  · rw [updA_find] at hv
    obtain ⟨u, hu, rfl⟩ := Option.map_eq_some_iff.1 hv
    rw [h.at' j u z hu, hl]
    rfl
theorem RM.start {wr : World} {g r n : Nat} {k : ByteArray} {A : List (Int × KM)} {D : DataW Unit} (hr : wr.ranges Try.prog 3 Rm g r n D (Maps.has D) (Maps.size D)) (h1 : ∀ j, Maps.has D (.int .i64 j) = (ifind A j).isSome) (h2 : ∀ j v z, ifind A j = some v → D.atKey (.int .i64 j) z = kmE v) (h3 : Maps.size D = A.length) : RM wr g r n k A D (Maps.has D) (Maps.size D) :=
  ⟨hr, h1, fun j v z hv => by rw [h2 j v z hv, if_pos (by rw [h1, hv]; rfl)], h3⟩
/-- one step: an entry has come, and is marked -/
theorem RM.step {wr w1 w2 : World} {g r n cnt cnt1 : Nat} {k : ByteArray} {A : List (Int × KM)} {D : DataW Unit} {left : Lit → Bool} (h : RM wr g r n k A D left cnt) {x : Int} {c : KM} (hx : I6 x) (hl : left (.int .i64 x) = true) (hat : ∀ zd, D.atKey (.int .i64 x) zd = kmE c) (hn : n < maxLen)
    (h1 : w1.ranges Try.prog 3 Rm g r n D (fun z => left z && !z.sameKey (.int .i64 x)) cnt1) :
    ∃ w2, (Instr.mapUpdate 56 (.map (some g)) (.int .i64 x) (kmV (updK k c))).run Try.prog w1 = .ok () w2 ∧ RM w2 g r n k A (D.put (.int .i64 x) (kmE (updK k c))) (fun z => left z && !z.sameKey (.int .i64 x)) cnt1 ∧ w1.mapTurned w2 g := by
  have hhas : Maps.has D (.int .i64 x) = true := has_true_of_atKey hat
  obtain ⟨v, hv⟩ : ∃ v, ifind A x = some v := by
    have := h.has x
    rw [hhas] at this
    exact Option.isSome_iff_exists.1 this.symm
  have hcv : c = v := by
    have e1 := h.at' x v (kmE c) hv
    rw [hat, if_pos hl] at e1
    exact kmE_inj e1
  obtain ⟨w2, hrun, hrg, ht⟩ := ranges_set (t := 56) (e := 58) h1 int_key Try.underlying56 hn (val := kmV (updK k c)) (d := kmE (updK k c)) (ps := []) (key_i hx) rfl hhas
  have him := h.rg.owns.isMap
  refine ⟨w2, hrun, ⟨hrg, fun j => ?_, fun j u z hu => ?_, ?_⟩, ht⟩
  · by_cases hj : x = j
    · subst hj
      rw [has_put_same him (show WideAt.IsKeyLit (.int .i64 x) from trivial), hv]
      rfl
    · rw [has_put_other (lit_ne (Ne.symm hj)), h.has]
  · by_cases hj : x = j
    · subst hj
      rw [atKey_put_same him (show WideAt.IsKeyLit (.int .i64 x) from trivial)]
      rw [hv] at hu
      have hu := Option.some.inj hu
      have : (left (.int .i64 x) && !(Lit.int .i64 x).sameKey (.int .i64 x)) = false := by simp [Lit.sameKey]
      rw [this, hcv, hu]
      rfl
    · rw [atKey_put_other (lit_ne (Ne.symm hj)), h.at' j u z hu]
      have : (Lit.int .i64 j).sameKey (.int .i64 x) = false := Maps.sameKey_ne (lit_ne (Ne.symm hj))
      rw [this]
      simp
  · rw [size_put (h.rg.owns.tidy int_key), if_pos hhas, h.size]
/-- between the steps -/
structure ML (w wr : World) (g p b : Nat) (given : Int) (i : Nat) (M : List (Nat × WT)) (AK : List (Int × KM)) : Prop where
  bel : Below w.heap.size w wr
  km : MapI mkK wr g i AK
  sc : SC wr p b 1 given M
  gB : w.heap.size ≤ g
  pB : w.heap.size ≤ p
  bB : w.heap.size ≤ b
  mB : ∀ m ∈ M, w.heap.size ≤ m.1
  gb : g ≠ b
  giv : given ≤ (i : Int)
  sync : ∀ m ∈ M, ifind AK m.2.req = some (m.2.key, m.2.marked)
section
variable {w wr wr' : World} {g p b : Nat} {given : Int} {i : Nat} {M : List (Nat × WT)} {AK : List (Int × KM)}
theorem ML.below (h : ML w wr g p b given i M AK) (hb : Below wr.heap.size wr wr') : ML w wr' g p b given i M AK :=
  { h with bel := h.bel.trans (Joins.below_le hb h.bel.size), km := h.km.same (hb.block _ h.km.lt), sc := h.sc.below hb }
theorem ML.next (h : ML w wr g p b given i M AK) : ML w wr g p b given (i + 1) M AK := { h with km := h.km.mono (Nat.le_succ i), giv := by have := h.giv; omega }
theorem ML.tB (h : ML w wr g p b given i M AK) : ∀ n, TC b M n → w.heap.size ≤ n := fun n hn => by
  rcases hn with rfl | ⟨m, hm, rfl⟩
  · exact h.bB
  · exact h.mB m hm
theorem ML.tg (h : ML w wr g p b given i M AK) : ¬ TC b M g := fun hn => by
  rcases hn with e | ⟨m, hm, e⟩
  · exact h.gb e
  · exact (sc_map h.sc h.km).2 m hm e
theorem ML.asked {w1 w2 : World} {q : Nat} {x : WT} (h : ML w wr g p b given i M AK) (hx : x.req = 1048576 + given + 1) (hm : x.marked = false) (hs : SC w1 p b 1 (given + 1) (M ++ [(q, x)])) (k1 : Kept wr w1 (fun n => n = p ∨ n = b)) (hq : wr.heap.size ≤ q)
    (hk : MapI mkK w2 g (i + 1) (iput AK x.req (x.key, false))) (k2 : w1.mapTurned w2 g) : ML w w2 g p b (given + 1) (i + 1) (M ++ [(q, x)]) (iput AK x.req (x.key, false)) := by
  have K2 := turned_kept k2
  have hgl := h.km.lt
  have hsz := h.bel.size
  have hfar := (sc_map hs (h.km.same (k1.block g hgl fun e => e.elim (sc_map h.sc h.km).1 h.gb))).2
  refine ⟨below_kept (below_kept h.bel k1 (Nat.le_refl _) (fun n hn => by
    rcases hn with rfl | rfl
    · exact h.pB
    · exact h.bB)) K2 (Nat.le_refl _) (fun n hn => by rw [hn]; exact h.gB), hk, hs.same (K2.block p hs.ltp (Ne.symm (sc_map h.sc h.km).1)) (K2.block b hs.ltb (Ne.symm h.gb)) (fun m hm' => K2.block m.1 (hs.ltm hm') (hfar m hm')), h.gB, h.pB, h.bB, fun m hm' => ?_, h.gb, by have := h.giv; omega, fun m hm' => ?_⟩
  · rcases List.mem_append.1 hm' with hm' | hm'
    · exact h.mB m hm'
    · rw [List.mem_singleton.1 hm']
      show w.heap.size ≤ q
      omega
  · rw [ifind_put]
    rcases List.mem_append.1 hm' with hm' | hm'
    · have := h.sc.num m hm'
      rw [if_neg (by omega)]
      exact h.sync m hm'
    · rw [List.mem_singleton.1 hm', if_pos rfl, hm]
theorem left_mem {ask : WT → Option WT} {m' : Nat × WT} (h : m' ∈ M.filterMap (leftF false ask)) : ∃ m ∈ M, m'.1 = m.1 ∧ m'.2 = (ask m.2).getD m.2 := by
  obtain ⟨m, hm, he⟩ := List.mem_filterMap.1 h
  refine ⟨m, hm, ?_⟩
  unfold leftF at he
  cases ha : ask m.2 with
  | none => rw [ha] at he; have he := Option.some.inj he; rw [← he]; exact ⟨rfl, rfl⟩
  | some y => rw [ha] at he; have he := Option.some.inj he; rw [← he]; exact ⟨rfl, rfl⟩
theorem ML.due {w1 : World} {now every : Int} (h : ML w wr g p b given i M AK) (hs : SC w1 p b 1 given (M.filterMap (leftF false (dueA now every)))) (k1 : Kept wr w1 (TC b M)) : ML w w1 g p b given i (M.filterMap (leftF false (dueA now every))) AK := by
  refine ⟨below_kept h.bel k1 (Nat.le_refl _) h.tB, h.km.same (k1.block g h.km.lt h.tg), hs, h.gB, h.pB, h.bB, fun m hm => ?_, h.gb, h.giv, fun m hm => ?_⟩
  · obtain ⟨m0, hm0, e1, -⟩ := left_mem hm
    rw [e1]; exact h.mB m0 hm0
  · obtain ⟨m0, hm0, -, e2⟩ := left_mem hm
    have e3 : m.2.req = m0.2.req ∧ m.2.key = m0.2.key ∧ m.2.marked = m0.2.marked := by
      rw [e2]
      unfold dueA
      split <;> exact ⟨rfl, rfl, rfl⟩
    rw [e3.1, e3.2.1, e3.2.2]
    exact h.sync m0 hm0
theorem ML.all {w1 : World} (h : ML w wr g p b given i M AK) (hs : SC w1 p b 1 given M) (k1 : Kept wr w1 (TC b M)) : ML w w1 g p b given i M AK :=
  ⟨below_kept h.bel k1 (Nat.le_refl _) h.tB, h.km.same (k1.block g h.km.lt h.tg), hs, h.gB, h.pB, h.bB, h.mB, h.gb, h.giv, h.sync⟩
theorem ML.look {y : WT} (h : ML w wr g p b given i M AK) (hy : ifind AK y.req = some (y.key, y.marked)) (hi : I6 y.req) : (Instr.lookup 56 (.map (some g)) (.int .i64 y.req) false).run Try.prog wr = .ok (.agg #[.string y.key, .bool y.marked]) wr := by
  have := h.km.look hi
  rw [hy] at this
  exact this
theorem ML.marked {w1 w2 : World} {k : ByteArray} (h : ML w wr g p b given i M AK) (hs : SC w1 p b 1 given (M.filterMap (leftF false (markA k)))) (k1 : Kept wr w1 (TC b M)) (k2 : Kept w1 w2 (fun n => n = g ∨ w1.heap.size ≤ n)) (hm : MapI mkK w2 g i (updA k AK)) : ML w w2 g p b given i (M.filterMap (leftF false (markA k))) (updA k AK) := by
  have hsz := h.bel.size
  have hs1 := k1.size
  have hkm1 := h.km.same (k1.block g h.km.lt h.tg)
  have hfar := sc_map hs hkm1
  refine ⟨below_kept (below_kept h.bel k1 (Nat.le_refl _) h.tB) k2 (Nat.le_refl _) (fun n hn => by
    rcases hn with rfl | hn
    · exact h.gB
    · omega), hm, ?_, h.gB, h.pB, h.bB, fun m hm => ?_, h.gb, h.giv, fun m hm => ?_⟩
  · have hlp := hs.ltp
    have hlb := hs.ltb
    refine hs.same (k2.block p hlp fun e => e.elim (Ne.symm hfar.1) (by omega)) (k2.block b hlb fun e => e.elim (Ne.symm h.gb) (by omega)) fun m hm => k2.block m.1 (hs.ltm hm) fun e => e.elim (hfar.2 m hm) (by have := hs.ltm hm; omega)
  · obtain ⟨m0, hm0, e1, -⟩ := left_mem hm
    rw [e1]; exact h.mB m0 hm0
  · obtain ⟨m0, hm0, -, e2⟩ := left_mem hm
    rw [updA_find, e2]
    have e3 : ((markA k m0.2).getD m0.2).req = m0.2.req ∧ ((markA k m0.2).getD m0.2).key = m0.2.key ∧ ((markA k m0.2).getD m0.2).marked = (m0.2.marked || decide (m0.2.key = k)) := by
      unfold markA
      by_cases hk : m0.2.key = k
      · rw [if_pos hk]; exact ⟨rfl, rfl, by simp [hk]⟩
      · rw [if_neg hk]; exact ⟨rfl, rfl, by simp [hk]⟩
    rw [e3.1, e3.2.1, e3.2.2, h.sync m0 hm0]
    rfl
theorem ML.told {w1 w2 : World} {pre post : List (Nat × WT)} {q : Nat} {x : WT} (h : ML w wr g p b given i (pre ++ (q, x) :: post) AK) (hs : SC w1 p b 1 given (pre ++ post)) (k1 : Kept wr w1 (fun n => n = b)) (hm : MapI mkK w2 g i (idel AK x.req)) (k2 : w1.mapTurned w2 g) : ML w w2 g p b given i (pre ++ post) (idel AK x.req) := by
  have K2 := turned_kept k2
  have sub : ∀ m, m ∈ pre ++ post → m ∈ pre ++ (q, x) :: post := fun m hm => by
    rcases List.mem_append.1 hm with hm | hm
    · exact List.mem_append_left _ hm
    · exact List.mem_append_right _ (List.mem_cons_of_mem _ hm)
  have hfar := sc_map h.sc h.km
  refine ⟨below_kept (below_kept h.bel k1 (Nat.le_refl _) (fun n hn => by rw [hn]; exact h.bB)) K2 (Nat.le_refl _) (fun n hn => by rw [hn]; exact h.gB), hm, hs.same (K2.block p hs.ltp (Ne.symm hfar.1)) (K2.block b hs.ltb (Ne.symm h.gb)) (fun m hm' => K2.block m.1 (hs.ltm hm') (hfar.2 m (sub m hm'))), h.gB, h.pB, h.bB, fun m hm' => h.mB m (sub m hm'), h.gb, h.giv, fun m hm' => ?_⟩
  rw [ifind_del]
  have hr := h.sc.rise
  rw [List.map_append, List.map_cons, List.pairwise_append] at hr
  obtain ⟨-, h2, h3⟩ := hr
  rw [List.pairwise_cons] at h2
  have hne : x.req ≠ m.2.req := by
    rcases List.mem_append.1 hm' with hm1 | hm1
    · have h4 : m.2.req < x.req := h3 m.2.req (List.mem_map.2 ⟨m, hm1, rfl⟩) x.req (by simp)
      omega
    · have h4 : x.req < m.2.req := h2.1 m.2.req (List.mem_map.2 ⟨m, hm1, rfl⟩)
      omega
  rw [if_neg hne]
  exact h.sync m (sub m hm')
end
end Go.Proofs.Ytcagmjmnpdpgoaa
