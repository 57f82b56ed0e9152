/-
  CallOnce: what holds between its steps. No statement is proved here. No condition.
-/
import Derived.Test.YtcagmjmnpdpgoaaUStep
namespace Go.Proofs.Ytcagmjmnpdpgoaa
open Go.RowKit Go.Maps

/-- numbers in a map -/
def Ri : Value → Option (DataW Unit × List MemPlace)
  | .int .i64 n => some (.lit (.int .i64 n), [])
  | _ => none
def intK : MK Int where
  val n := .int .i64 n
  enc n := .lit (.int .i64 n)
  rd := Ri
  reads _ := rfl
  inv v x ps h := by
    unfold Ri at h
    split at h
    · rename_i n
      injection h with h
      injection h with h1 h2
      simp only [DataW.lit.injEq, Lit.int.injEq, true_and] at h1
      rw [h1]
    · cases h
  zero := 0
  t := 54
  e := 3
  under := Try.underlying54
  zeroed W := by kernel_rfl
theorem MapI.turned {V : Type} {K : MK V} {w w' : World} {b n g : Nat} {A : List (Int × V)} (h : MapI K w b n A) (ht : w.mapTurned w' g) (hne : b ≠ g) : MapI K w' b n A := h.same (ht.grown.block b h.lt fun e => hne (Option.some.inj e))
theorem turned_kept {w w' : World} {g : Nat} (ht : w.mapTurned w' g) : Kept w w' (fun n => n = g) := Kept.grown ht.grown fun b hb => (Option.some.inj hb).symm
/-- between the steps of one life -/
structure ON (w wr : World) (vl : Value) (Ls : List Int) (g t p b Bm : Nat) (L given : Int) (k i : Nat) (vm : Value) (M : List (Nat × WT)) (mi : List Int) (AG AT : List (Int × Int)) : Prop where
  bel : Below w.heap.size w wr
  lives : inR.Own wr w.heap.size 3 vl Ls
  gm : MapI intK wr g (200 * k + i) AG
  tm : MapI intK wr t i AT
  sc : SC wr p b L given M
  mine : inR.Own wr Bm 3 vm mi
  lb : ∀ q, vl.ownBlock = some q → q < Bm
  gB : w.heap.size ≤ g
  pB : w.heap.size ≤ p
  bB : w.heap.size ≤ b
  tB : w.heap.size ≤ t
  mB : w.heap.size ≤ Bm
  gb : g ≠ b
  gt : g ≠ t
  tb : t ≠ b
  giv : given ≤ (i : Int)
  gk : ∀ x ∈ AG, (∃ j L', j < k ∧ Ls[j]? = some L' ∧ L' * 1048576 < x.1 ∧ x.1 ≤ L' * 1048576 + 1048575) ∨ (L * 1048576 < x.1 ∧ x.1 ≤ L * 1048576 + given)
  mik : ∀ n ∈ mi, L * 1048576 < n ∧ n ≤ L * 1048576 + given
  mm : ∀ m ∈ M, m.2.req ∈ mi
  tk : ∀ x ∈ AT, x.1 ∈ mi
  told : ∀ n ∈ mi, 0 ≤ (ifind AT n).getD 0 ∧ (ifind AT n).getD 0 ≤ (i : Int) ∧ ((ifind AT n).getD 0 = 0 ↔ ∃ m ∈ M, m.2.req = n)
  ml : mi.length ≤ i
  mz : Bm ≤ wr.heap.size
section
variable {w wr wr' : World} {vl : Value} {Ls : List Int} {g t p b Bm : Nat} {L given : Int} {k i : Nat} {vm : Value} {M : List (Nat × WT)} {mi : List Int} {AG AT : List (Int × Int)}
theorem ON.below (h : ON w wr vl Ls g t p b Bm L given k i vm M mi AG AT) (hb : Below wr.heap.size wr wr') : ON w wr' vl Ls g t p b Bm L given k i vm M mi AG AT :=
  { h with bel := h.bel.trans (Joins.below_le hb h.bel.size), lives := h.lives.below hb, gm := h.gm.same (hb.block _ h.gm.lt), tm := h.tm.same (hb.block _ h.tm.lt), sc := h.sc.below hb, mine := h.mine.below hb, mz := Nat.le_trans h.mz hb.size }
theorem ON.next (h : ON w wr vl Ls g t p b Bm L given k i vm M mi AG AT) : ON w wr vl Ls g t p b Bm L given k (i + 1) vm M mi AG AT :=
  { h with gm := h.gm.mono (by omega), tm := h.tm.mono (by omega), giv := by have := h.giv; omega, told := fun n hn => by obtain ⟨h1, h2, h3⟩ := h.told n hn; exact ⟨h1, by omega, h3⟩, ml := by have := h.ml; omega }
/-- no block of a row is one of the object's, nor a map -/
theorem own_far' {T : TypeId} {v : Value} {l : List Int} {B : Nat} (hs : SC wr p b L given M) (h : inR.Own wr B T v l) (hT : T ≠ 62) {q : Nat} (hq : v.ownBlock = some q) : q ≠ p ∧ q ≠ b := by
  obtain ⟨cur, hc⟩ := row_type h hq
  obtain ⟨es, c, hb⟩ := hs.map.is_map
  exact ⟨apart_T hc hs.obj hT, apart_M hc hb⟩
theorem own_map {K : Type} {KK : MK K} {T : TypeId} {v : Value} {l : List Int} {B n : Nat} {A : List (Int × K)} (hm : MapI KK wr g n A) (h : inR.Own wr B T v l) {q : Nat} (hq : v.ownBlock = some q) : q ≠ g := by
  obtain ⟨cur, hc⟩ := row_type h hq
  obtain ⟨es, c, hb⟩ := hm.is_map
  exact apart_M hc hb
theorem sc_map {K : Type} {KK : MK K} {n : Nat} {A : List (Int × K)} (hs : SC wr p b L given M) (hm : MapI KK wr g n A) : g ≠ p ∧ ∀ m ∈ M, m.1 ≠ g := by
  obtain ⟨es, c, hb⟩ := hm.is_map
  exact ⟨(apart_M hs.obj hb).symm, fun m hm' => apart_M (hs.here m hm') hb⟩
/-- a number is new -/
theorem ON.fresh (h : ON w wr vl Ls g t p b Bm L given k i vm M mi AG AT) (hL : Ls[k]? = some L) (hnd : Ls.Nodup) (hg : given < 1048575) : ifind AG (L * 1048576 + given + 1) = none := by
  rw [ifind_none]
  intro x hx e
  rcases h.gk x hx with ⟨j, L', hj, hl, h1, h2⟩ | ⟨h1, h2⟩
  · have hne : L' ≠ L := fun e2 => by
      subst e2
      obtain ⟨hj1, hj2⟩ := List.getElem?_eq_some_iff.1 hl
      obtain ⟨hk1, hk2⟩ := List.getElem?_eq_some_iff.1 hL
      have := (List.getElem_inj hnd).1 (hj2.trans hk2.symm)
      omega
    have := h.sc.giv
    omega
  · omega
/-- one more was asked -/
theorem ON.asked {w1 w2 w3 : World} {q : Nat} {x : WT} {vm' : Value} (h : ON w wr vl Ls g t p b Bm L given k i vm M mi AG AT) (hx : x.req = L * 1048576 + given + 1) (hs : SC w1 p b L (given + 1) (M ++ [(q, x)])) (k1 : Kept wr w1 (fun n => n = p ∨ n = b))
    (hm : MapI intK w2 g (200 * k + i + 1) (iput AG x.req 1)) (k2 : w1.mapTurned w2 g) (ho : inR.Own w3 Bm 3 vm' (mi ++ [x.req])) (b3 : Below Bm w2 w3) (n3 : ∀ n, n < w2.heap.size → vm.ownBlock ≠ some n → w3.heap[n]? = w2.heap[n]?) (hq : wr.heap.size ≤ q)
    (hnew : ifind AG x.req = none) : ON w w3 vl Ls g t p b Bm L (given + 1) k (i + 1) vm' (M ++ [(q, x)]) (mi ++ [x.req]) (iput AG x.req 1) AT := by
  have K2 := turned_kept k2
  have hs1 := k1.size
  have hs2 := K2.size
  obtain ⟨gp, gM⟩ := sc_map h.sc h.gm
  obtain ⟨tp, tM⟩ := sc_map h.sc h.tm
  have keep : ∀ n, n < wr.heap.size → n ≠ p → n ≠ b → n ≠ g → vm.ownBlock ≠ some n → w3.heap[n]? = wr.heap[n]? := fun n hn a1 a2 a3 a4 =>
    (n3 n (by omega) a4).trans ((K2.block n (by omega) a3).trans (k1.block n hn (fun e => e.elim a1 a2)))
  have hvl : ∀ n, vl.ownBlock = some n → vm.ownBlock ≠ some n := fun n hn hm' => by
    have := h.lb n hn
    have := (h.mine.lt n hm').1
    omega
  have hnm : x.req ∉ mi := fun hc => by
    have := h.mik _ hc
    omega
  have hnp : ∀ {n : Nat}, n < wr.heap.size → n = p ∨ n = b ∨ (∃ m ∈ M, m.1 = n) → vm.ownBlock ≠ some n := fun {n} hn hc hm' => by
    obtain ⟨cur, hcc⟩ := row_type h.mine hm'
    rcases hc with rfl | rfl | ⟨m, hm2, rfl⟩
    · exact apart_T hcc h.sc.obj (by decide) rfl
    · obtain ⟨es, c, hb⟩ := h.sc.map.is_map
      exact apart_M hcc hb rfl
    · exact apart_T hcc (h.sc.here m hm2) (by decide) rfl
  have hmap : ∀ {n : Nat} {A : List (Int × Int)} {nn : Nat}, MapI intK wr n nn A → vm.ownBlock ≠ some n := fun {n A nn} hA hm' => own_map hA h.mine hm' rfl
  have hgi := h.giv
  have hml := h.ml
  refine ⟨?_, ?_, ?_, ?_, ?_, ho, h.lb, h.gB, h.pB, h.bB, h.tB, h.mB, h.gb, h.gt, h.tb, by omega, fun y hy => ?_, fun n hn => ?_, fun m hm' => ?_, fun y hy => ?_, fun n hn => ?_, by simp; omega, by have := h.mz; have := b3.size; omega⟩
  · exact ((below_kept (below_kept h.bel k1 (Nat.le_refl _) (fun n hn => by
      rcases hn with rfl | rfl
      · exact h.pB
      · exact h.bB)) K2 (Nat.le_refl _) (fun n hn => by rw [hn]; exact h.gB))).trans (Joins.below_le b3 h.mB)
  · refine row_same h.lives fun n hn => ?_
    obtain ⟨a1, a2⟩ := own_far' h.sc h.lives (by decide) hn
    exact keep n (h.lives.lt n hn).2 a1 a2 (own_map h.gm h.lives hn) (hvl n hn)
  · have := h.gm.lt
    exact hm.same (n3 g (by omega) (hmap h.gm))
  · refine (h.tm.mono (Nat.le_succ i)).same (keep t h.tm.lt tp h.tb (Ne.symm h.gt) (hmap h.tm))
  · have hlp := h.sc.ltp
    have hlb := h.sc.ltb
    have hgl := h.gm.lt
    have kk : ∀ n, n < w1.heap.size → n ≠ g → vm.ownBlock ≠ some n → w3.heap[n]? = w1.heap[n]? := fun n hn a1 a2 => (n3 n (by omega) a2).trans (K2.block n hn a1)
    refine hs.same (kk p hs.ltp (Ne.symm gp) (hnp hlp (.inl rfl))) (kk b hs.ltb (Ne.symm h.gb) (hnp hlb (.inr (.inl rfl)))) fun m hm' => kk m.1 (hs.ltm hm') ?_ ?_
    · rcases List.mem_append.1 hm' with hm' | hm'
      · exact gM m hm'
      · rw [List.mem_singleton.1 hm']
        show q ≠ g
        omega
    · rcases List.mem_append.1 hm' with hm' | hm'
      · exact hnp (h.sc.ltm hm') (.inr (.inr ⟨m, hm', rfl⟩))
      · rw [List.mem_singleton.1 hm']
        intro e
        have := (h.mine.lt _ e).2
        dsimp only at this
        omega
  · rcases mem_put hy with rfl | hy
    · exact .inr ⟨by rw [hx]; have := h.sc.giv; omega, by rw [hx]; omega⟩
    · rcases h.gk y hy with h1 | ⟨h1, h2⟩
      · exact .inl h1
      · exact .inr ⟨h1, by omega⟩
  · rcases List.mem_append.1 hn with hn | hn
    · have := h.mik n hn; omega
    · rw [List.mem_singleton.1 hn, hx]
      have := h.sc.giv
      omega
  · rcases List.mem_append.1 hm' with hm' | hm'
    · exact List.mem_append_left _ (h.mm m hm')
    · rw [List.mem_singleton.1 hm']; simp
  · exact List.mem_append_left _ (h.tk y hy)
  · rcases List.mem_append.1 hn with hn | hn
    · obtain ⟨h1, h2, h3⟩ := h.told n hn
      refine ⟨h1, by omega, h3.trans ⟨fun ⟨m, hm1, hm2⟩ => ⟨m, List.mem_append_left _ hm1, hm2⟩, fun ⟨m, hm1, hm2⟩ => ?_⟩⟩
      rcases List.mem_append.1 hm1 with hm1 | hm1
      · exact ⟨m, hm1, hm2⟩
      · rw [List.mem_singleton.1 hm1] at hm2
        exact absurd (hm2 ▸ hn) hnm
    · have hn' := List.mem_singleton.1 hn
      have hf : ifind AT n = none := ifind_none.2 fun y hy e => hnm (by rw [← hn', ← e]; exact h.tk y hy)
      rw [hf]
      exact ⟨by simp, by simp; omega, ⟨fun _ => ⟨(q, x), by simp, hn'.symm⟩, fun _ => rfl⟩⟩
/-- one was told, or not -/
theorem ON.tell {w1 w2 : World} {M' : List (Nat × WT)} {n : Int} (h : ON w wr vl Ls g t p b Bm L given k i vm M mi AG AT) (hn : n ∈ mi) (hs : SC w1 p b L given M') (k1 : Kept wr w1 (fun n => n = b)) (hM' : ∀ m, m ∈ M' ↔ m ∈ M ∧ m.2.req ≠ n)
    (hm : MapI intK w2 t (i + 1) (iput AT n ((ifind AT n).getD 0 + 1))) (k2 : w1.mapTurned w2 t) : ON w w2 vl Ls g t p b Bm L given k (i + 1) vm M' mi AG (iput AT n ((ifind AT n).getD 0 + 1)) := by
  have K2 := turned_kept k2
  have hs1 := k1.size
  have hs2 := K2.size
  obtain ⟨gp, gM⟩ := sc_map h.sc h.gm
  obtain ⟨tp, tM⟩ := sc_map h.sc h.tm
  have keep : ∀ n, n < wr.heap.size → n ≠ b → n ≠ t → w2.heap[n]? = wr.heap[n]? := fun n hn a1 a2 => (K2.block n (by omega) a2).trans (k1.block n hn a1)
  have hgi := h.giv
  have hml := h.ml
  refine ⟨?_, ?_, ?_, hm, ?_, ?_, h.lb, h.gB, h.pB, h.bB, h.tB, h.mB, h.gb, h.gt, h.tb, by omega, h.gk, h.mik, fun m hm' => h.mm m ((hM' m).1 hm').1, fun y hy => ?_, fun x hx => ?_, by omega, by have := h.mz; omega⟩
  · exact below_kept (below_kept h.bel k1 (Nat.le_refl _) (fun n hn => by rw [hn]; exact h.bB)) K2 (Nat.le_refl _) (fun n hn => by rw [hn]; exact h.tB)
  · exact row_same h.lives fun n hn => keep n (h.lives.lt n hn).2 (own_far' h.sc h.lives (by decide) hn).2 (own_map h.tm h.lives hn)
  · exact (h.gm.mono (Nat.le_succ _)).same (keep g h.gm.lt h.gb h.gt)
  · refine hs.same (K2.block p hs.ltp (Ne.symm tp)) (K2.block b hs.ltb (Ne.symm h.tb)) fun m hm' => K2.block m.1 (hs.ltm hm') (tM m ((hM' m).1 hm').1)
  · exact row_same h.mine fun n hn => keep n (h.mine.lt n hn).2 (own_far' h.sc h.mine (by decide) hn).2 (own_map h.tm h.mine hn)
  · rcases mem_put hy with rfl | hy
    · exact hn
    · exact h.tk y hy
  · obtain ⟨h1, h2, h3⟩ := h.told x hx
    rw [ifind_put]
    by_cases hnx : n = x
    · subst hnx
      rw [if_pos rfl]
      refine ⟨by simp; omega, by simp; omega, ⟨fun e => ?_, fun ⟨m, hm1, hm2⟩ => absurd hm2 ((hM' m).1 hm1).2⟩⟩
      simp at e
      omega
    · rw [if_neg hnx]
      refine ⟨h1, by omega, h3.trans ⟨fun ⟨m, hm1, hm2⟩ => ⟨m, (hM' m).2 ⟨hm1, fun e => hnx (e.symm.trans hm2)⟩, hm2⟩, fun ⟨m, hm1, hm2⟩ => ⟨m, ((hM' m).1 hm1).1, hm2⟩⟩⟩
end
/-- between lives -/
structure OO (w wr : World) (vl : Value) (Ls : List Int) (g k : Nat) (AG : List (Int × Int)) : Prop where
  bel : Below w.heap.size w wr
  lives : inR.Own wr w.heap.size 3 vl Ls
  gm : MapI intK wr g (200 * k) AG
  gB : w.heap.size ≤ g
  gk : ∀ x ∈ AG, ∃ j L', j < k ∧ Ls[j]? = some L' ∧ L' * 1048576 < x.1 ∧ x.1 ≤ L' * 1048576 + 1048575
theorem OO.life {w wr w1 : World} {vl : Value} {Ls : List Int} {g k p b : Nat} {AG : List (Int × Int)} {L : Int} (h : OO w wr vl Ls g k AG) (hp : wr.heap.size ≤ p) (hb : wr.heap.size ≤ b) (hs : SC w1 p b L 0 []) (k1 : Below wr.heap.size wr w1) :
    ON w (w1.alloc (.map #[] 0)) vl Ls g w1.heap.size p b (w1.heap.size + 1) L 0 k 0 (.slice none 0 0) [] [] AG [] := by
  have b2 : Below w1.heap.size w1 (w1.alloc (.map #[] 0)) := (Below.refl _ _).alloc (Nat.le_refl _) _
  have s1 := k1.size
  have s0 := h.bel.size
  have hgl := h.gm.lt
  have hlb := hs.ltb
  refine ⟨(h.bel.trans (Joins.below_le k1 s0)).trans (Joins.below_le b2 (by omega)), (h.lives.below k1).below b2, (h.gm.same (k1.block _ hgl)).same (b2.block _ (by omega)), MapI.made w1, hs.below b2, Rec.Own.none _ _ _ _, fun q hq => ?_, h.gB, by omega, by omega, by omega, by omega, by omega, by omega, by omega, by simp, fun x hx => .inl (h.gk x hx), (fun n hn => by cases hn), (fun m hm => by cases hm), (fun x hx => by cases hx), (fun n hn => by cases hn), by simp, by simp⟩
  have := (h.lives.lt q hq).2
  omega
theorem ON.over {w wr : World} {vl : Value} {Ls : List Int} {g t p b Bm : Nat} {L given : Int} {k i : Nat} {vm : Value} {M : List (Nat × WT)} {mi : List Int} {AG AT : List (Int × Int)} (h : ON w wr vl Ls g t p b Bm L given k i vm M mi AG AT) (hL : Ls[k]? = some L) (hi : i ≤ 150) : OO w wr vl Ls g (k + 1) AG :=
  ⟨h.bel, h.lives, h.gm.mono (by omega), h.gB, fun x hx => by
    rcases h.gk x hx with ⟨j, L', h1, h2, h3⟩ | ⟨h1, h2⟩
    · exact ⟨j, L', by omega, h2, h3⟩
    · exact ⟨k, L, by omega, hL, h1, by have := h.giv; have := h.sc.giv; omega⟩⟩
end Go.Proofs.Ytcagmjmnpdpgoaa
