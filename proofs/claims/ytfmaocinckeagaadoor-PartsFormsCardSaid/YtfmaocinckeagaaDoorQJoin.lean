/-
  The program's joiner in memory, and drop. No statement is proved here. No condition.
-/
import Derived.Test.YtfmaocinckeagaaDoorQDel
import Derived.Test.YtfmaocinckeagaaDoorQRefCut
namespace Go.Proofs.YtfmaocinckeagaaDoor
open Go.RowKit

/-- a message that is kept, and where its object and its parts lie -/
structure KE where
  key : Key
  parts : List (List UInt8)
  left : Nat
  p : Nat
  s : Nat
/-- a message's object -/
structure MsgAt (w : World) (e : KE) : Prop where
  obj : w.heap[e.p]? = some (.cells #[.slice (some ⟨e.s, 0, none⟩) e.parts.length e.parts.length, .int .i64 (e.left : Int)] 73 (0, 0))
  row : w.heap[e.s]? = some (.cells (strR.row e.parts).toArray 9 (0, 0))
theorem MsgAt.same {w w' : World} {e : KE} (h : MsgAt w e) (h1 : w'.heap[e.p]? = w.heap[e.p]?) (h2 : w'.heap[e.s]? = w.heap[e.s]?) : MsgAt w' e := ⟨h1.trans h.obj, h2.trans h.row⟩
theorem MsgAt.ltp {w : World} {e : KE} (h : MsgAt w e) : e.p < w.heap.size := (Array.getElem?_eq_some_iff.1 h.obj).1
theorem MsgAt.lts {w : World} {e : KE} (h : MsgAt w e) : e.s < w.heap.size := (Array.getElem?_eq_some_iff.1 h.row).1
theorem MsgAt.grow {w w' : World} {e : KE} (h : MsgAt w e) (hb : Below w.heap.size w w') : MsgAt w' e := h.same (hb.block _ h.ltp) (hb.block _ h.lts)
def pairs (L : List KE) : List (Key × Nat) := L.map fun e => (e.key, e.p)
/-- the joiner at j -/
structure JAt (w : World) (G : Nat → Prop) (j mb : Nat) (rv : Value) (n : Nat) (L : List KE) : Prop where
  obj : w.heap[j]? = some (.cells #[.map (some mb), rv] 63 (0, 0))
  row : keyR.Own w 0 67 rv (L.map KE.key)
  map : MapJ w mb n (pairs L)
  msg : ∀ e ∈ L, MsgAt w e
  good : ∀ e ∈ L, e.key.good
  keys : (L.map KE.key).Nodup
  ps : (L.map KE.p).Nodup
  ss : (L.map KE.s).Nodup
  gj : G j
  gm : G mb
  gr : ∀ b, rv.ownBlock = some b → G b
  ge : ∀ e ∈ L, G e.p ∧ G e.s
theorem apart_T {w : World} {a b : Nat} {x y : Array Value} {T U : TypeId} {f g : Nat × Nat} (ha : w.heap[a]? = some (.cells x T f)) (hb : w.heap[b]? = some (.cells y U g)) (h : T ≠ U) : a ≠ b := fun e => by
  rw [e, hb] at ha
  injection ha with ha
  injection ha with _ h2 _
  exact h h2.symm
theorem apart_M {w : World} {a b : Nat} {x : Array Value} {T : TypeId} {f : Nat × Nat} {es : Array MapEntry} {c : Nat} (ha : w.heap[a]? = some (.cells x T f)) (hb : w.heap[b]? = some (.map es c)) : a ≠ b := fun e => by
  rw [e, hb] at ha
  injection ha with ha
  cases ha
theorem types_11 : (63 : TypeId) ≠ 67 ∧ (63 : TypeId) ≠ 73 ∧ (63 : TypeId) ≠ 9 ∧ (67 : TypeId) ≠ 73 ∧ (67 : TypeId) ≠ 9 ∧ (73 : TypeId) ≠ 9 := by decide
section
variable {w w' : World} {G G' : Nat → Prop} {j mb n : Nat} {rv : Value} {L : List KE}
theorem JAt.mono (h : JAt w G j mb rv n L) (hG : ∀ b, b < w.heap.size → G b → G' b) : JAt w G' j mb rv n L :=
  ⟨h.obj, h.row, h.map, h.msg, h.good, h.keys, h.ps, h.ss, hG _ (Array.getElem?_eq_some_iff.1 h.obj).1 h.gj, hG _ h.map.lt h.gm, fun b hb => hG _ (h.row.lt b hb).2 (h.gr b hb), fun e he => ⟨hG _ (h.msg e he).ltp (h.ge e he).1, hG _ (h.msg e he).lts (h.ge e he).2⟩⟩
theorem JAt.lt (h : JAt w G j mb rv n L) : j < w.heap.size := (Array.getElem?_eq_some_iff.1 h.obj).1
/-- what turns nothing of G keeps the joiner -/
theorem JAt.kept {F : Nat → Prop} (h : JAt w G j mb rv n L) (hk : Kept w w' F) (hF : ∀ b, G b → ¬ F b) : JAt w' G j mb rv n L := by
  have hs : ∀ b, b < w.heap.size → G b → w'.heap[b]? = w.heap[b]? := fun b hb hg => hk.block b hb (hF b hg)
  exact ⟨(hs _ h.lt h.gj).trans h.obj, row_same h.row fun p hp => hs p (h.row.lt p hp).2 (h.gr p hp), h.map.same (hs _ h.map.lt h.gm), fun e he => (h.msg e he).same (hs _ (h.msg e he).ltp (h.ge e he).1) (hs _ (h.msg e he).lts (h.ge e he).2), h.good, h.keys, h.ps, h.ss, h.gj, h.gm, h.gr, h.ge⟩
theorem JAt.grow (h : JAt w G j mb rv n L) (hb : Below w.heap.size w w') : JAt w' G j mb rv n L := by
  have hs : ∀ b, b < w.heap.size → w'.heap[b]? = w.heap[b]? := fun b hl => hb.block b hl
  exact ⟨(hs _ h.lt).trans h.obj, row_same h.row fun p hp => hs p (h.row.lt p hp).2, h.map.same (hs _ h.map.lt), fun e he => (h.msg e he).grow hb, h.good, h.keys, h.ps, h.ss, h.gj, h.gm, h.gr, h.ge⟩
theorem JAt.jm (h : JAt w G j mb rv n L) : j ≠ mb := by
  obtain ⟨es, c, hm⟩ := h.map.is_map
  exact apart_M h.obj hm
theorem JAt.jr (h : JAt w G j mb rv n L) : rv.ownBlock ≠ some j := fun e => by
  obtain ⟨cur, hc⟩ := row_type h.row e
  exact apart_T h.obj hc types_11.1 rfl
theorem JAt.mr (h : JAt w G j mb rv n L) : rv.ownBlock ≠ some mb := fun e => by
  obtain ⟨cur, hc⟩ := row_type h.row e
  obtain ⟨es, c, hm⟩ := h.map.is_map
  exact apart_M hc hm rfl
/-- a message's blocks are no other ones -/
theorem JAt.far (h : JAt w G j mb rv n L) {e : KE} (he : MsgAt w e) : e.p ≠ j ∧ e.p ≠ mb ∧ rv.ownBlock ≠ some e.p ∧ e.s ≠ j ∧ e.s ≠ mb ∧ rv.ownBlock ≠ some e.s := by
  obtain ⟨t1, t2, t3, t4, t5, t6⟩ := types_11
  obtain ⟨es, c, hm⟩ := h.map.is_map
  refine ⟨(apart_T h.obj he.obj t2).symm, apart_M he.obj hm, fun e1 => ?_, (apart_T h.obj he.row t3).symm, apart_M he.row hm, fun e1 => ?_⟩
  · obtain ⟨cur, hc⟩ := row_type h.row e1
    exact apart_T hc he.obj t4 rfl
  · obtain ⟨cur, hc⟩ := row_type h.row e1
    exact apart_T hc he.row t5 rfl
def dropL (L : List KE) (k : Key) : List KE := L.filter fun e => !decide (e.key = k)
theorem pairs_drop (L : List KE) (k : Key) : (pairs L).filter (fun x => !decide (x.1 = k)) = pairs (dropL L k) := by
  unfold pairs dropL
  rw [List.filter_map]
  rfl
theorem keys_drop (L : List KE) (k : Key) : delK (L.map KE.key) k = (dropL L k).map KE.key := by
  unfold delK dropL
  rw [List.filter_map]
  congr 1
  apply List.filter_congr
  intro e _
  simp
theorem dropL_sub (L : List KE) (k : Key) : (dropL L k).Sublist L := List.filter_sublist
/-- the joiner, a message less: the map, the row and the object turned -/
theorem JAt.dropped {rv' : Value} {k : Key} (h : JAt w G j mb rv n L) (hs : ∀ b, b < w.heap.size → b ≠ j → b ≠ mb → rv.ownBlock ≠ some b → w'.heap[b]? = w.heap[b]?) (ho : w'.heap[j]? = some (.cells #[.map (some mb), rv'] 63 (0, 0)))
    (hr : keyR.Own w' 0 67 rv' (delK (L.map KE.key) k)) (hm : MapJ w' mb n ((pairs L).filter fun x => !decide (x.1 = k))) (hrb : rv'.ownBlock = rv.ownBlock) : JAt w' G j mb rv' n (dropL L k) := by
  have hsub := dropL_sub L k
  refine ⟨ho, by rw [← keys_drop]; exact hr, by rw [← pairs_drop]; exact hm, fun e he => ?_, fun e he => h.good e (hsub.subset he), h.keys.sublist (hsub.map _), h.ps.sublist (hsub.map _), h.ss.sublist (hsub.map _), h.gj, h.gm, fun b hb => h.gr b (by rw [← hrb]; exact hb), fun e he => h.ge e (hsub.subset he)⟩
  have hme := h.msg e (hsub.subset he)
  obtain ⟨a1, a2, a3, a4, a5, a6⟩ := h.far hme
  exact hme.same (hs _ hme.ltp a1 a2 a3) (hs _ hme.lts a4 a5 a6)
end
end Go.Proofs.YtfmaocinckeagaaDoor
