/-
  What both Encodes answer, in one form. No statement is proved here. No condition.
-/
import Derived.Test.YtblbcoknefgcaaaMEncD
namespace Go.Proofs.Ytblbcoknefgcaaa
open Go.RowKit

theorem wputs_fit : ∀ (xs : List (List UInt8)) (l : List UInt8), l.length + xs.flatten.length ≤ 8192 → wputs (l, false) xs = (l ++ xs.flatten, false)
  | [], l, _ => by simp [wputs]
  | x :: xs, l, h => by
    rw [List.flatten_cons, List.length_append] at h
    rw [wputs_cons, show wput (l, false) x = (l ++ x, false) by unfold wput; rw [if_neg (by simp; omega)]]
    rw [wputs_fit xs (l ++ x) (by rw [List.length_append]; omega), List.flatten_cons, List.append_assoc]
theorem wputs_over : ∀ (xs : List (List UInt8)) (l : List UInt8), l.length ≤ 8192 → 8192 < l.length + xs.flatten.length → (wputs (l, false) xs).2 = true
  | [], l, h, h2 => by simp at h2; omega
  | x :: xs, l, h, h2 => by
    rw [List.flatten_cons, List.length_append] at h2
    rw [wputs_cons]
    by_cases hx : 8192 < l.length + x.length
    · rw [show wput (l, false) x = (l, true) by unfold wput; rw [if_pos (.inr hx)], wputs_full rfl]
    · rw [show wput (l, false) x = (l ++ x, false) by unfold wput; rw [if_neg (by simp; omega)]]
      exact wputs_over xs (l ++ x) (by rw [List.length_append]; omega) (by rw [List.length_append]; omega)
theorem flat_many {α : Type} {f : α → List (List UInt8)} {g : α → List UInt8} (h : ∀ x, (f x).flatten = g x) : ∀ l : List α, (l.flatMap f).flatten = manyB g l
  | [] => rfl
  | a :: l => by
    have := flat_many h l
    unfold manyB at *
    rw [List.flatMap_cons, List.flatten_append, h, this, List.flatMap_cons]
theorem flat_ns (l : List Int) : (l.map fun n => uv (zz n)).flatten = nsB l := by unfold nsB; rw [List.flatMap_def]
theorem flat_en (e : EN) : (EN.by e).flatten = entB e := by
  unfold EN.by entB
  simp only [List.flatten_append, List.flatten_cons, List.flatten_nil, flat_ns, List.append_nil, List.append_assoc]
theorem flat_pp (e : PP) : (PP.by e).flatten = prB e := by
  unfold PP.by prB
  simp only [List.flatten_cons, List.flatten_nil, List.append_nil]
theorem flat_pl (e : PL) : (PL.by e).flatten = lsB e := by
  unfold PL.by lsB PR.by
  simp only [List.flatten_append, List.flatten_cons, List.flatten_nil, List.append_nil, List.append_assoc]
def MG.chunks (m : MG) : List (List UInt8) :=
  [cv m.kind] ++ ([m.shard, m.epoch, m.owner, m.req, m.client, m.id].map fun n => uv (zz n)) ++ m.op.by ++ [uv (zz m.code)] ++ m.res.by
    ++ ([m.grant, m.term, m.index, m.prev, m.commit].map fun n => uv (zz n)) ++ [fv m.granted] ++ (cv m.entries.length :: m.entries.flatMap EN.by) ++ (cv m.list.length :: m.list.map fun n => uv (zz n))
    ++ [tv m.state.data.toList] ++ [uv (zz m.part)] ++ [fv m.last] ++ (cv m.pairs.length :: m.pairs.flatMap PP.by) ++ (cv m.lasts.length :: m.lasts.flatMap PL.by) ++ m.cmd.by
theorem wputs_one (s : WS) (x : List UInt8) : wputs s [x] = wput s x := rfl
set_option maxHeartbeats 1000000 in
theorem wr_chunks (m : MG) (s : WS) : m.wr s = wputs s m.chunks := by
  unfold MG.chunks
  simp only [wputs_app, wputs_one]
  unfold MG.wr
  with_reducible rfl
theorem flat_chunks (m : MG) : m.chunks.flatten = m.by := by
  unfold MG.chunks MG.by
  simp only [List.flatten_append, List.flatten_cons, List.flatten_nil, flat_ns, flat_many flat_en, flat_many flat_pp, flat_many flat_pl, List.map_cons, List.map_nil, PO.by, PR.by, CM.by, List.append_nil, List.append_assoc]
theorem wr_fit {m : MG} (h : m.by.length ≤ 8192) : m.wr ([], false) = (m.by, false) := by
  rw [wr_chunks, wputs_fit _ _ (by rw [flat_chunks]; simpa using h), flat_chunks, List.nil_append]
theorem wr_over {m : MG} (h : 8192 < m.by.length) : (m.wr ([], false)).2 = true := by
  rw [wr_chunks]
  exact wputs_over _ _ (by simp) (by rw [flat_chunks]; simpa using h)
/-- what a message is as bytes, and the error -/
def MG.out (m : MG) : List UInt8 × Int := if kindB m.kind = false then ([], 1) else if 8192 < m.by.length then ([], 40) else (m.by, 0)
theorem out_no {m : MG} (h : kindB m.kind = false) : m.out = ([], 1) := by unfold MG.out; rw [if_pos h]
theorem out_full {m : MG} (h : kindB m.kind = true) (h2 : 8192 < m.by.length) : m.out = ([], 40) := by unfold MG.out; rw [if_neg (by rw [h]; simp), if_pos h2]
theorem out_yes {m : MG} (h : kindB m.kind = true) (h2 : ¬ 8192 < m.by.length) : m.out = (m.by, 0) := by unfold MG.out; rw [if_neg (by rw [h]; simp), if_neg h2]
theorem out_len (m : MG) : m.out.1.length ≤ 8192 := by
  unfold MG.out
  split
  · simp
  · split
    · simp
    · dsimp only; omega
/-- the answer -/
structure EncA (w w' : World) (l : List UInt8) (k : Int) (e : Ending) : Prop where
  ex : ∃ A c, e = .returned (.tuple #[.slice A l.length c, .int .i64 k]) ∧ w'.ownsRow w.heap.size 5 1 (.slice A l.length c) l.length (BS l)
  bel : Below w.heap.size w w'
theorem encA_of {w w' : World} {m : MG} {e : Ending} (hb : Below w.heap.size w w') (no : kindB m.kind = false → e = .returned (.tuple #[.slice none 0 0, .int .i64 1]))
    (full : kindB m.kind = true → 8192 < m.by.length → e = .returned (.tuple #[.slice none 0 0, .int .i64 40]))
    (yes : kindB m.kind = true → ¬ 8192 < m.by.length → ∃ v, e = .returned (.tuple #[v, .int .i64 0]) ∧ w'.ownsRow w.heap.size 5 1 v m.by.length (BS m.by)) : EncA w w' m.out.1 m.out.2 e := by
  refine ⟨?_, hb⟩
  cases hk : kindB m.kind
  · rw [out_no hk]
    exact ⟨none, 0, no hk, World.ownsRow_nil w' _ _ _⟩
  · by_cases hl : 8192 < m.by.length
    · rw [out_full hk hl]
      exact ⟨none, 0, full hk hl, World.ownsRow_nil w' _ _ _⟩
    · rw [out_yes hk hl]
      obtain ⟨v, he, ho⟩ := yes hk hl
      obtain ⟨A, c, rfl⟩ := own_slice ho
      exact ⟨A, c, he, ho⟩
/-- the program's Encode -/
theorem enc_prog (m : MG) (vE vL vP vX : Value) (w : World) (h : MsgL w Any m vE vL vP vX) (hf : m.fit) :
    Calls Try.prog 15 #[.agg (m.cells vE vL vP vX)] w fun e w' => EncA w w' m.out.1 m.out.2 e := by
  refine (encode_any m vE vL vP vX w h hf).mono fun e w' hp => ?_
  refine encA_of hp.bel hp.no (fun h1 h2 => hp.full h1 (wr_over h2)) fun h1 h2 => ?_
  have e1 := wr_fit (m := m) (by omega)
  obtain ⟨v, he, ho, -⟩ := hp.yes h1 (by rw [e1])
  rw [e1] at ho
  exact ⟨v, he, ho⟩
/-- the document's -/
theorem enc_doc (m : MG) (vE vL vP vX : Value) (w : World) (h : MsgL w Any m vE vL vP vX) (hs : MsgS m) (ht : m.texts) (hf : m.fit) :
    Calls Try.prog 18 #[.agg (m.cells vE vL vP vX)] w fun e w' => EncA w w' m.out.1 m.out.2 e :=
  (encodeD_any m vE vL vP vX w h hs ht hf).mono fun e w' hp => encA_of hp.bel hp.no hp.full fun h1 h2 => hp.yes h1 (by omega)
end Go.Proofs.Ytblbcoknefgcaaa
