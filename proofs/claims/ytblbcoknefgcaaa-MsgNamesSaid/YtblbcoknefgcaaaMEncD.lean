/-
  A message as bytes: the document's. No statement is proved here. No condition.
-/
import Derived.Test.YtblbcoknefgcaaaMSize
import Derived.Deep.RegionHeld3
namespace Go.Proofs.Ytblbcoknefgcaaa
open Go.RowKit

/-- bytes of one's own, and how many at most -/
structure OB (w0 : Nat) (x w : World) (v : Value) (l : List UInt8) (K : Nat) : Prop where
  own : w.ownsRow w0 5 1 v l.length (BS l)
  bel : Below x.heap.size x w
  len : l.length ≤ K
theorem OB.next {w0 K D : Nat} {x w w' : World} {v v' : Value} {l y : List UInt8} (h : OB w0 x w v l K) (hw : w0 ≤ x.heap.size) (ho : w'.ownsRow w.heap.size 5 1 v' (l ++ y).length (BS (l ++ y))) (hb : Below w.heap.size w w') (hy : y.length ≤ D) : OB w0 x w' v' (l ++ y) (K + D) :=
  ⟨own_base ho (Nat.le_trans hw h.bel.size), h.bel.trans (Joins.below_le hb h.bel.size), by rw [List.length_append]; have := h.len; omega⟩
theorem OB.drew {w0 K : Nat} {x w : World} {v : Value} {l : List UInt8} (h : OB w0 x w v l K) : OB w0 x w.drew v l K := ⟨row_same h.own fun _ _ => rfl, h.bel.drew, h.len⟩
theorem onum {w0 K : Nat} {x w : World} {v : Value} {l : List UInt8} (h : OB w0 x w v l K) (hw : w0 ≤ x.heap.size) (hK : K ≤ 10000000) (n : Int) (hn : I64 n) :
    Calls Try.prog 44 #[v, .int .i64 n] w fun e w' => ∃ v', e = .returned v' ∧ OB w0 x w' v' (l ++ uv (zz n)) (K + 10) := by
  refine (rnum_any l v n w (Rd.own h.own) hn (by have := h.len; omega)).mono ?_
  rintro e w' ⟨v', rfl, ho, hb⟩
  exact ⟨v', rfl, h.next hw ho hb (zz_short n hn)⟩
theorem okind {w0 K : Nat} {x w : World} {v : Value} {l : List UInt8} (h : OB w0 x w v l K) (hw : w0 ≤ x.heap.size) (hK : K ≤ 10000000) (n : Int) (hn : 0 ≤ n ∧ n ≤ 255) :
    Calls Try.prog 43 #[v, .int .u8 n] w fun e w' => ∃ v', e = .returned v' ∧ OB w0 x w' v' (l ++ cv n) (K + 10) := by
  refine (rkind_any l v n w (Rd.own h.own) hn (by have := h.len; omega)).mono ?_
  rintro e w' ⟨v', rfl, ho, hb⟩
  exact ⟨v', rfl, h.next hw ho hb (cv_short n)⟩
theorem ocount {w0 K : Nat} {x w : World} {v : Value} {l : List UInt8} (h : OB w0 x w v l K) (hw : w0 ≤ x.heap.size) (hK : K ≤ 10000000) (n : Int)  :
    Calls Try.prog 48 #[v, .int .i64 n] w fun e w' => ∃ v', e = .returned v' ∧ OB w0 x w' v' (l ++ cv n) (K + 10) := by
  refine (rcount_any l v n w (Rd.own h.own) (by have := h.len; omega)).mono ?_
  rintro e w' ⟨v', rfl, ho, hb⟩
  exact ⟨v', rfl, h.next hw ho hb (cv_short n)⟩
theorem tv_len {s : ByteArray} (h : s.size ≤ 8192) : (tv s.data.toList).length ≤ 8202 := by
  unfold tv
  have e : s.data.toList.length = s.size := by rw [Array.length_toList]; rfl
  rw [List.length_append]
  have := uv_length64 s.data.toList.length (by unfold U64; omega)
  omega
theorem ostr {w0 K : Nat} {x w : World} {v : Value} {l : List UInt8} (h : OB w0 x w v l K) (hw : w0 ≤ x.heap.size) (hK : K ≤ 10000000) (s : ByteArray) (hs : s.size ≤ 8192) :
    Calls Try.prog 45 #[v, .string s] w fun e w' => ∃ v', e = .returned v' ∧ OB w0 x w' v' (l ++ tv s.data.toList) (K + 8202) := by
  refine (xstr_any l v s w (Rd.own h.own) (by omega) (by have := h.len; omega)).mono ?_
  rintro e w' ⟨v', rfl, ho, hb⟩
  exact ⟨v', rfl, h.next hw ho hb (tv_len hs)⟩
theorem oflag {w0 K : Nat} {x w : World} {v : Value} {l : List UInt8} (h : OB w0 x w v l K) (hw : w0 ≤ x.heap.size) (hK : K ≤ 10000000) (t : Bool)  :
    Calls Try.prog 46 #[v, .bool t] w fun e w' => ∃ v', e = .returned v' ∧ OB w0 x w' v' (l ++ fv t) (K + 1) := by
  refine (xflag_any l v t w (Rd.own h.own) (by have := h.len; omega)).mono ?_
  rintro e w' ⟨v', rfl, ho, hb⟩
  exact ⟨v', rfl, h.next hw ho hb (Nat.le_refl 1)⟩
theorem oresult {w0 K : Nat} {x w : World} {v : Value} {l : List UInt8} (h : OB w0 x w v l K) (hw : w0 ≤ x.heap.size) (hK : K ≤ 10000000) (c : PR) (hn : c.ok) (hs : c.val.size ≤ 8192) :
    Calls Try.prog 47 #[v, .agg #[.int .u8 c.kind, .bool c.found, .string c.val]] w fun e w' => ∃ v', e = .returned v' ∧ OB w0 x w' v' (l ++ (cv c.kind ++ fv c.found ++ tv c.val.data.toList)) (K + 8213) := by
  refine (rresult_any l v c w (Rd.own h.own) hn (by have := h.len; omega) (by omega)).mono ?_
  rintro e w' ⟨v', rfl, ho, hb⟩
  exact ⟨v', rfl, h.next hw ho hb (by have h1 := cv_short c.kind; have h2 := tv_len hs; rw [List.length_append, List.length_append, show (fv c.found).length = 1 from rfl]; omega)⟩
theorem onumbers {w0 K : Nat} {x w : World} {v : Value} {l : List UInt8} (h : OB w0 x w v l K) (hw : w0 ≤ x.heap.size) (hK : K ≤ 10000000) (ns : List Int) {va : Value} (ha : inR.N w Any va ns) (hn : ∀ n ∈ ns, I64 n) (hs : ns.length ≤ 8192) :
    Calls Try.prog 49 #[v, va] w fun e w' => ∃ v', e = .returned v' ∧ OB w0 x w' v' (l ++ (cv ns.length ++ nsB ns)) (K + 81930) := by
  refine (rnumbers_any l v va ns w (Rd.own h.own) ha hn (by have := h.len; omega) (by omega)).mono ?_
  rintro e w' ⟨v', rfl, ho, hb⟩
  exact ⟨v', rfl, h.next hw ho hb (by have h1 := cv_short ns.length; have h2 := nsB_len hn; rw [List.length_append]; omega)⟩
theorem tvl (s : ByteArray) (h : s.size ≤ 2 ^ 50) : s.size + 1 ≤ (tv s.data.toList).length ∧ (tv s.data.toList).length ≤ s.size + 10 := by
  have e1 : s.data.toList.length = s.size := by rw [Array.length_toList]; rfl
  have h6 := uv_length64 s.data.toList.length (by unfold U64; omega)
  have h7 := uv_pos s.data.toList.length
  unfold tv
  rw [List.length_append]
  omega
/-- an entry, written -/
def entB (e : EN) : List UInt8 := uv (zz e.term) ++ cv e.kind ++ tv e.data.data.toList ++ (cv e.list.length ++ nsB e.list)
/-- a pair, written -/
def prB (c : PP) : List UInt8 := tv c.key.data.toList ++ tv c.val.data.toList
/-- a last write, written -/
def lsB (c : PL) : List UInt8 := uv (zz c.client) ++ uv (zz c.id) ++ (cv c.res.kind ++ fv c.res.found ++ tv c.res.val.data.toList)
def manyB {α : Type} (f : α → List UInt8) (l : List α) : List UInt8 := l.flatMap f
theorem manyB_take {α : Type} (f : α → List UInt8) {l : List α} {i : Nat} {x : α} (h : l[i]? = some x) : manyB f (l.take (i + 1)) = manyB f (l.take i) ++ f x := by
  unfold manyB
  have : l.take (i + 1) = l.take i ++ [x] := by rw [List.take_add_one, h]; rfl
  rw [this, List.flatMap_append]
  simp
theorem nsB_pos (l : List Int) : l.length ≤ (nsB l).length := by
  induction l with
  | nil => simp
  | cons a l ih =>
    have := uv_pos (zz a)
    unfold nsB at *
    simp only [List.flatMap_cons, List.length_append, List.length_cons]
    omega
theorem entB_len {e : EN} (h : e.ok) (hd : e.data.size ≤ 2 ^ 50) : (entB e).length ≤ 40 + e.data.size + 10 * e.list.length + 10 ∧ 1 + (e.data.size + e.list.length) ≤ (entB e).length := by
  have h1 := zz_short e.term h.1
  have h2 := cv_short e.kind
  have h3 := cv_short e.list.length
  have h4 := nsB_len h.2.2
  have h5 := tvl e.data hd
  have h6 := nsB_pos e.list
  unfold entB
  simp only [List.length_append]
  omega
theorem prB_len {c : PP} (h1 : c.key.size ≤ 2 ^ 50) (h2 : c.val.size ≤ 2 ^ 50) : (prB c).length ≤ 20 + (c.key.size + c.val.size) ∧ 1 + (c.key.size + c.val.size) ≤ (prB c).length := by
  have h3 := tvl c.key h1
  have h4 := tvl c.val h2
  unfold prB
  simp only [List.length_append]
  omega
theorem lsB_len {c : PL} (h : c.ok) (h1 : c.res.val.size ≤ 2 ^ 50) : (lsB c).length ≤ 41 + c.res.val.size ∧ 1 + c.res.val.size ≤ (lsB c).length := by
  have h2 := zz_short c.client h.1
  have h3 := zz_short c.id h.2.1
  have h4 := cv_short c.res.kind
  have h5 := tvl c.res.val h1
  unfold lsB
  simp only [List.length_append, show (fv c.res.found).length = 1 from rfl]
  omega
theorem in_sum {α : Type} (f : α → Nat) {l : List α} {i : Nat} {x : α} (h : l[i]? = some x) : f x ≤ (l.map f).sum := by
  have h1 := sum_take f h
  have h2 := sum_take_le f l (i + 1)
  omega
theorem manyB_sum {α : Type} (f : α → List UInt8) (g : α → Nat) (l : List α) (h : ∀ x ∈ l, 1 + g x ≤ (f x).length) : l.length + (l.map g).sum ≤ (manyB f l).length := by
  induction l with
  | nil => simp [manyB]
  | cons a l ih =>
    have h1 := h a (by simp)
    have h2 := ih fun x hx => h x (by simp [hx])
    unfold manyB at *
    simp only [List.flatMap_cons, List.length_append, List.length_cons, List.map_cons, List.sum_cons]
    omega
/-- a message, written whole -/
def MG.by (m : MG) : List UInt8 :=
  cv m.kind ++ uv (zz m.shard) ++ uv (zz m.epoch) ++ uv (zz m.owner) ++ uv (zz m.req) ++ uv (zz m.client) ++ uv (zz m.id) ++ cv m.op.kind ++ tv m.op.key.data.toList ++ tv m.op.val.data.toList ++ tv m.op.old.data.toList ++ fv m.op.had
    ++ uv (zz m.code) ++ (cv m.res.kind ++ fv m.res.found ++ tv m.res.val.data.toList) ++ uv (zz m.grant) ++ uv (zz m.term) ++ uv (zz m.index) ++ uv (zz m.prev) ++ uv (zz m.commit) ++ fv m.granted
    ++ cv m.entries.length ++ manyB entB m.entries ++ (cv m.list.length ++ nsB m.list) ++ tv m.state.data.toList ++ uv (zz m.part) ++ fv m.last ++ cv m.pairs.length ++ manyB prB m.pairs ++ cv m.lasts.length ++ manyB lsB m.lasts
    ++ cv m.cmd.kind ++ uv (zz m.cmd.shard) ++ uv (zz m.cmd.store) ++ uv (zz m.cmd.epoch)
theorem sz_by {m : MG} (ht : m.texts) (hf : m.fit) : m.sz ≤ m.by.length := by
  obtain ⟨t1, t2, t3, t4, t5⟩ := ht.own
  have a1 := (tvl _ t1).1
  have a2 := (tvl _ t2).1
  have a3 := (tvl _ t3).1
  have a4 := (tvl _ t4).1
  have a5 := (tvl _ t5).1
  have b1 := manyB_sum entB (fun e : EN => e.data.size + e.list.length) m.entries fun e he => (entB_len (hf.ents e he).1 (ht.e e he)).2
  have b2 := manyB_sum prB (fun c : PP => c.key.size + c.val.size) m.pairs fun c hc => (prB_len (ht.p c hc).1 (ht.p c hc).2).2
  have b3 := manyB_sum lsB (fun c : PL => c.res.val.size) m.lasts fun c hc => (lsB_len (hf.lsts c hc) (ht.x c hc)).2
  have b4 := nsB_pos m.list
  unfold MG.sz MG.sz0 MG.by szP szX szE
  simp only [List.length_append]
  omega
/-- what the document's Encode answers -/
structure EncD (w w' : World) (m : MG) (e : Ending) : Prop where
  bel : Below w.heap.size w w'
  no : kindB m.kind = false → e = .returned (.tuple #[.slice none 0 0, .int .i64 1])
  full : kindB m.kind = true → 8192 < m.by.length → e = .returned (.tuple #[.slice none 0 0, .int .i64 40])
  yes : kindB m.kind = true → m.by.length ≤ 8192 → ∃ v, e = .returned (.tuple #[v, .int .i64 0]) ∧ w'.ownsRow w.heap.size 5 1 v m.by.length (BS m.by)
theorem OB.fit {w0 K K' : Nat} {x w : World} {v : Value} {l : List UInt8} (h : OB w0 x w v l K) (hl : l.length ≤ K') : OB w0 x w v l K' := ⟨h.own, h.bel, hl⟩
/-- what a way shows, by the name of its proof: 'inferInstanceAs' lays such a proof in a theorem of its own -/
def WayTo {G : Prop} (_ : G) : Type := PLift G
instance wayTo {G : Prop} (h : G) : Nonempty (WayTo h) := ⟨PLift.up h⟩
theorem way_out {G : Prop} (h : Nonempty (PLift G)) : G := h.elim fun x => x.down

set_option maxHeartbeats 8000000 in
set_option maxRecDepth 100000 in
theorem encodeD_any (m : MG) (vE vL vP vX : Value) (w : World) (h : MsgL w Any m vE vL vP vX) (hs : MsgS m) (ht : m.texts) (hf : m.fit) :
    Calls Try.prog 18 #[.agg (m.cells vE vL vP vX)] w fun e w' => EncD w w' m e := by
  obtain ⟨AE, cE, rfl, -, -⟩ := h.e.slice
  obtain ⟨AL, cL, rfl, -, -⟩ := h.l.slice
  obtain ⟨AP, cP, rfl, -, -⟩ := h.p.slice
  obtain ⟨AX, cX, rfl, -, -⟩ := h.x.slice
  have cS := fun W (hb : Below w.heap.size w W) => size_any m _ _ _ _ W (h.grow hb) hs ht
  obtain ⟨cs, hcs⟩ : ∃ cs, cs = m.cells (.slice AE m.entries.length cE) (.slice AL m.list.length cL) (.slice AP m.pairs.length cP) (.slice AX m.lasts.length cX) := ⟨_, rfl⟩
  obtain ⟨x, hx⟩ : ∃ x, x = w.alloc (.cells cs 38) := ⟨_, rfl⟩
  have hbx : Below w.heap.size w x := by rw [hx]; exact (Below.refl _ _).alloc (Nat.le_refl _) _
  obtain ⟨b, hb⟩ : ∃ b, b = w.heap.size := ⟨_, rfl⟩
  have hbk : x.heap[b]? = some (.cells cs 38 (0, 0)) := by rw [hx, hb]; exact heap_alloc_new w _
  have HC : Hid (∀ W, Below x.heap.size x W → (∀ (j : Nat) (v : Value), cs[j]? = some v → W.cell? ⟨b, j, none⟩ = some v) ∧ MsgL W Any m (.slice AE m.entries.length cE) (.slice AL m.list.length cL) (.slice AP m.pairs.length cP) (.slice AX m.lasts.length cX) ∧ Below w.heap.size w W) := Lib.hid fun W hW =>
    ⟨fun j v hj => by rw [(blk_cells ((hW.block b (lt_of_heap hbk)).trans hbk)).1 j]; exact hj, (h.grow hbx).grow hW, hbx.trans (Joins.below_le hW hbx.size)⟩
  have HI : Hid (∀ n ∈ [m.shard, m.epoch, m.owner, m.req, m.client, m.id, m.grant, m.term, m.index, m.prev, m.commit, m.code, m.part], I64 n) := Lib.hid fun n hn => by
    obtain ⟨n1, n2, n3, n4, n5, n6⟩ := hf.ok.nums
    obtain ⟨m1, m2, m3, m4, m5⟩ := hf.ok.more
    simp only [List.mem_cons, List.not_mem_nil, or_false] at hn
    rcases hn with rfl | rfl | rfl | rfl | rfl | rfl | rfl | rfl | rfl | rfl | rfl | rfl | rfl <;> first | assumption | exact hf.ok.code | exact hf.ok.part
  have y0 : x.cell? ⟨b, 0, none⟩ = some (.int .u8 m.kind) := (HC.out x (Below.refl _ _)).1 0 _ (by rw [hcs]; rfl)
  have hW0 : w.heap.size ≤ x.heap.size := hbx.size
  have cS0 := cS x hbx
  have HCS := Lib.hid hcs
  have HV := Lib.hid (And.intro hx hb)
  have hk := hf.ok.kind
  rw [← hcs] at cS0 ⊢
  have hsz : (Try.prog.info? 38).map (·.size) = some cs.size := by rw [HCS.out]; exact msg_sized _ _ _ _ _
  clear cS h hx hb hbx hcs
  have HSZ := Lib.hid (sz_by ht hf)
  have HB0 := Lib.hid (HC.out x (Below.refl _ _)).2.2
  by_cases hk1 : m.kind < 1
  · have HE : Hid (EncD w x m (.returned (.tuple #[.slice none 0 0, .int .i64 1]))) := Lib.hid ⟨HB0.out, fun _ => rfl, (fun h => by simp [kindB] at h; omega), fun h => by simp [kindB] at h; omega⟩
    clear cS0 hk
    go_enter Try.func18, Try.ntmps18
    go_upto_region 1 with fail
    rw [← HV.out.1, ← HV.out.2]
    go_wp2_with fail
    go_ret2
    exact HE.out
  by_cases hk2 : m.kind > 19
  · have HE : Hid (EncD w x m (.returned (.tuple #[.slice none 0 0, .int .i64 1]))) := Lib.hid ⟨HB0.out, fun _ => rfl, (fun h => by simp [kindB] at h; omega), fun h => by simp [kindB] at h; omega⟩
    clear cS0 hk
    go_enter Try.func18, Try.ntmps18
    go_upto_region 1 with fail
    rw [← HV.out.1, ← HV.out.2]
    go_wp2_with fail
    go_ret2
    exact HE.out
  have HKB : Hid (kindB m.kind = true) := Lib.hid (by simp [kindB]; omega)
  have hkb : 1 ≤ m.kind ∧ m.kind ≤ 19 := by omega
  clear hk1 hk2
  · obtain ⟨k1, k2⟩ := hkb
    have k3 : ¬ m.kind < 1 := by omega
    have k4 : ¬ m.kind > 19 := by omega
    go_enter Try.func18, Try.ntmps18
    go_upto_region 1 with fail
    rw [← HV.out.1, ← HV.out.2]
    go_upto_region 3 with fail
    go_wp2_with (refine wpList_load_row rfl 38 (.tmp 1) rfl b rfl 38 cs (0, 0) _ hbk Try.underlying38 rfl hsz ?_)
    refine cS0.mono ?_
    rintro e w2 ⟨n, rfl, hR, hb2⟩
    clear cS0 y0 hbk hsz
    have HR := Lib.hid hR
    have HB2 := Lib.hid hb2
    clear hR hb2
    by_cases hn : n > 8192
    · have a1 : (n : Int) > 8192 := by omega
      have HE : Hid (EncD w w2 m (.returned (.tuple #[.slice none 0 0, .int .i64 40]))) := Lib.hid ⟨(HC.out w2 HB2.out).2.2, (fun h => by rw [HKB.out] at h; cases h), fun _ _ => rfl, fun _ h => by
        have h1 := HSZ.out
        rcases HR.out with h2 | h2 <;> omega⟩
      go_wp2_with fail
      go_ret2
      exact HE.out
    have a1 : ¬ (n : Int) > 8192 := by omega
    have hz : m.sz ≤ 8192 := by rcases HR.out with h | h <;> omega
    have HT8 : Hid (m.op.key.size ≤ 8192 ∧ m.op.val.size ≤ 8192 ∧ m.op.old.size ≤ 8192 ∧ m.res.val.size ≤ 8192 ∧ m.state.size ≤ 8192 ∧ m.list.length ≤ 8192) := Lib.hid (by unfold MG.sz MG.sz0 at hz; omega)
    have HOP := Lib.hid hf.ok.op
    have HRS := Lib.hid hf.ok.res
    have HCM := Lib.hid hf.ok.cmd
    have HN8 := Lib.hid hz
    clear hz HSZ HB0
    clear hn
    have y0 := (HC.out w2 HB2.out).1 0 (.int .u8 m.kind) (by rw [HCS.out]; rfl)
    have c1 := rkind_any [] (.slice none 0 0) m.kind w2 (Rd.nil _ _) hk (by simp)
    go_wp2_with fail
    refine c1.mono ?_
    rintro e w3 ⟨v, rfl, ho, hb⟩
    clear c1 y0
    have hO : OB w.heap.size x w3 v ([] ++ cv m.kind) 10 := ⟨own_base ho (Nat.le_trans hW0 HB2.out.size), HB2.out.trans (Joins.below_le hb HB2.out.size), by have := cv_short m.kind; simpa using this⟩
    clear ho hb
    have HS : Hid (∀ W, Below x.heap.size x W → W.cell? ⟨b, 1, none⟩ = some (.int .i64 m.shard) ∧ W.cell? ⟨b, 2, none⟩ = some (.int .i64 m.epoch) ∧ W.cell? ⟨b, 3, none⟩ = some (.int .i64 m.owner) ∧ W.cell? ⟨b, 4, none⟩ = some (.int .i64 m.req) ∧ W.cell? ⟨b, 5, none⟩ = some (.int .i64 m.client) ∧ W.cell? ⟨b, 6, none⟩ = some (.int .i64 m.id)) := Lib.hid fun W hW => by
      have hc := (HC.out W hW).1
      rw [HCS.out] at hc
      exact ⟨hc 1 _ rfl, hc 2 _ rfl, hc 3 _ rfl, hc 4 _ rfl, hc 5 _ rfl, hc 6 _ rfl⟩
    have hst := HS.out w3 hO.bel
    go_upto_region 6 with fail
    go_region_held3 (fun W => W.cell? ⟨b, 1, none⟩ = some (.int .i64 m.shard) ∧ W.cell? ⟨b, 2, none⟩ = some (.int .i64 m.epoch) ∧ W.cell? ⟨b, 3, none⟩ = some (.int .i64 m.owner) ∧ W.cell? ⟨b, 4, none⟩ = some (.int .i64 m.req) ∧ W.cell? ⟨b, 5, none⟩ = some (.int .i64 m.client) ∧ W.cell? ⟨b, 6, none⟩ = some (.int .i64 m.id)) (first | with_reducible exact hst | exact HS.out _ hO.bel | exact HS.out _ (hO.bel.drew))
      (first
        | (go_at_call 44; refine (onum (w0 := w.heap.size) (x := x) (by first | exact hO | exact hO.drew) hW0 (by omega) _ (HI.out _ (by simp))).mono ?_; rintro e wy ⟨v', rfl, hO2⟩; have hO := hO2; clear hO2))
    obtain ⟨l1, hl1⟩ : ∃ l, l = ([] ++ cv m.kind ++ uv (zz m.shard) ++ uv (zz m.epoch) ++ uv (zz m.owner) ++ uv (zz m.req) ++ uv (zz m.client) ++ uv (zz m.id)) := ⟨_, rfl⟩
    have hP : OB w.heap.size x wy v' l1 70 := by rw [hl1]; exact hO
    have HL1 := Lib.hid hl1
    clear hO hl1
    have hO := hP
    clear hP
    obtain ⟨e1, e2, e3, e4, e5, e6⟩ := HT8.out
    have z0 := (HC.out wy hO.bel).1 7 (.int .u8 m.op.kind) (by rw [HCS.out]; rfl)
    have c1 := okind hO hW0 (by omega) m.op.kind HOP.out
    go_wp2_with fail
    refine c1.mono ?_
    clear c1 hO z0
    rintro e wy ⟨v', rfl, hO⟩
    obtain ⟨l2, hl2⟩ : ∃ l, l = (l1 ++ cv m.op.kind) := ⟨_, rfl⟩
    have hP : OB w.heap.size x wy v' l2 80 := by rw [hl2]; exact hO
    have HL2 := Lib.hid hl2
    clear hO hl2
    have hO := hP
    clear hP
    have HS : Hid (∀ W, Below x.heap.size x W → W.cell? ⟨b, 8, none⟩ = some (.string m.op.key) ∧ W.cell? ⟨b, 9, none⟩ = some (.string m.op.val) ∧ W.cell? ⟨b, 10, none⟩ = some (.string m.op.old)) := Lib.hid fun W hW => by
      have hc := (HC.out W hW).1
      rw [HCS.out] at hc
      exact ⟨hc 8 _ rfl, hc 9 _ rfl, hc 10 _ rfl⟩
    have hst := HS.out wy hO.bel
    go_upto_region 8 with fail
    go_region_held3 (fun W => W.cell? ⟨b, 8, none⟩ = some (.string m.op.key) ∧ W.cell? ⟨b, 9, none⟩ = some (.string m.op.val) ∧ W.cell? ⟨b, 10, none⟩ = some (.string m.op.old)) (first | with_reducible exact hst | exact HS.out _ hO.bel | exact HS.out _ (hO.bel.drew))
      (first
        | (go_at_call 45; refine (ostr (w0 := w.heap.size) (x := x) (by first | exact hO | exact hO.drew) hW0 (by omega) _ (by first | exact e1 | exact e2 | exact e3)).mono ?_; rintro e wy ⟨v', rfl, hO2⟩; clear hO; have hO := hO2; clear hO2))
    clear hst HS
    obtain ⟨l3, hl3⟩ : ∃ l, l = (((l2 ++ tv m.op.key.data.toList) ++ tv m.op.val.data.toList) ++ tv m.op.old.data.toList) := ⟨_, rfl⟩
    have hP : OB w.heap.size x wy v' l3 24686 := by rw [hl3]; exact hO
    have HL3 := Lib.hid hl3
    clear hO hl3
    have hO := hP
    clear hP
    have z0 := (HC.out wy hO.bel).1 11 (.bool m.op.had) (by rw [HCS.out]; rfl)
    have c1 := oflag hO hW0 (by omega) m.op.had
    go_wp2_with fail
    refine c1.mono ?_
    clear c1 hO z0
    rintro e wy ⟨v', rfl, hO⟩
    obtain ⟨l4, hl4⟩ : ∃ l, l = (l3 ++ fv m.op.had) := ⟨_, rfl⟩
    have hP : OB w.heap.size x wy v' l4 24687 := by rw [hl4]; exact hO
    have HL4 := Lib.hid hl4
    clear hO hl4
    have hO := hP
    clear hP
    have HS : Hid (∀ W, Below x.heap.size x W → W.cell? ⟨b, 12, none⟩ = some (.int .i64 m.code) ∧ W.cell? ⟨b, 13, none⟩ = some (.int .u8 m.res.kind) ∧ W.cell? ⟨b, 14, none⟩ = some (.bool m.res.found) ∧ W.cell? ⟨b, 15, none⟩ = some (.string m.res.val)) := Lib.hid fun W hW => by
      have hc := (HC.out W hW).1
      rw [HCS.out] at hc
      exact ⟨hc 12 _ rfl, hc 13 _ rfl, hc 14 _ rfl, hc 15 _ rfl⟩
    have hst := HS.out wy hO.bel
    go_upto_region 10 with fail
    go_region_held3 (fun W => W.cell? ⟨b, 12, none⟩ = some (.int .i64 m.code) ∧ W.cell? ⟨b, 13, none⟩ = some (.int .u8 m.res.kind) ∧ W.cell? ⟨b, 14, none⟩ = some (.bool m.res.found) ∧ W.cell? ⟨b, 15, none⟩ = some (.string m.res.val)) (first | with_reducible exact hst | exact HS.out _ hO.bel | exact HS.out _ (hO.bel.drew))
      (first
        | (go_at_call 44; refine (onum (w0 := w.heap.size) (x := x) (by first | exact hO | exact hO.drew) hW0 (by omega) _ (HI.out _ (by simp))).mono ?_; rintro e wy ⟨v', rfl, hO2⟩; clear hO; have hO := hO2; clear hO2)
        | (go_at_call 47; refine (oresult (w0 := w.heap.size) (x := x) (by first | exact hO | exact hO.drew) hW0 (by omega) m.res HRS.out e4).mono ?_; rintro e wy ⟨v', rfl, hO2⟩; clear hO; have hO := hO2; clear hO2))
    clear hst HS
    obtain ⟨l5, hl5⟩ : ∃ l, l = ((l4 ++ uv (zz m.code)) ++ (cv m.res.kind ++ fv m.res.found ++ tv m.res.val.data.toList)) := ⟨_, rfl⟩
    have hP : OB w.heap.size x wy v' l5 32910 := by rw [hl5]; exact hO
    have HL5 := Lib.hid hl5
    clear hO hl5
    have hO := hP
    clear hP
    have HS : Hid (∀ W, Below x.heap.size x W → W.cell? ⟨b, 16, none⟩ = some (.int .i64 m.grant) ∧ W.cell? ⟨b, 17, none⟩ = some (.int .i64 m.term) ∧ W.cell? ⟨b, 18, none⟩ = some (.int .i64 m.index) ∧ W.cell? ⟨b, 19, none⟩ = some (.int .i64 m.prev) ∧ W.cell? ⟨b, 20, none⟩ = some (.int .i64 m.commit)) := Lib.hid fun W hW => by
      have hc := (HC.out W hW).1
      rw [HCS.out] at hc
      exact ⟨hc 16 _ rfl, hc 17 _ rfl, hc 18 _ rfl, hc 19 _ rfl, hc 20 _ rfl⟩
    have hst := HS.out wy hO.bel
    go_upto_region 11 with fail
    go_region_held3 (fun W => W.cell? ⟨b, 16, none⟩ = some (.int .i64 m.grant) ∧ W.cell? ⟨b, 17, none⟩ = some (.int .i64 m.term) ∧ W.cell? ⟨b, 18, none⟩ = some (.int .i64 m.index) ∧ W.cell? ⟨b, 19, none⟩ = some (.int .i64 m.prev) ∧ W.cell? ⟨b, 20, none⟩ = some (.int .i64 m.commit)) (first | with_reducible exact hst | exact HS.out _ hO.bel | exact HS.out _ (hO.bel.drew))
      (first
        | (go_at_call 44; refine (onum (w0 := w.heap.size) (x := x) (by first | exact hO | exact hO.drew) hW0 (by omega) _ (HI.out _ (by simp))).mono ?_; rintro e wy ⟨v', rfl, hO2⟩; clear hO; have hO := hO2; clear hO2))
    clear hst HS
    obtain ⟨l6, hl6⟩ : ∃ l, l = (((((l5 ++ uv (zz m.grant)) ++ uv (zz m.term)) ++ uv (zz m.index)) ++ uv (zz m.prev)) ++ uv (zz m.commit)) := ⟨_, rfl⟩
    have hP : OB w.heap.size x wy v' l6 32960 := by rw [hl6]; exact hO
    have HL6 := Lib.hid hl6
    clear hO hl6
    have hO := hP
    clear hP
    have z0 := (HC.out wy hO.bel).1 21 (.bool m.granted) (by rw [HCS.out]; rfl)
    have c1 := oflag hO hW0 (by omega) m.granted
    go_wp2_with fail
    refine c1.mono ?_
    clear c1 hO z0
    rintro e wy ⟨v', rfl, hO⟩
    obtain ⟨l7, hl7⟩ : ∃ l, l = (l6 ++ fv m.granted) := ⟨_, rfl⟩
    have hP : OB w.heap.size x wy v' l7 32961 := by rw [hl7]; exact hO
    have HL7 := Lib.hid hl7
    clear hO hl7
    have hO := hP
    clear hP
    have z0 := (HC.out wy hO.bel).1 22 (.slice AE m.entries.length cE) (by rw [HCS.out]; rfl)
    have c1 := ocount hO hW0 (by omega) (m.entries.length : Int)
    go_wp2_with fail
    refine c1.mono ?_
    clear c1 hO z0
    rintro e wy ⟨v', rfl, hO⟩
    obtain ⟨l8, hl8⟩ : ∃ l, l = (l7 ++ cv m.entries.length) := ⟨_, rfl⟩
    have hP : OB w.heap.size x wy v' l8 32971 := by rw [hl8]; exact hO
    have HL8 := Lib.hid hl8
    clear hO hl8
    have hO := hP
    clear hP
    go_wp2_with fail
    have hOE : OB w.heap.size x wy v' (l8 ++ manyB entB (m.entries.take 0)) (32971 + 60 * 0 + 10 * ((m.entries.take 0).map (fun e : EN => e.data.size + e.list.length)).sum) := by
      rw [List.take_zero, show manyB entB [] = [] from rfl, List.append_nil]
      exact ⟨hO.own, hO.bel, by have := hO.len; simp; omega⟩
    have HOE := Lib.hid hOE
    clear hO hOE
    go_loopw [4, 5] (fun s4 s5 wr => ∃ i : Nat, s5 = .int .i64 (i : Int) ∧ i ≤ m.entries.length ∧ Hid (OB w.heap.size x wr s4 (l8 ++ manyB entB (m.entries.take i)) (32971 + 60 * i + 10 * ((m.entries.take i).map (fun e : EN => e.data.size + e.list.length)).sum))) (fun _ s5 _ => m.entries.length - (RowKit.intOf s5).toNat)
    case atStart => exact ⟨0, rfl, Nat.zero_le _, HOE⟩
    case round =>
      clear HOE
      obtain ⟨i, rfl, hi, hR⟩ := hrel
      obtain ⟨wz, hwz⟩ : ∃ wz : World, wz = wr := ⟨_, rfl⟩
      subst hwz
      have zl := (HC.out wz hR.out.bel).1 22 (.slice AE m.entries.length cE) (by rw [HCS.out]; rfl)
      have hln : m.entries.length ≤ 8192 := by have := HN8.out; unfold MG.sz MG.sz0 at this; omega
      by_cases hil : i < m.entries.length
      · refine way_out (inferInstanceAs (Nonempty (WayTo (G := _) (by
          have a2 : (i : Int) < (m.entries.length : Int) := by omega
          have a0 : (0 : Int) ≤ (i : Int) := by omega
          obtain ⟨c, hc⟩ : ∃ c, m.entries[i]? = some c := ⟨_, List.getElem?_eq_getElem hil⟩
          obtain ⟨g, o, n1, k1, C, l2, hv, -, hg, hl, c0, c1, c2, c3⟩ := (HC.out x (Below.refl _ _)).2.1.e.cell hc
          injection hv with v1 v2 v3
          subst v1
          clear v2 v3
          have HEL : Hid (∀ W, Below x.heap.size x W → (W.cell? ⟨b, 22, none⟩ = some (.slice (some ⟨g, o, none⟩) m.entries.length cE) ∧ W.cell? ⟨g, o + i * 4, none⟩ = some (.int .i64 c.term) ∧ W.cell? ⟨g, o + i * 4 + 1, none⟩ = some (.int .u8 c.kind) ∧ W.cell? ⟨g, o + i * 4 + 2, none⟩ = some (.string c.data) ∧ W.cell? ⟨g, o + i * 4 + 3, none⟩ = some (.slice C c.list.length l2)) ∧ inR.N W Any (.slice C c.list.length l2) c.list) := Lib.hid fun W hW =>
            ⟨⟨(HC.out W hW).1 22 _ (by rw [HCS.out]; rfl), (hW.cell (p := ⟨g, o + i * 4, none⟩) hg).trans c0, (hW.cell (p := ⟨g, o + i * 4 + 1, none⟩) hg).trans c1, (hW.cell (p := ⟨g, o + i * 4 + 2, none⟩) hg).trans c2, (hW.cell (p := ⟨g, o + i * 4 + 3, none⟩) hg).trans c3⟩, hl.grow hW⟩
          clear hg hl c0 c1 c2 c3
          have hz := HN8.out
          have hin := in_sum (fun e : EN => e.data.size + e.list.length) hc
          have hle := sum_take_le (fun e : EN => e.data.size + e.list.length) m.entries i
          have hszE : (m.entries.map (fun e : EN => e.data.size + e.list.length)).sum ≤ 8192 := by unfold MG.sz at hz; unfold szE at hz; omega
          obtain ⟨q1, q2⟩ : c.data.size ≤ 8192 ∧ c.list.length ≤ 8192 := by omega
          have hok := (hf.ents c (List.mem_of_getElem? hc)).1
          have HQ := Lib.hid (And.intro hok (And.intro q1 q2))
          clear q1 q2 hok
          have hO := hR.out
          obtain ⟨lb, hlb⟩ : ∃ lb, lb = l8 ++ manyB entB (m.entries.take i) := ⟨_, rfl⟩
          obtain ⟨Kb, hKb⟩ : ∃ Kb, Kb = 32971 + 60 * i + 10 * ((m.entries.take i).map (fun e : EN => e.data.size + e.list.length)).sum := ⟨_, rfl⟩
          rw [← hlb, ← hKb] at hO
          have hKs : Kb ≤ 5000000 := by omega
          have hR2 := hO.len
          have HLB := Lib.hid (And.intro hlb (And.intro hKb (And.intro hc (And.intro hR2 hszE))))
          have HII := Lib.hid (And.intro hil (And.intro hi hln))
          clear hz hin hle hszE hlb hKb hc hR hR2 zl
          have hst := (HEL.out wz hO.bel).1
          go_upto_region 17 with fail
          go_region_held3 (fun W => W.cell? ⟨b, 22, none⟩ = some (.slice (some ⟨g, o, none⟩) m.entries.length cE) ∧ W.cell? ⟨g, o + i * 4, none⟩ = some (.int .i64 c.term) ∧ W.cell? ⟨g, o + i * 4 + 1, none⟩ = some (.int .u8 c.kind) ∧ W.cell? ⟨g, o + i * 4 + 2, none⟩ = some (.string c.data) ∧ W.cell? ⟨g, o + i * 4 + 3, none⟩ = some (.slice C c.list.length l2)) (first | with_reducible exact hst | exact (HEL.out _ hO.bel).1 | exact (HEL.out _ hO.bel.drew).1)
            (first
              | (go_at_call 44; refine (onum (w0 := w.heap.size) (x := x) (by first | exact hO | exact hO.drew) hW0 (by omega) _ HQ.out.1.1).mono ?_; rintro e wy ⟨v', rfl, hO2⟩; clear hO; have hO := hO2; clear hO2)
              | (go_at_call 43; refine (okind (w0 := w.heap.size) (x := x) (by first | exact hO | exact hO.drew) hW0 (by omega) _ HQ.out.1.2.1).mono ?_; rintro e wy ⟨v', rfl, hO2⟩; clear hO; have hO := hO2; clear hO2))
          clear hst
          have hst := (HEL.out wy hO.bel).1
          go_upto_region 18 with fail
          go_region_held3 (fun W => W.cell? ⟨b, 22, none⟩ = some (.slice (some ⟨g, o, none⟩) m.entries.length cE) ∧ W.cell? ⟨g, o + i * 4, none⟩ = some (.int .i64 c.term) ∧ W.cell? ⟨g, o + i * 4 + 1, none⟩ = some (.int .u8 c.kind) ∧ W.cell? ⟨g, o + i * 4 + 2, none⟩ = some (.string c.data) ∧ W.cell? ⟨g, o + i * 4 + 3, none⟩ = some (.slice C c.list.length l2)) (first | with_reducible exact hst | exact (HEL.out _ hO.bel).1 | exact (HEL.out _ hO.bel.drew).1)
            (first
              | (go_at_call 45; refine (ostr (w0 := w.heap.size) (x := x) (by first | exact hO | exact hO.drew) hW0 (by omega) _ HQ.out.2.1).mono ?_; rintro e wy ⟨v', rfl, hO2⟩; clear hO; have hO := hO2; clear hO2)
              | (go_at_call 49; refine (onumbers (w0 := w.heap.size) (x := x) (by first | exact hO | exact hO.drew) hW0 (by omega) c.list (by first | exact (HEL.out _ hO.bel).2 | exact (HEL.out _ hO.bel.drew).2) HQ.out.1.2.2 HQ.out.2.2).mono ?_; rintro e wy ⟨v', rfl, hO2⟩; clear hO; have hO := hO2; clear hO2))
          clear hst
          have hlen := (entB_len HQ.out.1 (by have := HQ.out.2.1; omega)).1
          have HO : Hid (OB w.heap.size x wy v' (l8 ++ manyB entB (m.entries.take (i + 1))) (32971 + 60 * (i + 1) + 10 * ((m.entries.take (i + 1)).map (fun e : EN => e.data.size + e.list.length)).sum)) := Lib.hid (by
            obtain ⟨h1, h2, h3, h4, h5⟩ := HLB.out
            have h6 := sum_take (fun e : EN => e.data.size + e.list.length) h3
            have e : l8 ++ manyB entB (m.entries.take (i + 1)) = ((((lb ++ uv (zz c.term)) ++ cv c.kind) ++ tv c.data.data.toList) ++ (cv c.list.length ++ nsB c.list)) := by rw [manyB_take entB h3, h1]; unfold entB; simp only [List.append_assoc]
            refine ⟨by rw [e]; exact hO.own, hO.bel, ?_⟩
            rw [manyB_take entB h3, ← List.append_assoc, ← h1, List.length_append]
            try dsimp only at h6
            omega)
          clear hO hlen
          have hIo : (i : Int) ≤ 8192 := by have := HII.out; omega
          go_wp2_with fail
          exact ⟨⟨i + 1, by go_num, by have := HII.out; omega, HO⟩, by have := HII.out; simp [RowKit.intOf]; omega⟩))))
      refine way_out (inferInstanceAs (Nonempty (WayTo (G := _) (by
        have a2 : ¬ (i : Int) < (m.entries.length : Int) := by omega
        have hF : OB w.heap.size x wz u4 (l8 ++ manyB entB m.entries) 606411 := by
          have h := hR.out
          rw [show i = m.entries.length by omega, List.take_length] at h
          refine h.fit ?_
          have h1 := h.len
          have h2 := HN8.out
          unfold MG.sz szE at h2
          omega
        have HF := Lib.hid hF
        clear hF hR hi hil
        obtain ⟨wy, hwy⟩ : ∃ wy : World, wy = wz := ⟨_, rfl⟩
        subst hwy
        obtain ⟨l9, hl9⟩ : ∃ l, l = l8 ++ manyB entB m.entries := ⟨_, rfl⟩
        have HL9 := Lib.hid hl9
        have hO := HF.out
        rw [← hl9] at hO
        clear HF hl9 hln
        have z0 := (HC.out wy hO.bel).1 23 (.slice AL m.list.length cL) (by rw [HCS.out]; rfl)
        have c1 := onumbers hO hW0 (by omega) m.list ((HC.out wy hO.bel).2.1.l) hf.ints e6
        go_wp2_with fail
        refine c1.mono ?_
        clear c1 hO z0
        rintro e wy ⟨v', rfl, hO⟩
        obtain ⟨l10, hl10⟩ : ∃ l, l = (l9 ++ (cv m.list.length ++ nsB m.list)) := ⟨_, rfl⟩
        have hP : OB w.heap.size x wy v' l10 688341 := by rw [hl10]; exact hO
        have HL10 := Lib.hid hl10
        clear hO hl10
        have hO := hP
        clear hP
        have HS : Hid (∀ W, Below x.heap.size x W → W.cell? ⟨b, 24, none⟩ = some (.string m.state) ∧ W.cell? ⟨b, 25, none⟩ = some (.int .i64 m.part) ∧ W.cell? ⟨b, 26, none⟩ = some (.bool m.last)) := Lib.hid fun W hW => by
          have hc := (HC.out W hW).1
          rw [HCS.out] at hc
          exact ⟨hc 24 _ rfl, hc 25 _ rfl, hc 26 _ rfl⟩
        have hst := HS.out wy hO.bel
        go_upto_region 20 with fail
        go_region_held3 (fun W => W.cell? ⟨b, 24, none⟩ = some (.string m.state) ∧ W.cell? ⟨b, 25, none⟩ = some (.int .i64 m.part) ∧ W.cell? ⟨b, 26, none⟩ = some (.bool m.last)) (first | with_reducible exact hst | exact HS.out _ hO.bel | exact HS.out _ (hO.bel.drew))
          (first
            | (go_at_call 45; refine (ostr (w0 := w.heap.size) (x := x) (by first | exact hO | exact hO.drew) hW0 (by omega) _ e5).mono ?_; rintro e wy ⟨v', rfl, hO2⟩; clear hO; have hO := hO2; clear hO2)
            | (go_at_call 44; refine (onum (w0 := w.heap.size) (x := x) (by first | exact hO | exact hO.drew) hW0 (by omega) _ (HI.out _ (by simp))).mono ?_; rintro e wy ⟨v', rfl, hO2⟩; clear hO; have hO := hO2; clear hO2)
            | (go_at_call 46; refine (oflag (w0 := w.heap.size) (x := x) (by first | exact hO | exact hO.drew) hW0 (by omega) _).mono ?_; rintro e wy ⟨v', rfl, hO2⟩; clear hO; have hO := hO2; clear hO2))
        clear hst HS
        obtain ⟨l11, hl11⟩ : ∃ l, l = (((l10 ++ tv m.state.data.toList) ++ uv (zz m.part)) ++ fv m.last) := ⟨_, rfl⟩
        have hP : OB w.heap.size x wy v' l11 696554 := by rw [hl11]; exact hO
        have HL11 := Lib.hid hl11
        clear hO hl11
        have hO := hP
        clear hP
        have z0 := (HC.out wy hO.bel).1 27 (.slice AP m.pairs.length cP) (by rw [HCS.out]; rfl)
        have c1 := ocount hO hW0 (by omega) (m.pairs.length : Int)
        go_wp2_with fail
        refine c1.mono ?_
        clear c1 hO z0
        rintro e wy ⟨v', rfl, hO⟩
        obtain ⟨l12, hl12⟩ : ∃ l, l = (l11 ++ cv m.pairs.length) := ⟨_, rfl⟩
        have hP : OB w.heap.size x wy v' l12 696564 := by rw [hl12]; exact hO
        have HL12 := Lib.hid hl12
        clear hO hl12
        have hO := hP
        clear hP
        go_wp2_with fail
        have hOE : OB w.heap.size x wy v' (l12 ++ manyB prB (m.pairs.take 0)) (696564 + 60 * 0 + 10 * ((m.pairs.take 0).map (fun c : PP => c.key.size + c.val.size)).sum) := by
          rw [List.take_zero, show manyB prB [] = [] from rfl, List.append_nil]
          exact ⟨hO.own, hO.bel, by have := hO.len; simp; omega⟩
        have HOE := Lib.hid hOE
        clear hO hOE
        go_loopw [4, 6] (fun s4 s5 wr => ∃ i : Nat, s5 = .int .i64 (i : Int) ∧ i ≤ m.pairs.length ∧ Hid (OB w.heap.size x wr s4 (l12 ++ manyB prB (m.pairs.take i)) (696564 + 60 * i + 10 * ((m.pairs.take i).map (fun c : PP => c.key.size + c.val.size)).sum))) (fun _ s5 _ => m.pairs.length - (RowKit.intOf s5).toNat)
        case atStart => exact ⟨0, rfl, Nat.zero_le _, HOE⟩
        case round =>
          clear HOE
          obtain ⟨i, rfl, hi, hR⟩ := hrel
          obtain ⟨wz, hwz⟩ : ∃ wz : World, wz = wr := ⟨_, rfl⟩
          subst hwz
          have zl := (HC.out wz hR.out.bel).1 27 (.slice AP m.pairs.length cP) (by rw [HCS.out]; rfl)
          have hln : m.pairs.length ≤ 8192 := by have := HN8.out; unfold MG.sz MG.sz0 at this; omega
          by_cases hil : i < m.pairs.length
          · refine way_out (inferInstanceAs (Nonempty (WayTo (G := _) (by
              have a2 : (i : Int) < (m.pairs.length : Int) := by omega
              have a0 : (0 : Int) ≤ (i : Int) := by omega
              obtain ⟨c, hc⟩ : ∃ c, m.pairs[i]? = some c := ⟨_, List.getElem?_eq_getElem hil⟩
              obtain ⟨g, o, n1, k1, hv, -, hg, hcl⟩ := (HC.out x (Below.refl _ _)).2.1.p.cell hc
              injection hv with v1 v2 v3
              subst v1
              clear v2 v3
              have HEL : Hid (∀ W, Below x.heap.size x W → (W.cell? ⟨b, 27, none⟩ = some (.slice (some ⟨g, o, none⟩) m.pairs.length cP) ∧ W.cell? ⟨g, o + i * 2, none⟩ = some (.string c.key) ∧ W.cell? ⟨g, o + i * 2 + 1, none⟩ = some (.string c.val)) ∧ True) := Lib.hid fun W hW =>
                ⟨⟨(HC.out W hW).1 27 _ (by rw [HCS.out]; rfl), (hW.cell (p := ⟨g, o + i * 2, none⟩) hg).trans (hcl 0 _ rfl), (hW.cell (p := ⟨g, o + i * 2 + 1, none⟩) hg).trans (hcl 1 _ rfl)⟩, trivial⟩
              clear hg hcl
              have hz := HN8.out
              have hin := in_sum (fun c : PP => c.key.size + c.val.size) hc
              have hle := sum_take_le (fun c : PP => c.key.size + c.val.size) m.pairs i
              have hszE : (m.pairs.map (fun c : PP => c.key.size + c.val.size)).sum ≤ 8192 := by unfold MG.sz at hz; unfold szP at hz; omega
              obtain ⟨q1, q2⟩ : c.key.size ≤ 8192 ∧ c.val.size ≤ 8192 := by omega
              have HQ := Lib.hid (And.intro q1 q2)
              have hO := hR.out
              obtain ⟨lb, hlb⟩ : ∃ lb, lb = l12 ++ manyB prB (m.pairs.take i) := ⟨_, rfl⟩
              obtain ⟨Kb, hKb⟩ : ∃ Kb, Kb = 696564 + 60 * i + 10 * ((m.pairs.take i).map (fun c : PP => c.key.size + c.val.size)).sum := ⟨_, rfl⟩
              rw [← hlb, ← hKb] at hO
              have hKs : Kb ≤ 5000000 := by omega
              have hR2 := hO.len
              have HLB := Lib.hid (And.intro hlb (And.intro hKb (And.intro hc (And.intro hR2 hszE))))
              have HII := Lib.hid (And.intro hil (And.intro hi hln))
              clear hz hin hle hszE hlb hKb hc hR hR2 zl
              have hst := (HEL.out wz hO.bel).1
              go_upto_region 25 with fail
              go_region_held3 (fun W => W.cell? ⟨b, 27, none⟩ = some (.slice (some ⟨g, o, none⟩) m.pairs.length cP) ∧ W.cell? ⟨g, o + i * 2, none⟩ = some (.string c.key) ∧ W.cell? ⟨g, o + i * 2 + 1, none⟩ = some (.string c.val)) (first | with_reducible exact hst | exact (HEL.out _ hO.bel).1 | exact (HEL.out _ hO.bel.drew).1)
                (first
                  | (go_at_call 45; refine (ostr (w0 := w.heap.size) (x := x) (by first | exact hO | exact hO.drew) hW0 (by omega) _ (by first | exact q1 | exact q2)).mono ?_; rintro e wy ⟨v', rfl, hO2⟩; clear hO; have hO := hO2; clear hO2))
              clear hst
              have hlen := (prB_len (c := c) (by have := HQ.out.1; omega) (by have := HQ.out.2; omega)).1
              have HO : Hid (OB w.heap.size x wy v' (l12 ++ manyB prB (m.pairs.take (i + 1))) (696564 + 60 * (i + 1) + 10 * ((m.pairs.take (i + 1)).map (fun c : PP => c.key.size + c.val.size)).sum)) := Lib.hid (by
                obtain ⟨h1, h2, h3, h4, h5⟩ := HLB.out
                have h6 := sum_take (fun c : PP => c.key.size + c.val.size) h3
                have e : l12 ++ manyB prB (m.pairs.take (i + 1)) = ((lb ++ tv c.key.data.toList) ++ tv c.val.data.toList) := by rw [manyB_take prB h3, h1]; unfold prB; simp only [List.append_assoc]
                refine ⟨by rw [e]; exact hO.own, hO.bel, ?_⟩
                rw [manyB_take prB h3, ← List.append_assoc, ← h1, List.length_append]
                try dsimp only at h6
                omega)
              clear hO hlen
              have hIo : (i : Int) ≤ 8192 := by have := HII.out; omega
              go_wp2_with fail
              exact ⟨⟨i + 1, by go_num, by have := HII.out; omega, HO⟩, by have := HII.out; simp [RowKit.intOf]; omega⟩))))
          refine way_out (inferInstanceAs (Nonempty (WayTo (G := _) (by
            have a2 : ¬ (i : Int) < (m.pairs.length : Int) := by omega
            have hF : OB w.heap.size x wz u4 (l12 ++ manyB prB m.pairs) 1270004 := by
              have h := hR.out
              rw [show i = m.pairs.length by omega, List.take_length] at h
              refine h.fit ?_
              have h1 := h.len
              have h2 := HN8.out
              unfold MG.sz szP at h2
              omega
            have HF := Lib.hid hF
            clear hF hR hi hil
            obtain ⟨wy, hwy⟩ : ∃ wy : World, wy = wz := ⟨_, rfl⟩
            subst hwy
            obtain ⟨l13, hl13⟩ : ∃ l, l = l12 ++ manyB prB m.pairs := ⟨_, rfl⟩
            have HL13 := Lib.hid hl13
            have hO := HF.out
            rw [← hl13] at hO
            clear HF hl13 hln
            have z0 := (HC.out wy hO.bel).1 28 (.slice AX m.lasts.length cX) (by rw [HCS.out]; rfl)
            have c1 := ocount hO hW0 (by omega) (m.lasts.length : Int)
            go_wp2_with fail
            refine c1.mono ?_
            clear c1 hO z0
            rintro e wy ⟨v', rfl, hO⟩
            obtain ⟨l14, hl14⟩ : ∃ l, l = (l13 ++ cv m.lasts.length) := ⟨_, rfl⟩
            have hP : OB w.heap.size x wy v' l14 1270014 := by rw [hl14]; exact hO
            have HL14 := Lib.hid hl14
            clear hO hl14
            have hO := hP
            clear hP
            go_wp2_with fail
            have hOE : OB w.heap.size x wy v' (l14 ++ manyB lsB (m.lasts.take 0)) (1270014 + 60 * 0 + 10 * ((m.lasts.take 0).map (fun c : PL => c.res.val.size)).sum) := by
              rw [List.take_zero, show manyB lsB [] = [] from rfl, List.append_nil]
              exact ⟨hO.own, hO.bel, by have := hO.len; simp; omega⟩
            have HOE := Lib.hid hOE
            clear hO hOE
            go_loopw [4, 7] (fun s4 s5 wr => ∃ i : Nat, s5 = .int .i64 (i : Int) ∧ i ≤ m.lasts.length ∧ Hid (OB w.heap.size x wr s4 (l14 ++ manyB lsB (m.lasts.take i)) (1270014 + 60 * i + 10 * ((m.lasts.take i).map (fun c : PL => c.res.val.size)).sum))) (fun _ s5 _ => m.lasts.length - (RowKit.intOf s5).toNat)
            case atStart => exact ⟨0, rfl, Nat.zero_le _, HOE⟩
            case round =>
              clear HOE
              obtain ⟨i, rfl, hi, hR⟩ := hrel
              obtain ⟨wz, hwz⟩ : ∃ wz : World, wz = wr := ⟨_, rfl⟩
              subst hwz
              have zl := (HC.out wz hR.out.bel).1 28 (.slice AX m.lasts.length cX) (by rw [HCS.out]; rfl)
              have hln : m.lasts.length ≤ 8192 := by have := HN8.out; unfold MG.sz MG.sz0 at this; omega
              by_cases hil : i < m.lasts.length
              · refine way_out (inferInstanceAs (Nonempty (WayTo (G := _) (by
                  have a2 : (i : Int) < (m.lasts.length : Int) := by omega
                  have a0 : (0 : Int) ≤ (i : Int) := by omega
                  obtain ⟨c, hc⟩ : ∃ c, m.lasts[i]? = some c := ⟨_, List.getElem?_eq_getElem hil⟩
                  obtain ⟨g, o, n1, k1, hv, -, hg, hcl⟩ := (HC.out x (Below.refl _ _)).2.1.x.cell hc
                  injection hv with v1 v2 v3
                  subst v1
                  clear v2 v3
                  have HEL : Hid (∀ W, Below x.heap.size x W → (W.cell? ⟨b, 28, none⟩ = some (.slice (some ⟨g, o, none⟩) m.lasts.length cX) ∧ W.cell? ⟨g, o + i * 5, none⟩ = some (.int .i64 c.client) ∧ W.cell? ⟨g, o + i * 5 + 1, none⟩ = some (.int .i64 c.id) ∧ W.cell? ⟨g, o + i * 5 + 2, none⟩ = some (.int .u8 c.res.kind) ∧ W.cell? ⟨g, o + i * 5 + 3, none⟩ = some (.bool c.res.found) ∧ W.cell? ⟨g, o + i * 5 + 4, none⟩ = some (.string c.res.val)) ∧ True) := Lib.hid fun W hW =>
                    ⟨⟨(HC.out W hW).1 28 _ (by rw [HCS.out]; rfl), (hW.cell (p := ⟨g, o + i * 5, none⟩) hg).trans (hcl 0 _ rfl), (hW.cell (p := ⟨g, o + i * 5 + 1, none⟩) hg).trans (hcl 1 _ rfl), (hW.cell (p := ⟨g, o + i * 5 + 2, none⟩) hg).trans (hcl 2 _ rfl), (hW.cell (p := ⟨g, o + i * 5 + 3, none⟩) hg).trans (hcl 3 _ rfl), (hW.cell (p := ⟨g, o + i * 5 + 4, none⟩) hg).trans (hcl 4 _ rfl)⟩, trivial⟩
                  clear hg hcl
                  have hz := HN8.out
                  have hin := in_sum (fun c : PL => c.res.val.size) hc
                  have hle := sum_take_le (fun c : PL => c.res.val.size) m.lasts i
                  have hszE : (m.lasts.map (fun c : PL => c.res.val.size)).sum ≤ 8192 := by unfold MG.sz at hz; unfold szX at hz; omega
                  have q1 : c.res.val.size ≤ 8192 := by omega
                  have hok := hf.lsts c (List.mem_of_getElem? hc)
                  have HQ := Lib.hid (And.intro hok q1)
                  clear hok q1
                  have hO := hR.out
                  obtain ⟨lb, hlb⟩ : ∃ lb, lb = l14 ++ manyB lsB (m.lasts.take i) := ⟨_, rfl⟩
                  obtain ⟨Kb, hKb⟩ : ∃ Kb, Kb = 1270014 + 60 * i + 10 * ((m.lasts.take i).map (fun c : PL => c.res.val.size)).sum := ⟨_, rfl⟩
                  rw [← hlb, ← hKb] at hO
                  have hKs : Kb ≤ 5000000 := by omega
                  have hR2 := hO.len
                  have HLB := Lib.hid (And.intro hlb (And.intro hKb (And.intro hc (And.intro hR2 hszE))))
                  have HII := Lib.hid (And.intro hil (And.intro hi hln))
                  clear hz hin hle hszE hlb hKb hc hR hR2 zl
                  have hst := (HEL.out wz hO.bel).1
                  go_upto_region 30 with fail
                  go_region_held3 (fun W => W.cell? ⟨b, 28, none⟩ = some (.slice (some ⟨g, o, none⟩) m.lasts.length cX) ∧ W.cell? ⟨g, o + i * 5, none⟩ = some (.int .i64 c.client) ∧ W.cell? ⟨g, o + i * 5 + 1, none⟩ = some (.int .i64 c.id) ∧ W.cell? ⟨g, o + i * 5 + 2, none⟩ = some (.int .u8 c.res.kind) ∧ W.cell? ⟨g, o + i * 5 + 3, none⟩ = some (.bool c.res.found) ∧ W.cell? ⟨g, o + i * 5 + 4, none⟩ = some (.string c.res.val)) (first | with_reducible exact hst | exact (HEL.out _ hO.bel).1 | exact (HEL.out _ hO.bel.drew).1)
                    (first
                      | (go_at_call 44; refine (onum (w0 := w.heap.size) (x := x) (by first | exact hO | exact hO.drew) hW0 (by omega) _ (by first | exact HQ.out.1.1 | exact HQ.out.1.2.1)).mono ?_; rintro e wy ⟨v', rfl, hO2⟩; clear hO; have hO := hO2; clear hO2)
                      | (go_at_call 47; refine (oresult (w0 := w.heap.size) (x := x) (by first | exact hO | exact hO.drew) hW0 (by omega) c.res HQ.out.1.2.2 HQ.out.2).mono ?_; rintro e wy ⟨v', rfl, hO2⟩; clear hO; have hO := hO2; clear hO2))
                  clear hst
                  have hlen := (lsB_len HQ.out.1 (by have := HQ.out.2; omega)).1
                  have HO : Hid (OB w.heap.size x wy v' (l14 ++ manyB lsB (m.lasts.take (i + 1))) (1270014 + 60 * (i + 1) + 10 * ((m.lasts.take (i + 1)).map (fun c : PL => c.res.val.size)).sum)) := Lib.hid (by
                    obtain ⟨h1, h2, h3, h4, h5⟩ := HLB.out
                    have h6 := sum_take (fun c : PL => c.res.val.size) h3
                    have e : l14 ++ manyB lsB (m.lasts.take (i + 1)) = (((lb ++ uv (zz c.client)) ++ uv (zz c.id)) ++ (cv c.res.kind ++ fv c.res.found ++ tv c.res.val.data.toList)) := by rw [manyB_take lsB h3, h1]; unfold lsB; simp only [List.append_assoc]
                    refine ⟨by rw [e]; exact hO.own, hO.bel, ?_⟩
                    rw [manyB_take lsB h3, ← List.append_assoc, ← h1, List.length_append]
                    try dsimp only at h6
                    omega)
                  clear hO hlen
                  have hIo : (i : Int) ≤ 8192 := by have := HII.out; omega
                  go_wp2_with fail
                  exact ⟨⟨i + 1, by go_num, by have := HII.out; omega, HO⟩, by have := HII.out; simp [RowKit.intOf]; omega⟩))))
              refine way_out (inferInstanceAs (Nonempty (WayTo (G := _) (by
                have a2 : ¬ (i : Int) < (m.lasts.length : Int) := by omega
                have hF : OB w.heap.size x wz u4 (l14 ++ manyB lsB m.lasts) 1843454 := by
                  have h := hR.out
                  rw [show i = m.lasts.length by omega, List.take_length] at h
                  refine h.fit ?_
                  have h1 := h.len
                  have h2 := HN8.out
                  unfold MG.sz szX at h2
                  omega
                have HF := Lib.hid hF
                clear hF hR hi hil
                obtain ⟨wy, hwy⟩ : ∃ wy : World, wy = wz := ⟨_, rfl⟩
                subst hwy
                obtain ⟨l15, hl15⟩ : ∃ l, l = l14 ++ manyB lsB m.lasts := ⟨_, rfl⟩
                have HL15 := Lib.hid hl15
                have hO := HF.out
                rw [← hl15] at hO
                clear HF hl15 hln
                have HS : Hid (∀ W, Below x.heap.size x W → W.cell? ⟨b, 29, none⟩ = some (.int .u8 m.cmd.kind) ∧ W.cell? ⟨b, 30, none⟩ = some (.int .i64 m.cmd.shard) ∧ W.cell? ⟨b, 31, none⟩ = some (.int .i64 m.cmd.store) ∧ W.cell? ⟨b, 32, none⟩ = some (.int .i64 m.cmd.epoch)) := Lib.hid fun W hW => by
                  have hc := (HC.out W hW).1
                  rw [HCS.out] at hc
                  exact ⟨hc 29 _ rfl, hc 30 _ rfl, hc 31 _ rfl, hc 32 _ rfl⟩
                have hst := HS.out wy hO.bel
                go_upto_region 31 with fail
                go_region_held3 (fun W => W.cell? ⟨b, 29, none⟩ = some (.int .u8 m.cmd.kind) ∧ W.cell? ⟨b, 30, none⟩ = some (.int .i64 m.cmd.shard) ∧ W.cell? ⟨b, 31, none⟩ = some (.int .i64 m.cmd.store) ∧ W.cell? ⟨b, 32, none⟩ = some (.int .i64 m.cmd.epoch)) (first | with_reducible exact hst | exact HS.out _ hO.bel | exact HS.out _ (hO.bel.drew))
                  (first
                    | (go_at_call 43; refine (okind (w0 := w.heap.size) (x := x) (by first | exact hO | exact hO.drew) hW0 (by omega) _ HCM.out.1).mono ?_; rintro e wy ⟨v', rfl, hO2⟩; clear hO; have hO := hO2; clear hO2)
                    | (go_at_call 44; refine (onum (w0 := w.heap.size) (x := x) (by first | exact hO | exact hO.drew) hW0 (by omega) _ (by first | exact HCM.out.2.1 | exact HCM.out.2.2.1 | exact HCM.out.2.2.2)).mono ?_; rintro e wy ⟨v', rfl, hO2⟩; clear hO; have hO := hO2; clear hO2))
                clear hst HS
                obtain ⟨l16, hl16⟩ : ∃ l, l = ((((l15 ++ cv m.cmd.kind) ++ uv (zz m.cmd.shard)) ++ uv (zz m.cmd.store)) ++ uv (zz m.cmd.epoch)) := ⟨_, rfl⟩
                have hP : OB w.heap.size x wy v' l16 1843494 := by rw [hl16]; exact hO
                have HL16 := Lib.hid hl16
                clear hO hl16
                have hO := hP
                clear hP
                have hby : l16 = m.by := by
                  rw [HL16.out, HL15.out, HL14.out, HL13.out, HL12.out, HL11.out, HL10.out, HL9.out, HL8.out, HL7.out, HL6.out, HL5.out, HL4.out, HL3.out, HL2.out, HL1.out]
                  unfold MG.by
                  simp only [List.append_assoc, List.nil_append]
                have hbl : m.by.length ≤ 10000000 := by rw [← hby]; exact Nat.le_trans hO.len (by omega)
                rw [hby] at hO
                obtain ⟨A9, c9, hv9⟩ := own_slice hO.own
                subst hv9
                have hO9 := hO.own
                have hb9 := (HC.out wy hO.bel).2.2
                clear hby hO
                by_cases hfl : m.by.length > 8192
                · have f1 : (m.by.length : Int) > 8192 := by omega
                  have HE : Hid (EncD w wy m (.returned (.tuple #[.slice none 0 0, .int .i64 40]))) := Lib.hid ⟨hb9, (fun h => by rw [HKB.out] at h; cases h), fun _ _ => rfl, fun _ h => by omega⟩
                  clear hO9 hb9 hfl
                  go_wp2_with fail
                  go_ret2
                  exact HE.out
                · have f1 : ¬ (m.by.length : Int) > 8192 := by omega
                  have HE : Hid (EncD w wy m (.returned (.tuple #[.slice A9 m.by.length c9, .int .i64 0]))) := Lib.hid ⟨hb9, (fun h => by rw [HKB.out] at h; cases h), (fun _ h => by omega), fun _ _ => ⟨_, rfl, hO9⟩⟩
                  clear hO9 hb9 hfl
                  go_wp2_with fail
                  go_ret2
                  exact HE.out))))))))))))
end Go.Proofs.Ytblbcoknefgcaaa
