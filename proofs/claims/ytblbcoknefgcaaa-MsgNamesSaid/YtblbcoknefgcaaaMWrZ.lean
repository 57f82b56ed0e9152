/-
  A whole message, written. No statement is proved here. No condition.
-/
import Derived.Test.YtblbcoknefgcaaaMWrO
namespace Go.Proofs.Ytblbcoknefgcaaa
open Go.RowKit

theorem cut_goal {P G : Prop} (h : P → G) (k : P) : G := h k
theorem CellsAt.sub {w : World} {B b o : Nat} {vs : List Value} (h : CellsAt w B b o vs) (n : Nat) (us : List Value) (hs : ∀ (j : Nat) (v : Value), us[j]? = some v → vs[n + j]? = some v) : CellsAt w B b (o + n) us :=
  ⟨h.lt, h.lw, fun j v hv => by rw [Nat.add_assoc]; exact h.cell (n + j) v (hs j v hv)⟩
/-- a message's ranges -/
structure MG.ok (m : MG) : Prop where
  kind : 0 ≤ m.kind ∧ m.kind ≤ 255
  nums : I64 m.shard ∧ I64 m.epoch ∧ I64 m.owner ∧ I64 m.req ∧ I64 m.client ∧ I64 m.id
  op : m.op.ok
  code : I64 m.code
  res : m.res.ok
  more : I64 m.grant ∧ I64 m.term ∧ I64 m.index ∧ I64 m.prev ∧ I64 m.commit
  part : I64 m.part
  cmd : m.cmd.ok
/-- what a message adds -/
def MG.wr (s : WS) (m : MG) : WS :=
  wputs (wputs (wputs (wput (wput (wput (wputs (wputs (wput (wputs (wputs (wput (wputs (wputs (wput s (cv m.kind))
    ([m.shard, m.epoch, m.owner, m.req, m.client, m.id].map fun n => uv (zz n))) m.op.by) (uv (zz m.code))) m.res.by)
    ([m.grant, m.term, m.index, m.prev, m.commit].map fun n => uv (zz n))) (fv m.granted))
    (cv m.entries.length :: m.entries.flatMap EN.by)) (cv m.list.length :: m.list.map fun n => uv (zz n)))
    (tv m.state.data.toList)) (uv (zz m.part))) (fv m.last)) (cv m.pairs.length :: m.pairs.flatMap PP.by)) (cv m.lasts.length :: m.lasts.flatMap PL.by)) m.cmd.by
/-- a message that lies below the writer -/
structure MgAt (w : World) (B b o : Nat) (m : MG) (AE AL AP AX : Option Addr) (lE lL lP lX : Nat) : Prop where
  cells : CellsAt w B b o (m.cells (.slice AE m.entries.length lE) (.slice AL m.list.length lL) (.slice AP m.pairs.length lP) (.slice AX m.lasts.length lX)).toList
  blk : ∃ (cs : Array Value) (T : TypeId), w.heap[b]? = some (.cells cs T (0, 0)) ∧ cs[o + 12]? = some (.int .i64 m.code)
  lens : m.entries.length < 2 ^ 60 ∧ m.list.length < 2 ^ 60 ∧ m.pairs.length < 2 ^ 60 ∧ m.lasts.length < 2 ^ 60
  ents : ∀ (i : Nat) (n : EN), m.entries[i]? = some n → ∃ g q C l2, AE = some ⟨g, q, none⟩ ∧ CellsAt w B g (q + i * 4) (n.vals (.slice C n.list.length l2)) ∧ n.ok ∧ EnL w B n C
  ints : ∀ (i : Nat) (n : Int), m.list[i]? = some n → ∃ g q, AL = some ⟨g, q, none⟩ ∧ w.cell? ⟨g, q + i, none⟩ = some (.int .i64 n) ∧ I64 n ∧ g < B
  prs : ∀ (i : Nat) (n : PP), m.pairs[i]? = some n → ∃ g q, AP = some ⟨g, q, none⟩ ∧ CellsAt w B g (q + i * 2) n.vals ∧ n.ok
  lsts : ∀ (i : Nat) (n : PL), m.lasts[i]? = some n → ∃ g q, AX = some ⟨g, q, none⟩ ∧ CellsAt w B g (q + i * 5) n.vals ∧ n.ok
theorem MgAt.wrote {w w' : World} {B k b o : Nat} {m : MG} {AE AL AP AX : Option Addr} {lE lL lP lX : Nat} (h : MgAt w B b o m AE AL AP AX lE lL lP lX) (hw : Wrote B k w w') (hk : B ≤ k) : MgAt w' B b o m AE AL AP AX lE lL lP lX := by
  obtain ⟨h1, ⟨cs, T, h2, h3⟩, h4, h5, h6, h7, h8⟩ := h
  have hlt := h1.lt
  refine ⟨h1.wrote hw hk, ⟨cs, T, (hw.block b h1.lw (by omega) (.inl hlt)).trans h2, h3⟩, h4, fun i n hi => ?_, fun i n hi => ?_, fun i n hi => ?_, fun i n hi => ?_⟩
  · obtain ⟨g, q, C, l2, e1, e2, e3, e4⟩ := h5 i n hi
    exact ⟨g, q, C, l2, e1, e2.wrote hw hk, e3, e4.wrote hw hk⟩
  · obtain ⟨g, q, e1, e2, e3, e4⟩ := h6 i n hi
    exact ⟨g, q, e1, (hw.cell (p := ⟨g, q + i, none⟩) (World.block_lt_of_cell? w _ e2) (by dsimp only; omega) (.inl e4)).trans e2, e3, e4⟩
  · obtain ⟨g, q, e1, e2, e3⟩ := h7 i n hi
    exact ⟨g, q, e1, e2.wrote hw hk, e3⟩
  · obtain ⟨g, q, e1, e2, e3⟩ := h8 i n hi
    exact ⟨g, q, e1, e2.wrote hw hk, e3⟩
/-- how far the writing has come -/
structure MSt (w0 w : World) (B k b o pb : Nat) (s : WS) (m : MG) (AE AL AP AX : Option Addr) (lE lL lP lX : Nat) : Prop where
  p : WrP w B k s
  g : MgAt w B b o m AE AL AP AX lE lL lP lX
  wr : Wrote B k w0 w
  bx : BoxAt w pb k
section
variable {w0 w w' : World} {B k b o pb : Nat} {s s' : WS} {m : MG} {AE AL AP AX : Option Addr} {lE lL lP lX : Nat}
theorem MSt.below (h : MSt w0 w B k b o pb s m AE AL AP AX lE lL lP lX) (hb : Below w.heap.size w w') : MSt w0 w' B k b o pb s m AE AL AP AX lE lL lP lX :=
  ⟨h.p.below hb, h.g.wrote (Wrote.of_below hb) h.p.kB, h.wr.trans (Wrote.of_below hb), h.bx.below hb⟩
theorem MSt.drew (h : MSt w0 w B k b o pb s m AE AL AP AX lE lL lP lX) : MSt w0 w.drew B k b o pb s m AE AL AP AX lE lL lP lX := h.below (Below.refl _ _).drew
theorem MSt.step (h : MSt w0 w B k b o pb s m AE AL AP AX lE lL lP lX) (hp : WrP w' B k s') (hw : Wrote B k w w') : MSt w0 w' B k b o pb s' m AE AL AP AX lE lL lP lX :=
  ⟨hp, h.g.wrote hw h.p.kB, h.wr.trans hw, h.bx.wrote h.p hw⟩
end
set_option maxHeartbeats 8000000 in
set_option maxRecDepth 100000 in
/-- message -/
theorem w_message (B k b o : Nat) (s : WS) (m : MG) (AE AL AP AX : Option Addr) (lE lL lP lX : Nat) (w : World) (h : WrP w B k s) (hg : MgAt w B b o m AE AL AP AX lE lL lP lX) (hn : m.ok) :
    Calls Try.prog 39 #[.iface 72 (.pointer (some ⟨k, 0, none⟩)), .pointer (some ⟨b, o, none⟩)] w fun e w' => Hid (e = .returned (.tuple #[]) ∧ WrP w' B k (m.wr s) ∧ Wrote B k w w') := by
  obtain ⟨v0, hv0⟩ : ∃ x, x = w.alloc (.cells #[.iface 72 (.pointer (some ⟨k, 0, none⟩))] 115) := ⟨_, rfl⟩
  have hb0 : Below w.heap.size w v0 := by rw [hv0]; exact (Below.refl _ _).alloc (Nat.le_refl _) _
  have hbx : BoxAt v0 w.heap.size k := by rw [hv0]; exact heap_alloc_new w _
  obtain ⟨pb, hpb⟩ : ∃ pb, pb = w.heap.size := ⟨_, rfl⟩
  rw [← hpb] at hbx
  have H0 : Hid (MSt w v0 B k b o pb s m AE AL AP AX lE lL lP lX) := Lib.hid ⟨h.below hb0, hg.wrote (Wrote.of_below hb0) h.kB, Wrote.of_below hb0, hbx⟩
  have HN := Lib.hid hn
  have HV := Lib.hid (And.intro hv0 hpb)
  clear h hg hn hb0 hbx hv0 hpb
  go_enter Try.func39, Try.ntmps39
  go_upto_region 1 with fail
  rw [← HV.out.1, ← HV.out.2]
  clear HV
  have HD := Lib.hid H0.out.drew
  have p0 := (blk_cells H0.out.bx).1 0
  have p1 := (blk_cells HD.out.bx).1 0
  have hm := metw_kind
  have hv := nilw_kind
  have c := wr_kind B k b o _ m.kind HN.out.kind v0.drew HD.out.p (HD.out.g.cells.cell 0 _ rfl)
  go_wp2_with fail
  apply cut_goal
  case h =>
    intro key
    go_region_with (go_at_call 147; refine c.mono ?_; rintro e v1 ⟨rfl, hp, hw⟩)
    all_goals (revert hp hw; revert v1; exact key)
  intro v1 hp hw
  have H1 := Lib.hid (HD.out.step hp hw)
  clear p0 p1 c hp hw HD H0 hm hv
  have HD := Lib.hid H1.out.drew
  obtain ⟨x, hx⟩ : ∃ x, x = v1.drew.alloc (.cells #[.pointer (some ⟨b, o + 1, none⟩), .pointer (some ⟨b, o + 2, none⟩), .pointer (some ⟨b, o + 3, none⟩), .pointer (some ⟨b, o + 4, none⟩), .pointer (some ⟨b, o + 5, none⟩), .pointer (some ⟨b, o + 6, none⟩)] 92) := ⟨_, rfl⟩
  have hb : Below v1.drew.heap.size v1.drew x := by rw [hx]; exact (Below.refl _ _).alloc (Nat.le_refl _) _
  have hg : x.heap[v1.drew.heap.size]? = some (.cells #[.pointer (some ⟨b, o + 1, none⟩), .pointer (some ⟨b, o + 2, none⟩), .pointer (some ⟨b, o + 3, none⟩), .pointer (some ⟨b, o + 4, none⟩), .pointer (some ⟨b, o + 5, none⟩), .pointer (some ⟨b, o + 6, none⟩)] 92 (0, 0)) := by rw [hx]; exact heap_alloc_new v1.drew _
  have HX := Lib.hid (HD.out.below hb)
  have hc := HX.out.g.cells
  have c := w_nums B k v1.drew.heap.size _ [(b, o + 1), (b, o + 2), (b, o + 3), (b, o + 4), (b, o + 5), (b, o + 6)] [m.shard, m.epoch, m.owner, m.req, m.client, m.id] x HX.out.p rfl (by simp) hg (fun i p n h1 h2 => by
    match i, h1, h2 with
    | 0, h1, h2 => simp at h1 h2; subst h1 h2; exact ⟨hc.cell 1 _ rfl, HN.out.nums.1, hc.lt⟩
    | 1, h1, h2 => simp at h1 h2; subst h1 h2; exact ⟨hc.cell 2 _ rfl, HN.out.nums.2.1, hc.lt⟩
    | 2, h1, h2 => simp at h1 h2; subst h1 h2; exact ⟨hc.cell 3 _ rfl, HN.out.nums.2.2.1, hc.lt⟩
    | 3, h1, h2 => simp at h1 h2; subst h1 h2; exact ⟨hc.cell 4 _ rfl, HN.out.nums.2.2.2.1, hc.lt⟩
    | 4, h1, h2 => simp at h1 h2; subst h1 h2; exact ⟨hc.cell 5 _ rfl, HN.out.nums.2.2.2.2.1, hc.lt⟩
    | 5, h1, h2 => simp at h1 h2; subst h1 h2; exact ⟨hc.cell 6 _ rfl, HN.out.nums.2.2.2.2.2, hc.lt⟩
    | n + 6, h1, h2 => simp at h1)
  have HE := Lib.hid hx
  have p0 := (blk_cells H1.out.bx).1 0
  have p1 := (blk_cells HD.out.bx).1 0
  have p2 := (blk_cells HX.out.bx).1 0
  rw [hx, show v1.drew.alloc (.cells #[.pointer (some ⟨b, o + 1, none⟩), .pointer (some ⟨b, o + 2, none⟩), .pointer (some ⟨b, o + 3, none⟩), .pointer (some ⟨b, o + 4, none⟩), .pointer (some ⟨b, o + 5, none⟩), .pointer (some ⟨b, o + 6, none⟩)] 92) = (v1.alloc (.cells #[.pointer (some ⟨b, o + 1, none⟩), .pointer (some ⟨b, o + 2, none⟩), .pointer (some ⟨b, o + 3, none⟩), .pointer (some ⟨b, o + 4, none⟩), .pointer (some ⟨b, o + 5, none⟩), .pointer (some ⟨b, o + 6, none⟩)] 92)).drew from rfl] at c p2
  clear hx hb hg hc
  go_wp2_with fail
  apply cut_goal
  case h =>
    intro key
    go_region_with (go_at_call 80; refine c.mono ?_; rintro e v2 ⟨rfl, hp, hw⟩)
    all_goals (revert hp hw; revert v2; exact key)
  intro v2 hp hw
  replace hw : Wrote B k x v2 := by rw [HE.out]; exact hw
  have H2 := Lib.hid (HX.out.step hp hw)
  clear p0 p1 p2 c hp hw HD HX HE H1
  have HD := Lib.hid H2.out.drew
  have p0 := (blk_cells H2.out.bx).1 0
  have p1 := (blk_cells HD.out.bx).1 0
  have c := w_op B k b (o + 7) _ m.op v2.drew HD.out.p (HD.out.g.cells.sub 7 _ (fun j v hv => by match j, hv with | 0, hv => exact hv | 1, hv => exact hv | 2, hv => exact hv | 3, hv => exact hv | 4, hv => exact hv | j + 5, hv => simp [PO.vals] at hv)) HN.out.op
  go_wp2_with fail
  apply cut_goal
  case h =>
    intro key
    go_region_with (go_at_call 81; refine c.mono ?_; rintro e v3 ⟨rfl, hp, hw⟩)
    all_goals (revert hp hw; revert v3; exact key)
  intro v3 hp hw
  have H3 := Lib.hid (HD.out.step hp hw)
  clear p0 p1 c hp hw HD H2
  have HD := Lib.hid H3.out.drew
  have p0 := (blk_cells H3.out.bx).1 0
  have p1 := (blk_cells HD.out.bx).1 0
  obtain ⟨cs, T, hgb, hcs⟩ := HD.out.g.blk
  have c := w_errno B k b (o + 12) _ m.code HN.out.code v3.drew HD.out.p HD.out.g.cells.lt hgb hcs
  go_wp2_with fail
  apply cut_goal
  case h =>
    intro key
    go_region_with (go_at_call 82; refine c.mono ?_; rintro e v4 ⟨rfl, hp, hw⟩)
    all_goals (revert hp hw; revert v4; exact key)
  intro v4 hp hw
  have H4 := Lib.hid (HD.out.step hp hw)
  clear p0 p1 c hp hw HD H3 hgb hcs
  have HD := Lib.hid H4.out.drew
  have p0 := (blk_cells H4.out.bx).1 0
  have p1 := (blk_cells HD.out.bx).1 0
  have c := w_result B k b (o + 13) _ m.res v4.drew HD.out.p (HD.out.g.cells.sub 13 _ (fun j v hv => by match j, hv with | 0, hv => exact hv | 1, hv => exact hv | 2, hv => exact hv | j + 3, hv => simp [PR.vals] at hv)) HN.out.res
  go_wp2_with fail
  apply cut_goal
  case h =>
    intro key
    go_region_with (go_at_call 83; refine c.mono ?_; rintro e v5 ⟨rfl, hp, hw⟩)
    all_goals (revert hp hw; revert v5; exact key)
  intro v5 hp hw
  have H5 := Lib.hid (HD.out.step hp hw)
  clear p0 p1 c hp hw HD H4
  have HD := Lib.hid H5.out.drew
  obtain ⟨x, hx⟩ : ∃ x, x = v5.drew.alloc (.cells #[.pointer (some ⟨b, o + 16, none⟩), .pointer (some ⟨b, o + 17, none⟩), .pointer (some ⟨b, o + 18, none⟩), .pointer (some ⟨b, o + 19, none⟩), .pointer (some ⟨b, o + 20, none⟩)] 92) := ⟨_, rfl⟩
  have hb : Below v5.drew.heap.size v5.drew x := by rw [hx]; exact (Below.refl _ _).alloc (Nat.le_refl _) _
  have hg : x.heap[v5.drew.heap.size]? = some (.cells #[.pointer (some ⟨b, o + 16, none⟩), .pointer (some ⟨b, o + 17, none⟩), .pointer (some ⟨b, o + 18, none⟩), .pointer (some ⟨b, o + 19, none⟩), .pointer (some ⟨b, o + 20, none⟩)] 92 (0, 0)) := by rw [hx]; exact heap_alloc_new v5.drew _
  have HX := Lib.hid (HD.out.below hb)
  have hc := HX.out.g.cells
  have c := w_nums B k v5.drew.heap.size _ [(b, o + 16), (b, o + 17), (b, o + 18), (b, o + 19), (b, o + 20)] [m.grant, m.term, m.index, m.prev, m.commit] x HX.out.p rfl (by simp) hg (fun i p n h1 h2 => by
    match i, h1, h2 with
    | 0, h1, h2 => simp at h1 h2; subst h1 h2; exact ⟨hc.cell 16 _ rfl, HN.out.more.1, hc.lt⟩
    | 1, h1, h2 => simp at h1 h2; subst h1 h2; exact ⟨hc.cell 17 _ rfl, HN.out.more.2.1, hc.lt⟩
    | 2, h1, h2 => simp at h1 h2; subst h1 h2; exact ⟨hc.cell 18 _ rfl, HN.out.more.2.2.1, hc.lt⟩
    | 3, h1, h2 => simp at h1 h2; subst h1 h2; exact ⟨hc.cell 19 _ rfl, HN.out.more.2.2.2.1, hc.lt⟩
    | 4, h1, h2 => simp at h1 h2; subst h1 h2; exact ⟨hc.cell 20 _ rfl, HN.out.more.2.2.2.2, hc.lt⟩
    | n + 5, h1, h2 => simp at h1)
  have HE := Lib.hid hx
  have p0 := (blk_cells H5.out.bx).1 0
  have p1 := (blk_cells HD.out.bx).1 0
  have p2 := (blk_cells HX.out.bx).1 0
  rw [hx, show v5.drew.alloc (.cells #[.pointer (some ⟨b, o + 16, none⟩), .pointer (some ⟨b, o + 17, none⟩), .pointer (some ⟨b, o + 18, none⟩), .pointer (some ⟨b, o + 19, none⟩), .pointer (some ⟨b, o + 20, none⟩)] 92) = (v5.alloc (.cells #[.pointer (some ⟨b, o + 16, none⟩), .pointer (some ⟨b, o + 17, none⟩), .pointer (some ⟨b, o + 18, none⟩), .pointer (some ⟨b, o + 19, none⟩), .pointer (some ⟨b, o + 20, none⟩)] 92)).drew from rfl] at c p2
  clear hx hb hg hc
  go_wp2_with fail
  apply cut_goal
  case h =>
    intro key
    go_region_with (go_at_call 80; refine c.mono ?_; rintro e v6 ⟨rfl, hp, hw⟩)
    all_goals (revert hp hw; revert v6; exact key)
  intro v6 hp hw
  replace hw : Wrote B k x v6 := by rw [HE.out]; exact hw
  have H6 := Lib.hid (HX.out.step hp hw)
  clear p0 p1 p2 c hp hw HD HX HE H5
  have HD := Lib.hid H6.out.drew
  have p0 := (blk_cells H6.out.bx).1 0
  have p1 := (blk_cells HD.out.bx).1 0
  have hm := metw_flag
  have hv := nilw_flag
  have c := wr_flag B k b (o + 21) _ m.granted  v6.drew HD.out.p (HD.out.g.cells.cell 21 _ rfl)
  go_wp2_with fail
  apply cut_goal
  case h =>
    intro key
    go_region_with (go_at_call 146; refine c.mono ?_; rintro e v7 ⟨rfl, hp, hw⟩)
    all_goals (revert hp hw; revert v7; exact key)
  intro v7 hp hw
  have H7 := Lib.hid (HD.out.step hp hw)
  clear p0 p1 c hp hw HD H6 hm hv
  have HD := Lib.hid H7.out.drew
  have p0 := (blk_cells H7.out.bx).1 0
  have p1 := (blk_cells HD.out.bx).1 0
  have c := w_list_entry B k b (o + 22) lE pb AE _ m.entries v7.drew HD.out.p HD.out.g.cells.lt HD.out.g.cells.lw (HD.out.g.cells.cell 22 _ rfl) HD.out.g.lens.1 HD.out.g.ents HD.out.bx
  go_wp2_with fail
  apply cut_goal
  case h =>
    intro key
    go_region_with (go_at_call 84; refine c.mono ?_; rintro e v8 ⟨rfl, hp, hw⟩)
    all_goals (revert hp hw; revert v8; exact key)
  intro v8 hp hw
  have H8 := Lib.hid (HD.out.step hp hw)
  clear p0 p1 c hp hw HD H7
  have HD := Lib.hid H8.out.drew
  have p0 := (blk_cells H8.out.bx).1 0
  have p1 := (blk_cells HD.out.bx).1 0
  have c := w_list_int B k b (o + 23) lL AL _ m.list v8.drew HD.out.p HD.out.g.cells.lt HD.out.g.cells.lw (HD.out.g.cells.cell 23 _ rfl) HD.out.g.lens.2.1 HD.out.g.ints
  go_wp2_with fail
  apply cut_goal
  case h =>
    intro key
    go_region_with (go_at_call 87; refine c.mono ?_; rintro e v9 ⟨rfl, hp, hw⟩)
    all_goals (revert hp hw; revert v9; exact key)
  intro v9 hp hw
  have H9 := Lib.hid (HD.out.step hp hw)
  clear p0 p1 c hp hw HD H8
  have HD := Lib.hid H9.out.drew
  have p0 := (blk_cells H9.out.bx).1 0
  have p1 := (blk_cells HD.out.bx).1 0
  have hm := metw_text
  have hv := nilw_text
  have c := wr_text B k b (o + 24) _ m.state  v9.drew HD.out.p (HD.out.g.cells.cell 24 _ rfl)
  go_wp2_with fail
  apply cut_goal
  case h =>
    intro key
    go_region_with (go_at_call 151; refine c.mono ?_; rintro e v10 ⟨rfl, hp, hw⟩)
    all_goals (revert hp hw; revert v10; exact key)
  intro v10 hp hw
  have H10 := Lib.hid (HD.out.step hp hw)
  clear p0 p1 c hp hw HD H9 hm hv
  have HD := Lib.hid H10.out.drew
  have p0 := (blk_cells H10.out.bx).1 0
  have p1 := (blk_cells HD.out.bx).1 0
  have hm := metw_num
  have hv := nilw_num
  have c := wr_num B k b (o + 25) _ m.part HN.out.part v10.drew HD.out.p (HD.out.g.cells.cell 25 _ rfl)
  go_wp2_with fail
  apply cut_goal
  case h =>
    intro key
    go_region_with (go_at_call 149; refine c.mono ?_; rintro e v11 ⟨rfl, hp, hw⟩)
    all_goals (revert hp hw; revert v11; exact key)
  intro v11 hp hw
  have H11 := Lib.hid (HD.out.step hp hw)
  clear p0 p1 c hp hw HD H10 hm hv
  have HD := Lib.hid H11.out.drew
  have p0 := (blk_cells H11.out.bx).1 0
  have p1 := (blk_cells HD.out.bx).1 0
  have hm := metw_flag
  have hv := nilw_flag
  have c := wr_flag B k b (o + 26) _ m.last  v11.drew HD.out.p (HD.out.g.cells.cell 26 _ rfl)
  go_wp2_with fail
  apply cut_goal
  case h =>
    intro key
    go_region_with (go_at_call 146; refine c.mono ?_; rintro e v12 ⟨rfl, hp, hw⟩)
    all_goals (revert hp hw; revert v12; exact key)
  intro v12 hp hw
  have H12 := Lib.hid (HD.out.step hp hw)
  clear p0 p1 c hp hw HD H11 hm hv
  have HD := Lib.hid H12.out.drew
  have p0 := (blk_cells H12.out.bx).1 0
  have p1 := (blk_cells HD.out.bx).1 0
  have c := w_list_pair B k b (o + 27) lP pb AP _ m.pairs v12.drew HD.out.p HD.out.g.cells.lt HD.out.g.cells.lw (HD.out.g.cells.cell 27 _ rfl) HD.out.g.lens.2.2.1 HD.out.g.prs HD.out.bx
  go_wp2_with fail
  apply cut_goal
  case h =>
    intro key
    go_region_with (go_at_call 88; refine c.mono ?_; rintro e v13 ⟨rfl, hp, hw⟩)
    all_goals (revert hp hw; revert v13; exact key)
  intro v13 hp hw
  have H13 := Lib.hid (HD.out.step hp hw)
  clear p0 p1 c hp hw HD H12
  have HD := Lib.hid H13.out.drew
  have p0 := (blk_cells H13.out.bx).1 0
  have p1 := (blk_cells HD.out.bx).1 0
  have c := w_list_last B k b (o + 28) lX pb AX _ m.lasts v13.drew HD.out.p HD.out.g.cells.lt HD.out.g.cells.lw (HD.out.g.cells.cell 28 _ rfl) HD.out.g.lens.2.2.2 HD.out.g.lsts HD.out.bx
  go_wp2_with fail
  apply cut_goal
  case h =>
    intro key
    go_region_with (go_at_call 91; refine c.mono ?_; rintro e v14 ⟨rfl, hp, hw⟩)
    all_goals (revert hp hw; revert v14; exact key)
  intro v14 hp hw
  have H14 := Lib.hid (HD.out.step hp hw)
  clear p0 p1 c hp hw HD H13
  have HD := Lib.hid H14.out.drew
  have p0 := (blk_cells H14.out.bx).1 0
  have p1 := (blk_cells HD.out.bx).1 0
  have c := w_command B k b (o + 29) _ m.cmd v14.drew HD.out.p (HD.out.g.cells.sub 29 _ (fun j v hv => by match j, hv with | 0, hv => exact hv | 1, hv => exact hv | 2, hv => exact hv | 3, hv => exact hv | j + 4, hv => simp [CM.vals] at hv)) HN.out.cmd
  go_wp2_with fail
  apply cut_goal
  case h =>
    intro key
    go_region_with (go_at_call 93; refine c.mono ?_; rintro e v15 ⟨rfl, hp, hw⟩)
    all_goals (revert hp hw; revert v15; exact key)
  intro v15 hp hw
  have H15 := Lib.hid (HD.out.step hp hw)
  clear p0 p1 c hp hw HD H14
  have HF := Lib.hid (And.intro H15.out.p H15.out.wr)
  clear H15
  go_wp2_with fail
  go_end0
  exact Lib.hid ⟨rfl, HF.out.1, HF.out.2⟩
end Go.Proofs.Ytblbcoknefgcaaa
