/-
  A message as bytes: the program's. No statement is proved here. No condition.
-/
import Derived.Test.YtblbcoknefgcaaaMWrZ
namespace Go.Proofs.Ytblbcoknefgcaaa
open Go.RowKit

/-- a message's ranges, its lists' too -/
structure MG.fit (m : MG) : Prop where
  ok : m.ok
  lens : m.entries.length < 2 ^ 60 ∧ m.list.length < 2 ^ 60 ∧ m.pairs.length < 2 ^ 60 ∧ m.lasts.length < 2 ^ 60
  ents : ∀ e ∈ m.entries, e.ok ∧ e.list.length < 2 ^ 60
  ints : ∀ n ∈ m.list, I64 n
  lsts : ∀ c ∈ m.lasts, c.ok
theorem ents_at {w : World} {B c : Nat} {A : Option Addr} {l : List EN} (h : EntN w Any (.slice A l.length c) l) (hB : w.heap.size ≤ B) (hok : ∀ e ∈ l, e.ok ∧ e.list.length < 2 ^ 60) :
    ∀ (i : Nat) (n : EN), l[i]? = some n → ∃ g q C l2, A = some ⟨g, q, none⟩ ∧ CellsAt w B g (q + i * 4) (n.vals (.slice C n.list.length l2)) ∧ n.ok ∧ EnL w B n C := by
  intro i n hi
  obtain ⟨b, o, n', k, A', c', hv, -, hb, hl, c0, c1, c2, c3⟩ := h.cell hi
  injection hv with v1
  have hm := hok n (List.mem_of_getElem? hi)
  refine ⟨b, o, A', c', v1, ⟨by omega, hb, fun j v hj => ?_⟩, hm.1, hm.2, fun j x hx => ?_⟩
  · match j, hj with
    | 0, hj => have := Option.some.inj hj; subst this; exact c0
    | 1, hj => have := Option.some.inj hj; subst this; exact c1
    | 2, hj => have := Option.some.inj hj; subst this; exact c2
    | 3, hj => have := Option.some.inj hj; subst this; exact c3
    | j + 4, hj => simp [EN.vals] at hj
  · obtain ⟨g1, o1, n1, k1, hv, -, hg1, hc1⟩ := hl.cell hx
    injection hv with e1
    exact ⟨g1, o1, e1, by simpa [inR] using hc1 0 _ rfl, by omega⟩
theorem ints_at {w : World} {B c : Nat} {A : Option Addr} {l : List Int} (h : inR.N w Any (.slice A l.length c) l) (hB : w.heap.size ≤ B) (hok : ∀ n ∈ l, I64 n) :
    ∀ (i : Nat) (n : Int), l[i]? = some n → ∃ g q, A = some ⟨g, q, none⟩ ∧ w.cell? ⟨g, q + i, none⟩ = some (.int .i64 n) ∧ I64 n ∧ g < B := by
  intro i n hi
  obtain ⟨g1, o1, n1, k1, hv, -, hg1, hc1⟩ := h.cell hi
  injection hv with e1
  exact ⟨g1, o1, e1, by simpa [inR] using hc1 0 _ rfl, hok n (List.mem_of_getElem? hi), by omega⟩
theorem prs_at {w : World} {B c : Nat} {A : Option Addr} {l : List PP} (h : pairR.N w Any (.slice A l.length c) l) (hB : w.heap.size ≤ B) :
    ∀ (i : Nat) (n : PP), l[i]? = some n → ∃ g q, A = some ⟨g, q, none⟩ ∧ CellsAt w B g (q + i * 2) n.vals ∧ n.ok := by
  intro i n hi
  obtain ⟨g1, o1, n1, k1, hv, -, hg1, hc1⟩ := h.cell hi
  injection hv with e1
  exact ⟨g1, o1, e1, ⟨by omega, hg1, fun j v hj => hc1 j v hj⟩, trivial⟩
theorem lsts_at {w : World} {B c : Nat} {A : Option Addr} {l : List PL} (h : lastR.N w Any (.slice A l.length c) l) (hB : w.heap.size ≤ B) (hok : ∀ c ∈ l, c.ok) :
    ∀ (i : Nat) (n : PL), l[i]? = some n → ∃ g q, A = some ⟨g, q, none⟩ ∧ CellsAt w B g (q + i * 5) n.vals ∧ n.ok := by
  intro i n hi
  obtain ⟨g1, o1, n1, k1, hv, -, hg1, hc1⟩ := h.cell hi
  injection hv with e1
  exact ⟨g1, o1, e1, ⟨by omega, hg1, fun j v hj => hc1 j v hj⟩, hok n (List.mem_of_getElem? hi)⟩
/-- may a message be of this kind -/
def kindB (k : Int) : Bool := decide (1 ≤ k) && decide (k ≤ 19)
theorem iskind_any (k : Int) (hk : 0 ≤ k ∧ k ≤ 255) (w : World) : Calls Try.prog 38 #[.int .u8 k] w fun e w' => e = .returned (.bool (kindB k)) ∧ w = w' := by
  obtain ⟨g, hg⟩ : ∃ g, g = kindB k := ⟨_, rfl⟩
  have HG := Lib.hid hg
  rw [← hg]
  clear hg
  go_enter Try.func38, Try.ntmps38
  go_wp2_with fail
  all_goals
    go_ret
    refine ⟨?_, rfl⟩
    rw [HG.out]
    refine congrArg (fun b => Ending.returned (Value.bool b)) ?_
    rw [Bool.eq_iff_iff]
    simp [kindB] at *
    try omega
/-- what Encode answers -/
structure EncP (w w' : World) (m : MG) (e : Ending) : Prop where
  bel : Below w.heap.size w w'
  no : kindB m.kind = false → e = .returned (.tuple #[.slice none 0 0, .int .i64 1])
  full : kindB m.kind = true → (m.wr ([], false)).2 = true → e = .returned (.tuple #[.slice none 0 0, .int .i64 40])
  yes : kindB m.kind = true → (m.wr ([], false)).2 = false → ∃ v, e = .returned (.tuple #[v, .int .i64 0]) ∧ w'.ownsRow w.heap.size 5 1 v (m.wr ([], false)).1.length (BS (m.wr ([], false)).1) ∧ (m.wr ([], false)).1.length ≤ 8192
set_option maxHeartbeats 8000000 in
set_option maxRecDepth 100000 in
theorem encode_any (m : MG) (vE vL vP vX : Value) (w : World) (h : MsgL w Any m vE vL vP vX) (hf : m.fit) :
    Calls Try.prog 15 #[.agg (m.cells vE vL vP vX)] w fun e w' => EncP w w' m e := by
  obtain ⟨AE, cE, rfl, -, -⟩ := h.e.slice
  obtain ⟨AL, cL, rfl, -, -⟩ := h.l.slice
  obtain ⟨AP, cP, rfl, -, -⟩ := h.p.slice
  obtain ⟨AX, cX, rfl, -, -⟩ := h.x.slice
  obtain ⟨cs, hcs⟩ : ∃ cs, cs = m.cells (.slice AE m.entries.length cE) (.slice AL m.list.length cL) (.slice AP m.pairs.length cP) (.slice AX m.lasts.length cX) := ⟨_, rfl⟩
  obtain ⟨x, hx⟩ : ∃ x, x = w.alloc (.cells cs 38) := ⟨_, rfl⟩
  have hbx : Below w.heap.size w x := by rw [hx]; exact (Below.refl _ _).alloc (Nat.le_refl _) _
  obtain ⟨b, hb⟩ : ∃ b, b = w.heap.size := ⟨_, rfl⟩
  have hbk : x.heap[b]? = some (.cells cs 38 (0, 0)) := by rw [hx, hb]; exact heap_alloc_new w _
  have hxs : x.heap.size = b + 1 := by rw [hx, hb]; simp
  have hB : w.heap.size ≤ b + 1 := by omega
  have hg : MgAt x (b + 1) b 0 m AE AL AP AX cE cL cP cX := by
    have hw : Wrote (b + 1) (b + 1) w x := Wrote.of_below hbx
    refine ⟨⟨by omega, by omega, fun j v hj => ?_⟩, ⟨cs, _, hbk, by rw [hcs]; rfl⟩, hf.lens, fun i n hi => ?_, fun i n hi => ?_, fun i n hi => ?_, fun i n hi => ?_⟩
    · rw [Nat.zero_add, (blk_cells hbk).1 j, hcs, ← Array.getElem?_toList]
      exact hj
    · obtain ⟨g, q, C, l2, e1, e2, e3, e4⟩ := ents_at h.e hB hf.ents i n hi
      exact ⟨g, q, C, l2, e1, e2.below hbx, e3, e4.wrote hw (Nat.le_refl _)⟩
    · obtain ⟨g, q, e1, e2, e3, e4⟩ := ints_at h.l hB hf.ints i n hi
      exact ⟨g, q, e1, (hbx.cell (p := ⟨g, q + i, none⟩) (World.block_lt_of_cell? w _ e2)).trans e2, e3, e4⟩
    · obtain ⟨g, q, e1, e2, e3⟩ := prs_at h.p hB i n hi
      exact ⟨g, q, e1, e2.below hbx, e3⟩
    · obtain ⟨g, q, e1, e2, e3⟩ := lsts_at h.x hB hf.lsts i n hi
      exact ⟨g, q, e1, e2.below hbx, e3⟩
  have hc0 : x.cell? ⟨b, 0, none⟩ = some (.int .u8 m.kind) := hg.cells.cell 0 _ rfl
  have hk := hf.ok.kind
  have HG := Lib.hid (And.intro hg (And.intro hbx hxs))
  have HF := Lib.hid hf
  have HX := Lib.hid (And.intro hx hb)
  rw [← hcs]
  clear h hf hx hb hbx hbk hxs hB hg hcs
  go_enter Try.func15, Try.ntmps15
  go_upto_region 1 with fail
  rw [← HX.out.1, ← HX.out.2]
  clear HX
  have cK := iskind_any m.kind hk x
  have hbel : Hid (Below w.heap.size w x) := Lib.hid HG.out.2.1
  cases hkb : kindB m.kind
  · rw [hkb] at cK
    have HE : Hid (EncP w x m (.returned (.tuple #[.slice none 0 0, .int .i64 1]))) := Lib.hid ⟨hbel.out, fun _ => rfl, (fun h => by rw [hkb] at h; cases h), (fun h => by rw [hkb] at h; cases h)⟩
    clear hkb hk
    go_wp2_with fail
    refine cK.mono ?_
    rintro e w' ⟨rfl, rfl⟩
    clear cK
    go_wp2_with fail
    go_ret2
    exact HE.out
  rw [hkb] at cK
  have HKB := Lib.hid hkb
  clear hkb hk
  go_upto_region 1 with fail
  go_wp2_with fail
  refine cK.mono ?_
  rintro e w' ⟨rfl, rfl⟩
  clear cK
  go_upto_region 4 with fail
  -- the writer's own block
  obtain ⟨y, hy⟩ : ∃ y, y = x.alloc (.cells #[.slice none 0 0, .bool false] 70) := ⟨_, rfl⟩
  have hby : Below x.heap.size x y := by rw [hy]; exact (Below.refl _ _).alloc (Nat.le_refl _) _
  have hyb : y.heap[b + 1]? = some (.cells #[.slice none 0 0, .bool false] 70 (0, 0)) := by rw [hy, ← HG.out.2.2]; exact heap_alloc_new x _
  have hp : WrP y (b + 1) (b + 1) ([], false) := ⟨⟨.slice none 0 0, hyb, World.ownsRow_nil y (b + 1) _ _⟩, Nat.zero_le _, Nat.le_refl _, by have := lt_of_heap hyb; omega⟩
  have hg2 : MgAt y (b + 1) b 0 m AE AL AP AX cE cL cP cX := HG.out.1.wrote (k := b + 1) (Wrote.of_below hby) (Nat.le_refl _)
  have cM := w_message (b + 1) (b + 1) b 0 ([], false) m AE AL AP AX cE cL cP cX y hp hg2 HF.out.ok
  have HY := Lib.hid (And.intro hy hby)
  rw [← hy, HG.out.2.2]
  clear hy hby hyb hp hg2
  go_wp2_with fail
  refine cM.mono ?_
  intro e z hz
  clear cM
  obtain ⟨rfl, hp, hw⟩ := hz.out
  have hbel2 : Below w.heap.size w z := by
    have h1 := hbel.out.trans (Joins.below_le HY.out.2 hbel.out.size)
    have h2 := hw.below (Nat.le_refl _) (by have := HY.out.2.size; have := HG.out.2.2; omega)
    exact h1.trans (Joins.below_le h2 (by have := HY.out.2.size; have := HG.out.2.2; have := hbel.out.size; omega))
  obtain ⟨v, hk, ho⟩ := hp.ex
  have z0 : z.cell? ⟨b + 1, 0, none⟩ = some v := (blk_cells hk).1 0
  have z1 : z.cell? ⟨b + 1, 1, none⟩ = some (.bool (m.wr ([], false)).2) := (blk_cells hk).1 1
  have hoB : z.ownsRow w.heap.size 5 1 v (m.wr ([], false)).1.length (BS (m.wr ([], false)).1) := own_base ho (by have := hbel.out.size; have := HG.out.2.2; omega)
  have HP := Lib.hid (And.intro hoB (And.intro hp.len hbel2))
  clear hz hp hw hk ho hoB hbel2 hbel HY HG HF
  cases hfull : (m.wr ([], false)).2
  · rw [hfull] at z1
    have HE : Hid (EncP w z m (.returned (.tuple #[v, .int .i64 0]))) := Lib.hid ⟨HP.out.2.2, (fun h => by rw [HKB.out] at h; cases h), (fun _ h => by rw [hfull] at h; cases h), fun _ _ => ⟨v, rfl, HP.out.1, HP.out.2.1⟩⟩
    clear hfull HP
    go_wp2_with fail
    go_ret2
    exact HE.out
  · rw [hfull] at z1
    have HE : Hid (EncP w z m (.returned (.tuple #[.slice none 0 0, .int .i64 40]))) := Lib.hid ⟨HP.out.2.2, (fun h => by rw [HKB.out] at h; cases h), fun _ _ => rfl, (fun _ h => by rw [hfull] at h; cases h)⟩
    clear hfull HP
    go_wp2_with fail
    go_ret2
    exact HE.out
end Go.Proofs.Ytblbcoknefgcaaa
