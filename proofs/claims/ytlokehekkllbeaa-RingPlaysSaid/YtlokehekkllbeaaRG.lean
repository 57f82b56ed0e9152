/-
  RGather: The program's ring: gather. No statement is proved here. No condition.
  RGatherW: The program's ring: gather, walked. No statement is proved here. No condition.
  ROpen: The program's ring: Open. No statement is proved here. No condition.
-/
import Derived.Test.YtlokehekkllbeaaRF
namespace Go.Proofs.Ytlokehekkllbeaa
open Go.RowKit

theorem info_BB : (Try.prog.info? 39).map (fun i => (i.zero, i.size, i.bytes)) = some (some (.slice none 0 0), 1, 24) := by kernel_rfl
theorem info_U8 : (Try.prog.info? 5).map (fun i => (i.zero, i.size, i.bytes)) = some (some (.int .u8 0), 1, 1) := by kernel_rfl

/-- the piece that is asked for is there -/
theorem pcAt_there {S : List (List UInt8)} {n : Nat} {o : Option Pc} (hc : 0 < S.length) (hn : 0 < n) (ho : (thereTo S S.length)[n % S.length]? = some o) : pcAt S n = if numO o = n then o else none := by
  have hm := Nat.mod_lt n hc
  rw [thereTo_get _ _ _ hm, if_pos hm] at ho
  have ho := Option.some.inj ho
  unfold pcAt
  rw [ho]
  cases o with
  | none => rw [if_neg (by show ¬ 0 = n; omega)]; rfl
  | some p =>
    by_cases h : numO (some p) = n
    · rw [if_pos h]
      exact Option.filter_eq_some_iff.2 ⟨rfl, beq_iff_eq.2 h⟩
    · rw [if_neg h]
      exact Option.filter_eq_none_iff.2 fun q hq => by obtain rfl := Option.some.inj hq; exact fun hh => h (eq_of_beq hh)
/-- a row of as many pieces as there are sectors goes no further -/
theorem run_full {S : List (List UInt8)} {n : Nat} (hc : 0 < S.length) (h : (run S S.length n).length = S.length) : pcAt S (n + S.length) = none := by
  have h0 : (run S S.length n)[0]? = some ((run S S.length n)[0]'(by omega)) := List.getElem?_eq_getElem _
  have hp := run_get S S.length n 0 _ h0
  have hn := pcAt_num hp
  rcases hq : pcAt S (n + S.length) with _ | q
  · rfl
  · have h1 := pcAt_of hq
    have h2 := pcAt_of hp
    rw [Nat.add_mod_right] at h1
    rw [Nat.add_zero] at h2
    rw [h1] at h2
    have h3 := pcAt_num hq
    have h4 := Option.some.inj h2
    rw [← h4] at hn
    omega

theorem rest_length (ps : List Pc) (h : ∀ p ∈ ps, p.data.length ≤ 501) : ∀ now : List UInt8, (rest now ps).length ≤ now.length + 501 * ps.length := by
  induction ps with
  | nil => intro now; exact Nat.le_refl _
  | cons p ps ih =>
    intro now
    have hp := h p (by simp)
    have ih' := ih fun q hq => h q (by simp [hq])
    rw [rest, List.length_cons]
    split
    · have := ih' []
      rw [List.length_nil] at this
      omega
    · have := ih' (now ++ p.data)
      rw [List.length_append] at this
      omega
theorem whole_length (ps : List Pc) : ∀ now : List UInt8, (whole now ps).length ≤ ps.length := by
  induction ps with
  | nil => intro now; exact Nat.le_refl _
  | cons p ps ih =>
    intro now
    rw [whole, List.length_cons]
    split
    · rw [List.length_cons]; have := ih []; omega
    · have := ih (now ++ p.data); omega

/-- the element's type of a block of bytes -/
def U8B (w : World) (x : Nat) : Prop := ∃ C, w.heap[x]? = some (.cells C 5 (0, 0))
/-- what gather has in hand: the records L5, what is open L6, the last piece's number -/
structure GSt (w wr : World) (r q : Nat) (R : RG) (S : List (List UInt8)) (N : Nat → Prop) (a b g n : Nat) (v5 v6 : Value) (n5 n6 : Nat) (xs : List Value) (L5 : List (List UInt8)) (L6 : List UInt8) (last : Nat) : Prop where
  run : RunSt wr N a b g (thereTo S S.length) n
  row : wr.ownsRow w.heap.size 5 1 v6 n6 (BS L6)
  rows : wr.ownsRow w.heap.size 39 1 v5 n5 xs
  els : Els wr (fun x => w.heap.size ≤ x ∧ v6.ownBlock ≠ some x ∧ U8B wr x) xs L5
  ring : RgAt wr r q { R with last := last }
  kept : Kept w wr (fun x => x = r)

section
variable {w wr w' : World} {r q : Nat} {R : RG} {S : List (List UInt8)} {N : Nat → Prop} {a b g n : Nat} {v5 v6 : Value} {n5 n6 : Nat} {xs : List Value} {L5 : List (List UInt8)} {L6 : List UInt8} {last : Nat}
theorem GSt.step (h : GSt w wr r q R S N a b g n v5 v6 n5 n6 xs L5 L6 last) (ha : w.heap.size ≤ a) (hk : Kept wr w' (fun x => x = a)) {n' : Nat} (hr : RunSt w' N a b g (thereTo S S.length) n') : GSt w w' r q R S N a b g n' v5 v6 n5 n6 xs L5 L6 last := by
  have hb : ∀ x, x < wr.heap.size → x ≠ a → w'.heap[x]? = wr.heap[x]? := fun x hx hn => hk.block x hx hn
  refine ⟨hr, row_same h.row fun x hx => hb x (h.row.lt x hx).2 (row_not h.run.ca h.row (by decide) x hx), row_same h.rows fun x hx => hb x (h.rows.lt x hx).2 (row_not h.run.ca h.rows (by decide) x hx), ?_, h.ring.kept (hb r h.ring.lt ?_), h.kept.trans hk (fun x hx => .inr (by rw [hx]; exact ha))⟩
  · have ht : ∀ x, U8B wr x → x ≠ a := by
      rintro x ⟨C, hC⟩ rfl
      have := hC.symm.trans h.run.ca
      injection this with this
      injection this with _ this
      exact absurd this (by decide)
    exact h.els.kept (fun x hx hl => ⟨hx.1, hx.2.1, by obtain ⟨C, hC⟩ := hx.2.2; exact ⟨C, (hb x hl (ht x hx.2.2)).trans hC⟩⟩) hk.size (fun x hx hl => hb x hl (ht x hx.2.2))
  · rintro rfl
    have := h.ring.symm.trans h.run.ca
    injection this with this
    injection this with _ this
    exact absurd this (by decide)
theorem GSt.more (h : GSt w wr r q R S N a b g n v5 v6 n5 n6 xs L5 L6 last) (_hsz : w.heap.size ≤ wr.heap.size) (hNl : ∀ x, N x → x < w.heap.size) {v6' : Value} {n6' : Nat} {d : List UInt8} (ho : w'.ownsRow w.heap.size 5 1 v6' n6' (BS (L6 ++ d))) (hg : wr.grownBy w' v6.ownBlock) (hat : v6'.ownBlock = v6.ownBlock ∨ v6'.ownBlock = some wr.heap.size) : GSt w w' r q R S N a b g n v5 v6' n5 n6' xs L5 (L6 ++ d) last := by
  have hb : ∀ x, x < wr.heap.size → v6.ownBlock ≠ some x → w'.heap[x]? = wr.heap[x]? := fun x hx hn => hg.block x hx (fun e => hn e.symm)
  have hne : ∀ {T : TypeId} {C : Array Value} {x : Nat}, wr.heap[x]? = some (.cells C T (0, 0)) → T ≠ 5 → v6.ownBlock ≠ some x := fun hc hT e => by
    obtain ⟨cur, hcur⟩ := row_type h.row e
    rw [hcur] at hc
    injection hc with hc
    injection hc with _ hc
    exact hT hc.symm
  refine ⟨h.run.kept hg.size fun x hx hh => hb x hx ?_, ho, row_same h.rows fun x hx => hb x (h.rows.lt x hx).2 fun e => rows_apart h.row h.rows (by decide) e hx rfl, h.els.kept (fun x hx hl => ⟨hx.1, ?_, ?_⟩) hg.size (fun x hx hl => hb x hl hx.2.1), h.ring.kept (hb r h.ring.lt (hne h.ring (by decide))), h.kept.trans (Kept.grown (F := fun x => v6.ownBlock = some x) hg (fun _ h => h)) (fun x hx => .inr (h.row.lt x hx).1)⟩
  · rcases hh with rfl | rfl | rfl | hx'
    · exact hne h.run.ca (by decide)
    · exact hne h.run.cb (by decide)
    · obtain ⟨C, hC, -⟩ := h.run.there
      exact hne hC (by decide)
    · intro e
      have := (h.row.lt x e).1
      have := hNl x hx'
      omega
  · rcases hat with h1 | h1
    · rw [h1]; exact hx.2.1
    · rw [h1]; intro e; injection e with e; omega
  · obtain ⟨C, hC⟩ := hx.2.2
    exact ⟨C, (hb x hl hx.2.1).trans hC⟩
/-- behind new memory -/
theorem GSt.grow (h : GSt w wr r q R S N a b g n v5 v6 n5 n6 xs L5 L6 last) (hb : Below wr.heap.size wr w') : GSt w w' r q R S N a b g n v5 v6 n5 n6 xs L5 L6 last :=
  ⟨h.run.kept hb.size fun x hx _ => hb.block x hx, row_same h.row fun x hx => hb.block x (h.row.lt x hx).2, row_same h.rows fun x hx => hb.block x (h.rows.lt x hx).2, h.els.kept (fun x hx hl => ⟨hx.1, hx.2.1, by obtain ⟨C, hC⟩ := hx.2.2; exact ⟨C, (hb.block x hl).trans hC⟩⟩) hb.size (fun x _ hl => hb.block x hl), h.ring.kept (hb.block r h.ring.lt), h.kept.trans (Kept.ofBelow (F := fun x => x = r) hb) (fun _ h => .inl h)⟩
/-- a record is whole: it is told, and the next one begins -/
theorem GSt.push (h : GSt w wr r q R S N a b g n v5 v6 n5 n6 xs L5 L6 last) (hNl : ∀ x, N x → x < w.heap.size) {A : Option Addr} {nn cc : Nat} (hv : v6 = .slice A nn cc) {v5' : Value} {n5' : Nat} (ho : w'.ownsRow w.heap.size 39 1 v5' n5' (xs ++ [v6])) (hg : wr.grownBy w' v5.ownBlock) : GSt w w' r q R S N a b g n v5' (.slice none 0 0) n5' 0 (xs ++ [v6]) (L5 ++ [L6]) [] last := by
  have hb : ∀ x, x < wr.heap.size → v5.ownBlock ≠ some x → w'.heap[x]? = wr.heap[x]? := fun x hx hn => hg.block x hx (fun e => hn e.symm)
  have hne : ∀ {T : TypeId} {C : Array Value} {x : Nat}, wr.heap[x]? = some (.cells C T (0, 0)) → T ≠ 39 → v5.ownBlock ≠ some x := fun hc hT e => by
    obtain ⟨cur, hcur⟩ := row_type h.rows e
    rw [hcur] at hc
    injection hc with hc
    injection hc with _ hc
    exact hT hc.symm
  have hrow : w'.ownsRow w.heap.size 5 1 v6 n6 (BS L6) := row_same h.row fun x hx => hb x (h.row.lt x hx).2 fun e => rows_apart h.rows h.row (by decide) e hx rfl
  refine ⟨h.run.kept hg.size fun x hx hh => hb x hx ?_, World.ownsRow_nil _ _ _ _, ho, ?_, h.ring.kept (hb r h.ring.lt (hne h.ring (by decide))), h.kept.trans (Kept.grown (F := fun x => v5.ownBlock = some x) hg (fun _ h => h)) (fun x hx => .inr (h.rows.lt x hx).1)⟩
  · rcases hh with rfl | rfl | rfl | hx'
    · exact hne h.run.ca (by decide)
    · exact hne h.run.cb (by decide)
    · obtain ⟨C, hC, -⟩ := h.run.there
      exact hne hC (by decide)
    · intro e
      have := (h.rows.lt x e).1
      have := hNl x hx'
      omega
  · have he : Els w' (fun x => w.heap.size ≤ x ∧ (Value.slice none 0 0).ownBlock ≠ some x ∧ U8B w' x) xs L5 := h.els.kept (fun x hx hl => ⟨hx.1, (fun e => by cases e), by
      obtain ⟨C, hC⟩ := hx.2.2
      exact ⟨C, (hb x hl (hne hC (by decide))).trans hC⟩⟩) hg.size (fun x hx hl => hb x hl (by obtain ⟨C, hC⟩ := hx.2.2; exact hne hC (by decide)))
    subst hv
    exact he.snoc (RdN.own hrow (fun x hx => ⟨(hrow.lt x hx).1, (fun e => by cases e), row_type hrow hx⟩))
theorem GSt.noted (h : GSt w wr r q R S N a b g n v5 v6 n5 n6 xs L5 L6 last) (hNr : ∀ x, N x → x ≠ r) (m : Nat) : GSt w (wr.setCell ⟨r, 4, none⟩ (.int .i64 (m : Int))) r q R S N a b g n v5 v6 n5 n6 xs L5 L6 m := by
  have hb : ∀ x, x ≠ r → (wr.setCell ⟨r, 4, none⟩ (.int .i64 (m : Int))).heap[x]? = wr.heap[x]? := fun x hx => set_other hx
  have hne : ∀ {T : TypeId} {C : Array Value} {x : Nat}, wr.heap[x]? = some (.cells C T (0, 0)) → T ≠ 57 → x ≠ r := fun hc hT e => by
    subst e
    have := h.ring
    unfold RgAt at this
    rw [this] at hc
    injection hc with hc
    injection hc with _ hc
    exact hT hc.symm
  refine ⟨h.run.kept (by simp) fun x hx hh => hb x ?_, row_same h.row fun x hx => hb x (row_not h.ring h.row (by decide) x hx), row_same h.rows fun x hx => hb x (row_not h.ring h.rows (by decide) x hx), h.els.kept (fun x hx hl => ⟨hx.1, hx.2.1, ?_⟩) (by simp) (fun x hx _ => hb x ?_), h.ring.last m, h.kept.trans (Kept.setCell wr ⟨r, 4, none⟩ _ (fun x => x = r) rfl) (fun _ h => .inl h)⟩
  · rcases hh with rfl | rfl | rfl | hx'
    · exact hne h.run.ca (by decide)
    · exact hne h.run.cb (by decide)
    · obtain ⟨C, hC, -⟩ := h.run.there
      exact hne hC (by decide)
    · exact hNr x hx'
  · obtain ⟨C, hC⟩ := hx.2.2
    exact ⟨C, (hb x (hne hC (by decide))).trans hC⟩
  · obtain ⟨C, hC⟩ := hx.2.2
    exact hne hC (by decide)
/-- behind a write into a piece of its own -/
theorem GSt.aside (h : GSt w wr r q R S N a b g n v5 v6 n5 n6 xs L5 L6 last) {x0 : Nat} {C : Array Value} (h0 : wr.heap[x0]? = some (.cells C 71 (0, 0))) (hne : x0 ≠ g) (hNx : ∀ x, N x → x ≠ x0) (hx0 : w.heap.size ≤ x0) (hk : Kept wr w' (fun x => x = x0)) : GSt w w' r q R S N a b g n v5 v6 n5 n6 xs L5 L6 last := by
  have hb : ∀ x, x < wr.heap.size → x ≠ x0 → w'.heap[x]? = wr.heap[x]? := fun x hx hn => hk.block x hx hn
  have ht : ∀ {T : TypeId} {C : Array Value} {x : Nat}, wr.heap[x]? = some (.cells C T (0, 0)) → T ≠ 71 → x ≠ x0 := fun hc hT e => by
    subst e
    rw [h0] at hc
    injection hc with hc
    injection hc with _ hc
    exact hT hc.symm
  refine ⟨h.run.kept hk.size fun x hx hh => hb x hx ?_, row_same h.row fun x hx => hb x (h.row.lt x hx).2 (row_not h0 h.row (by decide) x hx), row_same h.rows fun x hx => hb x (h.rows.lt x hx).2 (row_not h0 h.rows (by decide) x hx), h.els.kept (fun x hx hl => ⟨hx.1, hx.2.1, ?_⟩) hk.size (fun x hx hl => hb x hl ?_), h.ring.kept (hb r h.ring.lt (ht h.ring (by decide))), h.kept.trans hk (fun x hx => .inr (by rw [hx]; exact hx0))⟩
  · rcases hh with rfl | rfl | rfl | hx'
    · exact ht h.run.ca (by decide)
    · exact ht h.run.cb (by decide)
    · exact Ne.symm hne
    · exact hNx x hx'
  · obtain ⟨C, hC⟩ := hx.2.2
    exact ⟨C, (hb x hl (ht hC (by decide))).trans hC⟩
  · obtain ⟨C, hC⟩ := hx.2.2
    exact ht hC (by decide)
end
end Go.Proofs.Ytlokehekkllbeaa
namespace Go.Proofs.Ytlokehekkllbeaa
open Go.RowKit

theorem pgnext {w wr : World} {r q : Nat} {R : RG} {S : List (List UInt8)} {N : Nat → Prop} {a b g n : Nat} {v5 v6 : Value} {n5 n6 : Nat} {xs : List Value} {L5 : List (List UInt8)} {L6 : List UInt8} {last : Nat}
    (h : GSt w wr r q R S N a b g n v5 v6 n5 n6 xs L5 L6 last) (ha : w.heap.size ≤ a) (hc : 1 ≤ S.length) (hl : S.length ≤ 65536) (hn : n < 9223372036854775806) :
    Calls Try.prog 53 #[.pointer (some ⟨a, 0, none⟩), .pointer (some ⟨b, 0, none⟩)] wr fun e w' => ∃ o Au nu cu, (thereTo S S.length)[(n + 1) % S.length]? = some o ∧ e = .returned (.tuple #[.agg #[.int .i64 (numO o : Int), .bool (lastO o), .slice Au nu cu], .bool (decide (numO o = n + 1))]) ∧ RdN w' N (.slice Au nu cu) (dataO o) ∧ GSt w w' r q R S N a b g (n + 1) v5 v6 n5 n6 xs L5 L6 last ∧ Kept wr w' (fun x => x = a) := by
  have hL := thereTo_length S S.length
  have hm : (n + 1) % S.length < S.length := Nat.mod_lt _ (by omega)
  have ho := thereTo_get S S.length _ hm
  refine (prun1_any h.run (by omega) (by omega) hn _ (by rw [hL]; exact ho)).mono ?_
  rintro e w' ⟨Au, nu, cu, he, hr, hrs, hk⟩
  exact ⟨_, Au, nu, cu, ho, he, hr, h.step ha hk hrs, hk⟩

/-- what gather's loop keeps, k pieces being gathered -/
def GInv (w wr : World) (r q : Nat) (R : RG) (S : List (List UInt8)) (N : Nat → Prop) (a b g k : Nat) (v5 v6 v8 v9 : Value) : Prop :=
  ∃ (g8 : Nat) (o : Option Pc) (Au : Option Addr) (nu cu : Nat) (xs : List Value) (n5 n6 : Nat), v8 = .pointer (some ⟨g8, 0, none⟩) ∧ v9 = .bool (decide (numO o = R.base + k + 1)) ∧
    (thereTo S S.length)[(R.base + k + 1) % S.length]? = some o ∧ wr.heap[g8]? = some (.cells #[.int .i64 (numO o : Int), .bool (lastO o), .slice Au nu cu] 71 (0, 0)) ∧ RdN wr N (.slice Au nu cu) (dataO o) ∧
    (run S k (R.base + 1)).length = k ∧ GSt w wr r q R S N a b g (R.base + k + 1) v5 v6 n5 n6 xs (whole [] (run S k (R.base + 1))) (rest [] (run S k (R.base + 1))) (lastIn R.base (run S k (R.base + 1)))

set_option maxHeartbeats 4000000 in
set_option maxRecDepth 100000 in
theorem pgather_any {w : World} {r q : Nat} {R : RG} {S : List (List UInt8)} {N : Nat → Prop} {g : Nat} (h : RgAt w r q R) (hR : R.fine) (hlast : R.last = R.base) (hS : S.length = R.count) (ht : ThereAt w N g (thereTo S S.length)) (hN : ∀ x, N x → x < w.heap.size ∧ x ≠ r) :
    Calls Try.prog 23 #[.pointer (some ⟨r, 0, none⟩), .slice (some ⟨g, 0, none⟩) R.count R.count] w fun e w' => ∃ v, e = .returned v ∧ LLN w' (fun x => w.heap.size ≤ x ∧ ¬ U8B w' x) (fun x => w.heap.size ≤ x ∧ U8B w' x) v (whole [] (run S S.length (R.base + 1))) ∧ RgAt w' r q { R with last := lastIn R.base (run S S.length (R.base + 1)) } ∧ Kept w w' (fun x => x = r) := by
  have i1 := hR.room
  have i2 := hR.pos
  have i3 := hR.most
  have i4 := hR.up
  have hrun := prun_any g N (thereTo S S.length) R.base w ht (fun x hx => (hN x hx).1)
  rw [thereTo_length, hS] at hrun
  have c3 := h.c3
  have lr := h.lt
  have H := Lib.hid h
  have HT := Lib.hid ht
  have HN := Lib.hid hN
  have HLAST := Lib.hid hlast
  have hgl : g < w.heap.size := by obtain ⟨C, h1, -⟩ := ht; exact (Array.getElem?_eq_some_iff.1 h1).1
  have HGL := Lib.hid hgl
  have HS := Lib.hid hS
  have hbase : R.base ≤ 4611686018427387904 := by omega
  have hSc : 1 ≤ S.length := by omega
  have hSl : S.length ≤ 65536 := by omega
  clear h ht hN hR hlast hS hgl
  go_enter Try.func23, Try.ntmps23
  go_wp2_with fail
  refine hrun.mono ?_
  rintro e w1 ⟨a, b, rfl, hst, la, lb, hb1⟩
  clear hrun
  have hring1 : RgAt w1 r q { R with last := R.base } := by
    have := H.out.kept (hb1.block r lr)
    have e : ∀ l, l = R.last → (RG.mk R.first R.count R.base l R.top) = R := fun l hl => by subst hl; rfl
    rw [show ({ R with last := R.base } : RG) = R from e _ HLAST.out.symm]
    exact this
  have hs0 : GSt w w1 r q R S N a b g R.base (.slice none 0 0) (.slice none 0 0) 0 0 [] [] [] R.base :=
    ⟨by rw [HS.out]; exact hst, World.ownsRow_nil _ _ _ _, World.ownsRow_nil _ _ _ _, Els.nil _ _, hring1, Kept.ofBelow hb1⟩
  have hnx := pgnext hs0 la hSc hSl (by omega)
  clear hst hb1 hring1 hs0
  go_wp2_with fail
  go_at_call 53
  refine hnx.mono ?_
  rintro e w2 ⟨o, Au, nu, cu, ho, rfl, hrd, hg2, hk2⟩
  clear hnx
  obtain ⟨w3, hw3⟩ : ∃ w3, w3 = w2.alloc (.cells #[.int .i64 (numO o : Int), .bool (lastO o), .slice Au nu cu] 71) := ⟨_, rfl⟩
  have hb3 : Below w2.heap.size w2 w3 := by rw [hw3]; exact (Below.refl _ _).alloc (Nat.le_refl _) _
  have hinv0 : GInv w w3 r q R S N a b g 0 (.slice none 0 0) (.slice none 0 0) (.pointer (some ⟨w2.heap.size, 0, none⟩)) (.bool (decide (numO o = R.base + 1))) :=
    ⟨w2.heap.size, o, Au, nu, cu, [], 0, 0, rfl, rfl, ho, by rw [hw3]; exact heap_alloc_new _ _, hrd.kept (fun _ h _ => h) hb3.size (fun x _ hx => hb3.block x hx), rfl, hg2.grow hb3⟩
  have HI0 := Lib.hid hinv0
  have HW3 := Lib.hid hw3
  clear hinv0 hg2 hrd hk2 ho hb3 hw3
  go_wp2_with fail
  rw [← HW3.out]
  clear HW3
  go_loopw [5, 6, 8, 9] (fun v5 v6 v8 v9 wr => ∃ k : Nat, k ≤ S.length ∧ Hid (GInv w wr r q R S N a b g k v5 v6 v8 v9)) (fun _ _ _ _ wr => R.base + S.length + 2 - leftOf wr a)
  case atStart => exact ⟨0, Nat.zero_le _, HI0⟩
  case round =>
    obtain ⟨k, hk, hinv⟩ := hrel
    clear HI0
    obtain ⟨g8, o8, Au8, nu8, cu8, xs, n5, n6, rfl, rfl, ho8, hg8, hrd8, hlen, hgst⟩ := hinv.out
    have hpa := pcAt_there (S := S) (n := R.base + k + 1) (by omega) (by omega) ho8
    have hsn := run_snoc S k (R.base + 1) hlen
    rw [show R.base + 1 + k = R.base + k + 1 by omega, hpa] at hsn
    have hrun := hgst.run.ca
    by_cases hok : numO o8 = R.base + k + 1
    · rw [if_pos hok] at hsn hpa
      rw [decide_eq_true hok]
      cases o8 with
      | none => exact absurd hok (by show ¬ 0 = _; omega)
      | some p =>
        have hkl : k < S.length := by
          rcases Nat.lt_or_ge k S.length with h1 | h1
          · exact h1
          · exfalso
            obtain rfl : k = S.length := by omega
            have := run_full (by omega) hlen
            rw [show R.base + 1 + S.length = R.base + S.length + 1 by omega, hpa] at this
            cases this
        have hsn : run S (k + 1) (R.base + 1) = run S k (R.base + 1) ++ [p] := hsn
        have hpdl : p.data.length ≤ 501 := (pcOf_fine (pcAt_of hpa)).2.2.2
        have hrl : (rest [] (run S k (R.base + 1))).length ≤ 501 * 65536 := by
          have := rest_length (run S k (R.base + 1)) (fun x hx => by
            obtain ⟨i, hi, rfl⟩ := List.getElem_of_mem hx
            exact (pcOf_fine (pcAt_of (run_get S k (R.base + 1) i _ (List.getElem?_eq_getElem hi)))).2.2.2) []
          rw [List.length_nil, hlen] at this
          omega
        have hwl : (whole [] (run S k (R.base + 1))).length ≤ 65536 := by
          have := whole_length (run S k (R.base + 1)) []
          omega
        obtain ⟨PS, hPS⟩ : ∃ PS, PS = run S k (R.base + 1) := ⟨_, rfl⟩
        rw [← hPS] at hsn hrl hwl hgst hlen
        have hsn2 : (run S (k + 1) (R.base + 1)).length = k + 1 := by rw [hsn, List.length_append, hlen]; rfl
        have HSN := Lib.hid hsn
        have HSN2 := Lib.hid hsn2
        obtain ⟨A6, c6, rfl⟩ := own_slice hgst.row
        obtain ⟨A5, c5, rfl⟩ := own_slice hgst.rows
        have hn6 := own_count hgst.row
        have hn5 : n5 = (whole [] PS).length := by have := hgst.rows.1; have := hgst.els.1; omega
        subst hn5
        subst hn6
        have p0 : wr.cell? ⟨g8, 0, none⟩ = some (.int .i64 (p.n : Int)) := (row7 hg8).1 0
        have p1 : wr.cell? ⟨g8, 1, none⟩ = some (.bool p.last) := (row7 hg8).1 1
        have p2 : wr.cell? ⟨g8, 2, none⟩ = some (.slice Au8 nu8 cu8) := (row7 hg8).1 2
        have hrow8 : RowAt wr (.slice Au8 nu8 cu8) p.data.length 1 (BS p.data) := Rd.rowAt hrd8.rd
        have hszw : w.heap.size ≤ wr.heap.size := hgst.kept.size
        have HG8 := Lib.hid hg8
        have HROW8 := Lib.hid hrow8
        have HGST := Lib.hid hgst
        have HRUN := Lib.hid hrun
        have HOK : Hid (p.n = R.base + k + 1) := Lib.hid hok
        obtain ⟨iu, hiu, hzu0, hzu1, hzu2⟩ := info_parts info_U8
        clear hg8 hrow8 hrd8 hgst hrun hPS hsn hsn2 hok hinv ho8 hpa hlen
        go_upto_region 8 with (at_builtin; go_must (refine wpList_appAt rfl (.tmp 27) (.tmp 29) 39 rfl w.heap.size 5 iu _ 1 1 Try.underlying39 hiu hzu0 hzu1 hzu2 rfl (by decide) _ _ (rest [] PS).length (BS (rest [] PS)) p.data.length (BS p.data) rfl rfl HGST.out.row HROW8.out (BS_one _) (by unfold maxLen; omega) (by omega) hszw ?_; intro A7 c7 w7 ho7 hg7 hat7))
        have hg87 : w7.heap[g8]? = some (.cells #[.int .i64 (p.n : Int), .bool p.last, .slice Au8 nu8 cu8] 71 (0, 0)) := by
          have hgl8 : g8 < wr.heap.size := (Array.getElem?_eq_some_iff.1 HG8.out).1
          refine (hg7.block g8 hgl8 (fun e => ?_)).trans HG8.out
          obtain ⟨cur, hcur⟩ := row_type HGST.out.row e.symm
          have h3 := hcur.symm.trans HG8.out
          injection h3 with h3
          injection h3 with _ h3
          exact absurd h3 (by decide)
        rw [← BS_append] at ho7
        have hG7 := HGST.out.more hszw (fun x hx => (HN.out x hx).1) ho7 hg7 hat7
        have hsz7 := hg7.size
        have HG87 := Lib.hid hg87
        have HG7 := Lib.hid hG7
        have HAT := Lib.hid hat7
        clear hg87 ho7 hG7 hg7 hat7 p0 p1 p2
        cases hbl : p.last with
        | false =>
          have G8T : Hid (w7.heap[g8]? = some (.cells #[.int .i64 (p.n : Int), .bool false, .slice Au8 nu8 cu8] 71 (0, 0))) := by rw [← hbl]; exact HG87
          obtain ⟨wt, hwt⟩ : ∃ wt, wt = w7 := ⟨_, rfl⟩
          have GT : Hid (GSt w wt r q R S N a b g (R.base + k + 1) (.slice A5 (whole [] PS).length c5) (.slice A7 ((rest [] PS).length + p.data.length) c7) (whole [] PS).length ((rest [] PS).length + p.data.length) xs (whole [] (PS ++ [p])) (rest [] (PS ++ [p])) (lastIn R.base (PS ++ [p]))) := by
            rw [whole_snoc, rest_snoc, lastIn_snoc, hbl, hwt]
            exact HG7
          have p1 : w7.cell? ⟨g8, 1, none⟩ = some (.bool false) := (row7 G8T.out).1 1
          have hszt : w.heap.size ≤ wt.heap.size := by rw [hwt]; omega
          clear hbl
          rw [← hwt]
          rw [← hwt] at p1 G8T
          have hgT := GT.out
          have hbx : Below wt.heap.size wt (wt.alloc (.cells #[.int .i64 (p.n : Int), .bool false, .slice Au8 nu8 cu8] 71)) := (Below.refl _ _).alloc (Nat.le_refl _) _
          have hgx := hgT.grow hbx
          have hnx := pgnext hgx la hSc hSl (by omega)
          have hnew := heap_alloc_new wt (.cells #[.int .i64 (p.n : Int), .bool false, .slice Au8 nu8 cu8] 71)
          have hlt0 := leftOf_at hgT.run.ca
          clear hwt
          have q0 : wt.cell? ⟨g8, 0, none⟩ = some (.int .i64 (p.n : Int)) := (row7 G8T.out).1 0
          have q1 : wt.cell? ⟨g8, 1, none⟩ = some (.bool false) := (row7 G8T.out).1 1
          have q2 : wt.cell? ⟨g8, 2, none⟩ = some (.slice Au8 nu8 cu8) := (row7 G8T.out).1 2
          have hszx : (wt.alloc (.cells #[.int .i64 (p.n : Int), .bool false, .slice Au8 nu8 cu8] 71)).heap.size = wt.heap.size + 1 := by simp
          have hkl2 : k + 1 ≤ S.length := hkl
          have HNEW := Lib.hid hnew
          have HSX := Lib.hid hszx
          have hna : wt.heap.size ≠ a := by have := (Array.getElem?_eq_some_iff.1 hgT.run.ca).1; omega
          clear hgT hbx hgx hnew hszx hlt0
          go_wp2_with fail
          go_at_call 53
          refine hnx.mono ?_
          rintro e w9 ⟨o9, Au9, nu9, cu9, ho9, rfl, hrd9, hg9, hk9⟩
          clear hnx q0 q1 q2
          have hn9 : w9.heap[wt.heap.size]? = some (.cells #[.int .i64 (p.n : Int), .bool false, .slice Au8 nu8 cu8] 71 (0, 0)) := (hk9.block _ (by rw [HSX.out]; omega) hna).trans HNEW.out
          have q0 : w9.cell? ⟨wt.heap.size, 0, none⟩ = some (.int .i64 (p.n : Int)) := (row7 hn9).1 0
          have q1 : w9.cell? ⟨wt.heap.size, 1, none⟩ = some (.bool false) := (row7 hn9).1 1
          have q2 : w9.cell? ⟨wt.heap.size, 2, none⟩ = some (.slice Au8 nu8 cu8) := (row7 hn9).1 2
          have z0 := (row7 hn9).2 0
          have z1 := (row7 hn9).2 1
          have z2 := (row7 hn9).2 2
          obtain ⟨W, hW⟩ : ∃ W, W = ((w9.setCell ⟨wt.heap.size, 0, none⟩ (.int .i64 (numO o9 : Int))).setCell ⟨wt.heap.size, 1, none⟩ (.bool (lastO o9))).setCell ⟨wt.heap.size, 2, none⟩ (.slice Au9 nu9 cu9) := ⟨_, rfl⟩
          have hoW : ∀ x, x ≠ wt.heap.size → W.heap[x]? = w9.heap[x]? := fun x hx => by rw [hW, set_other hx, set_other hx, set_other hx]
          have hsW : W.heap.size = w9.heap.size := by rw [hW]; simp
          have hgW : W.heap[wt.heap.size]? = some (.cells #[.int .i64 (numO o9 : Int), .bool (lastO o9), .slice Au9 nu9 cu9] 71 (0, 0)) := by
            rw [hW, Joins.block_setCell (Joins.block_setCell (Joins.block_setCell hn9 _) _) _]
            simp
          have hKW : Kept w9 W (fun x => x = wt.heap.size) := by
            rw [hW]
            exact ((Kept.setCell w9 ⟨wt.heap.size, 0, none⟩ _ (fun x => x = wt.heap.size) rfl).trans (Kept.setCell _ ⟨wt.heap.size, 1, none⟩ _ (fun x => x = wt.heap.size) rfl) (fun _ h => .inl h)).trans (Kept.setCell _ ⟨wt.heap.size, 2, none⟩ _ (fun x => x = wt.heap.size) rfl) (fun _ h => .inl h)
          have hGW := hg9.aside hn9 (by have := HGL.out; omega) (fun x hx => by have := (HN.out x hx).1; omega) hszt hKW
          have hrW := hrd9.kept (w' := W) (N' := N) (fun _ h _ => h) (by rw [hsW]; exact Nat.le_refl _) (fun x hx hl => hoW x (by have := (HN.out x hx).1; omega))
          have hinvW : GInv w W r q R S N a b g (k + 1) (.slice A5 (whole [] PS).length c5) (.slice A7 ((rest [] PS).length + p.data.length) c7) (.pointer (some ⟨wt.heap.size, 0, none⟩)) (.bool (decide (numO o9 = R.base + k + 1 + 1))) := by
            refine ⟨wt.heap.size, o9, Au9, nu9, cu9, xs, (whole [] PS).length, ((rest [] PS).length + p.data.length), rfl, by rw [show R.base + (k + 1) + 1 = R.base + k + 1 + 1 by omega], by rw [show R.base + (k + 1) + 1 = R.base + k + 1 + 1 by omega]; exact ho9, hgW, hrW, HSN2.out, ?_⟩
            rw [HSN.out, show R.base + (k + 1) + 1 = R.base + k + 1 + 1 by omega]
            exact hGW
          have HINVW := Lib.hid hinvW
          have hleW : R.base + S.length + 2 - leftOf W a < R.base + S.length + 2 - leftOf wr a := by
            rw [leftOf_at hGW.run.ca, leftOf_at HRUN.out]
            omega
          have HLEW := Lib.hid hleW
          clear hinvW hleW hgW hoW hn9 hg9 hk9 hrd9 ho9 hGW hrW hsW
          go_wp2_with fail
          rw [← hW]
          exact ⟨⟨k + 1, hkl2, HINVW⟩, HLEW.out⟩
        | true =>
          have G87 : Hid (w7.heap[g8]? = some (.cells #[.int .i64 (p.n : Int), .bool true, .slice Au8 nu8 cu8] 71 (0, 0))) := by rw [← hbl]; exact HG87
          obtain ⟨v6, hv6⟩ : ∃ v6, v6 = Value.slice A7 ((rest [] PS).length + p.data.length) c7 := ⟨_, rfl⟩
          obtain ⟨w8, hw8⟩ : ∃ w8, w8 = w7.alloc (.cells #[v6] 39) := ⟨_, rfl⟩
          have hb8 : Below w7.heap.size w7 w8 := by rw [hw8]; exact (Below.refl _ _).alloc (Nat.le_refl _) _
          have hG8 := HG7.out.grow hb8
          have hrow8 : RowAt w8 (.slice (some ⟨w7.heap.size, 0, none⟩) 1 1) 1 1 [v6] := by
            rw [hw8]
            exact RowAt.of_own (World.ownsRow_lit (base := 0) (e := 39) (size := 1) w7 #[v6] 1 (Nat.zero_le _) (by unfold maxLen; omega) rfl)
          have hg88 := (hb8.block g8 (Array.getElem?_eq_some_iff.1 G87.out).1).trans G87.out
          rw [hw8, hv6] at hrow8 hG8
          have hsz8 : w.heap.size ≤ (w7.alloc (.cells #[Value.slice A7 ((rest [] PS).length + p.data.length) c7] 39)).heap.size := by simp; omega
          rw [hw8, hv6] at hg88
          have p1 : w7.cell? ⟨g8, 1, none⟩ = some (.bool true) := (row7 G87.out).1 1
          have HROW8 := Lib.hid hrow8
          have HG8 := Lib.hid hG8
          have HG88 := Lib.hid hg88
          obtain ⟨ib, hib, hzb0, hzb1, hzb2⟩ := info_parts info_BB
          have HBL := Lib.hid hbl
          clear hrow8 hG8 hg88 hb8 hw8 hv6 hbl
          go_upto_region 10 with (at_builtin; go_must (refine wpList_appAt rfl (.tmp 33) (.tmp 35) 28 rfl w.heap.size 39 ib _ 1 24 Try.underlying28 hib hzb0 hzb1 hzb2 rfl (by decide) _ _ (whole [] PS).length xs 1 [Value.slice A7 ((rest [] PS).length + p.data.length) c7] rfl rfl HG8.out.rows HROW8.out (fun u hu => by simp at hu; rw [hu]; rfl) (by unfold maxLen; omega) (by omega) hsz8 ?_; intro A9 c9 w9 ho9 hg9 hat9))
          have hG9 := HG8.out.push (fun x hx => (HN.out x hx).1) rfl ho9 hg9
          have hsz9 := hg9.size
          have hg89 : w9.heap[g8]? = some (.cells #[.int .i64 (p.n : Int), .bool true, .slice Au8 nu8 cu8] 71 (0, 0)) := by
            refine (hg9.block g8 (Array.getElem?_eq_some_iff.1 HG88.out).1 (fun e => ?_)).trans HG88.out
            obtain ⟨cur, hcur⟩ := row_type HG8.out.rows e.symm
            have h3 := hcur.symm.trans HG88.out
            injection h3 with h3
            injection h3 with _ h3
            exact absurd h3 (by decide)
          have q0 : w9.cell? ⟨g8, 0, none⟩ = some (.int .i64 (p.n : Int)) := (row7 hg89).1 0
          have q4 := hG9.ring.c4
          have z4 := hG9.ring.fz 4
          obtain ⟨wt, hwt⟩ : ∃ wt, wt = w9.setCell ⟨r, 4, none⟩ (.int .i64 (p.n : Int)) := ⟨_, rfl⟩
          have hGt := hG9.noted (fun x hx => (HN.out x hx).2) p.n
          rw [← hwt] at hGt
          have hgr : g8 ≠ r := by
            rintro rfl
            have h3 := hG9.ring.symm.trans hg89
            injection h3 with h3
            injection h3 with _ h3
            exact absurd h3 (by decide)
          have G8T : Hid (wt.heap[g8]? = some (.cells #[.int .i64 (p.n : Int), .bool true, .slice Au8 nu8 cu8] 71 (0, 0))) := by rw [hwt, set_other hgr]; exact hg89
          have GT : Hid (GSt w wt r q R S N a b g (R.base + k + 1) (.slice A9 ((whole [] PS).length + 1) c9) (.slice none 0 0) ((whole [] PS).length + 1) 0 (xs ++ [Value.slice A7 ((rest [] PS).length + p.data.length) c7]) (whole [] (PS ++ [p])) (rest [] (PS ++ [p])) (lastIn R.base (PS ++ [p]))) := by
            rw [whole_snoc, rest_snoc, lastIn_snoc, HBL.out, if_pos rfl, if_pos rfl, if_pos rfl]
            exact hGt
          have hszt : w.heap.size ≤ wt.heap.size := by rw [hwt]; simp at hsz9 ⊢; omega
          have HWT := Lib.hid hwt
          clear hG9 hGt hg89 hgr ho9 hg9 hat9 HG8 HG88 HROW8 p1 hwt
          go_upto_region 11 with fail
          rw [← HWT.out]
          have hwt := HWT.out
          clear q0 q4 z4
          have hgT := GT.out
          have hbx : Below wt.heap.size wt (wt.alloc (.cells #[.int .i64 (p.n : Int), .bool true, .slice Au8 nu8 cu8] 71)) := (Below.refl _ _).alloc (Nat.le_refl _) _
          have hgx := hgT.grow hbx
          have hnx := pgnext hgx la hSc hSl (by omega)
          have hnew := heap_alloc_new wt (.cells #[.int .i64 (p.n : Int), .bool true, .slice Au8 nu8 cu8] 71)
          have hlt0 := leftOf_at hgT.run.ca
          clear hwt
          have q0 : wt.cell? ⟨g8, 0, none⟩ = some (.int .i64 (p.n : Int)) := (row7 G8T.out).1 0
          have q1 : wt.cell? ⟨g8, 1, none⟩ = some (.bool true) := (row7 G8T.out).1 1
          have q2 : wt.cell? ⟨g8, 2, none⟩ = some (.slice Au8 nu8 cu8) := (row7 G8T.out).1 2
          have hszx : (wt.alloc (.cells #[.int .i64 (p.n : Int), .bool true, .slice Au8 nu8 cu8] 71)).heap.size = wt.heap.size + 1 := by simp
          have hkl2 : k + 1 ≤ S.length := hkl
          have HNEW := Lib.hid hnew
          have HSX := Lib.hid hszx
          have hna : wt.heap.size ≠ a := by have := (Array.getElem?_eq_some_iff.1 hgT.run.ca).1; omega
          clear hgT hbx hgx hnew hszx hlt0
          go_wp2_with fail
          go_at_call 53
          refine hnx.mono ?_
          rintro e w9 ⟨o9, Au9, nu9, cu9, ho9, rfl, hrd9, hg9, hk9⟩
          clear hnx q0 q1 q2
          have hn9 : w9.heap[wt.heap.size]? = some (.cells #[.int .i64 (p.n : Int), .bool true, .slice Au8 nu8 cu8] 71 (0, 0)) := (hk9.block _ (by rw [HSX.out]; omega) hna).trans HNEW.out
          have q0 : w9.cell? ⟨wt.heap.size, 0, none⟩ = some (.int .i64 (p.n : Int)) := (row7 hn9).1 0
          have q1 : w9.cell? ⟨wt.heap.size, 1, none⟩ = some (.bool true) := (row7 hn9).1 1
          have q2 : w9.cell? ⟨wt.heap.size, 2, none⟩ = some (.slice Au8 nu8 cu8) := (row7 hn9).1 2
          have z0 := (row7 hn9).2 0
          have z1 := (row7 hn9).2 1
          have z2 := (row7 hn9).2 2
          obtain ⟨W, hW⟩ : ∃ W, W = ((w9.setCell ⟨wt.heap.size, 0, none⟩ (.int .i64 (numO o9 : Int))).setCell ⟨wt.heap.size, 1, none⟩ (.bool (lastO o9))).setCell ⟨wt.heap.size, 2, none⟩ (.slice Au9 nu9 cu9) := ⟨_, rfl⟩
          have hoW : ∀ x, x ≠ wt.heap.size → W.heap[x]? = w9.heap[x]? := fun x hx => by rw [hW, set_other hx, set_other hx, set_other hx]
          have hsW : W.heap.size = w9.heap.size := by rw [hW]; simp
          have hgW : W.heap[wt.heap.size]? = some (.cells #[.int .i64 (numO o9 : Int), .bool (lastO o9), .slice Au9 nu9 cu9] 71 (0, 0)) := by
            rw [hW, Joins.block_setCell (Joins.block_setCell (Joins.block_setCell hn9 _) _) _]
            simp
          have hKW : Kept w9 W (fun x => x = wt.heap.size) := by
            rw [hW]
            exact ((Kept.setCell w9 ⟨wt.heap.size, 0, none⟩ _ (fun x => x = wt.heap.size) rfl).trans (Kept.setCell _ ⟨wt.heap.size, 1, none⟩ _ (fun x => x = wt.heap.size) rfl) (fun _ h => .inl h)).trans (Kept.setCell _ ⟨wt.heap.size, 2, none⟩ _ (fun x => x = wt.heap.size) rfl) (fun _ h => .inl h)
          have hGW := hg9.aside hn9 (by have := HGL.out; omega) (fun x hx => by have := (HN.out x hx).1; omega) hszt hKW
          have hrW := hrd9.kept (w' := W) (N' := N) (fun _ h _ => h) (by rw [hsW]; exact Nat.le_refl _) (fun x hx hl => hoW x (by have := (HN.out x hx).1; omega))
          have hinvW : GInv w W r q R S N a b g (k + 1) (.slice A9 ((whole [] PS).length + 1) c9) (.slice none 0 0) (.pointer (some ⟨wt.heap.size, 0, none⟩)) (.bool (decide (numO o9 = R.base + k + 1 + 1))) := by
            refine ⟨wt.heap.size, o9, Au9, nu9, cu9, xs ++ [Value.slice A7 ((rest [] PS).length + p.data.length) c7], (whole [] PS).length + 1, 0, rfl, by rw [show R.base + (k + 1) + 1 = R.base + k + 1 + 1 by omega], by rw [show R.base + (k + 1) + 1 = R.base + k + 1 + 1 by omega]; exact ho9, hgW, hrW, HSN2.out, ?_⟩
            rw [HSN.out, show R.base + (k + 1) + 1 = R.base + k + 1 + 1 by omega]
            exact hGW
          have HINVW := Lib.hid hinvW
          have hleW : R.base + S.length + 2 - leftOf W a < R.base + S.length + 2 - leftOf wr a := by
            rw [leftOf_at hGW.run.ca, leftOf_at HRUN.out]
            omega
          have HLEW := Lib.hid hleW
          clear hinvW hleW hgW hoW hn9 hg9 hk9 hrd9 ho9 hGW hrW hsW
          go_wp2_with fail
          rw [← hW]
          exact ⟨⟨k + 1, hkl2, HINVW⟩, HLEW.out⟩
    · rw [if_neg hok] at hpa
      rw [decide_eq_false hok]
      have hstop := run_stop S k (R.base + 1) (S.length - k) hlen (by rw [show R.base + 1 + k = R.base + k + 1 by omega]; exact hpa)
      rw [show k + (S.length - k) = S.length by omega] at hstop
      have HST := Lib.hid hstop
      have HGST := Lib.hid hgst
      clear hsn hpa hinv hg8 hrd8 hrun hgst hstop ho8
      go_wp2_with fail
      go_ret
      rw [HST.out]
      exact ⟨_, rfl, LLN.own HGST.out.rows (HGST.out.els.kept (fun x hx _ => ⟨hx.1, hx.2.2⟩) (Nat.le_refl _) (fun _ _ _ => rfl)) (fun x hx => ⟨(HGST.out.rows.lt x hx).1, fun hu => by obtain ⟨cur, hcur⟩ := row_type HGST.out.rows hx; obtain ⟨C, hC⟩ := hu; rw [hcur] at hC; injection hC with hC; injection hC with _ hC; exact absurd hC (by decide)⟩), HGST.out.ring, HGST.out.kept⟩
end Go.Proofs.Ytlokehekkllbeaa
namespace Go.Proofs.Ytlokehekkllbeaa
open Go.RowKit

/-- a ring that is opened -/
def opened (D : DS) (first count base : Nat) : RG := ⟨first, count, base, lastIn base (run (seen D first count) count (base + 1)), topTo (seen D first count) base count⟩
/-- what is in it -/
def inRing (D : DS) (first count base : Nat) : List (List UInt8) := whole [] (run (seen D first count) count (base + 1))
theorem opened_fine {D : DS} {first count base : Nat} (hc : 1 ≤ count) (hr : first + count ≤ 65536) (hl : first + count ≤ D.lasts.length) (hb : base ≤ 4611686018427387904) : (opened D first count base).fine := by
  have hs := seen_length hl
  have hg := run_get (seen D first count) count (base + 1)
  have hn : ∀ i p, (run (seen D first count) count (base + 1))[i]? = some p → p.n = base + 1 + i := fun i p hp => pcAt_num (hg i p hp)
  obtain ⟨h1, h2, -⟩ := lastIn_row _ base base hn (Nat.le_refl _)
  have hlen := run_length (seen D first count) count (base + 1)
  have ht : topTo (seen D first count) base count = topIn (seen D first count) base := by
    have := topTo_all (seen D first count) base
    rw [hs] at this
    exact this
  refine ⟨hc, hr, h2, by show lastIn _ _ ≤ base + count; omega, ?_, topTo_most _ _ hb _⟩
  show lastIn _ _ ≤ topTo _ _ _
  rw [ht]
  rcases Nat.eq_zero_or_pos (run (seen D first count) count (base + 1)).length with h0 | h0
  · have := (topIn_ge (seen D first count) base).1
    omega
  · have hl' : (run (seen D first count) count (base + 1)).length - 1 < (run (seen D first count) count (base + 1)).length := by omega
    have := hg _ _ (List.getElem?_eq_getElem hl')
    have h4 := (topIn_ge (seen D first count) base).2 _ _ (Nat.mod_lt _ (by omega)) (pcAt_of this)
    have h5 := pcAt_num this
    omega

theorem popen_nil (f c b : Int) (w : World) : Calls Try.prog 5 #[.pointer none, .int .i64 f, .int .i64 c, .int .i64 b] w fun e w' => e = .returned (.tuple #[.pointer none, .slice none 0 0, .int .i64 2]) ∧ w = w' := by
  go_enter Try.func5, Try.ntmps5
  go_wp2_with fail
  go_ret3
  exact ⟨rfl, rfl⟩

set_option maxHeartbeats 1000000 in
theorem popen_arg {w : World} {G S : Nat → Prop} {q : Nat} {D : DS} (hD : PD w G S q D) (hll : D.lasts.length ≤ 65536) (f c b : Int) (hf : f < 9223372036854775808) (hbad : f < 0 ∨ c < 1 ∨ (D.lasts.length : Int) - f < c ∨ b < 0 ∨ 4611686018427387904 < b) : Calls Try.prog 5 #[.pointer (some ⟨q, 0, none⟩), .int .i64 f, .int .i64 c, .int .i64 b] w fun e w' => e = .returned (.tuple #[.pointer none, .slice none 0 0, .int .i64 1]) ∧ w = w' := by
  have hlen := pLen_any G S q D w hD
  have key : f < 0 ∨ (¬ f < 0 ∧ c < 1) ∨ (¬ f < 0 ∧ ¬ c < 1 ∧ (D.lasts.length : Int) - f < c) ∨ (¬ f < 0 ∧ ¬ c < 1 ∧ ¬ (D.lasts.length : Int) - f < c ∧ b < 0) ∨ (¬ f < 0 ∧ ¬ c < 1 ∧ ¬ (D.lasts.length : Int) - f < c ∧ ¬ b < 0 ∧ 4611686018427387904 < b) := by omega
  clear hbad hD
  rcases key with h1 | ⟨h1, h2⟩ | ⟨h1, h2, h3⟩ | ⟨h1, h2, h3, h4⟩ | ⟨h1, h2, h3, h4, h5⟩
  · go_enter Try.func5, Try.ntmps5
    go_wp2_with fail
    go_ret3
    exact ⟨rfl, rfl⟩
  · go_enter Try.func5, Try.ntmps5
    go_wp2_with fail
    go_ret3
    exact ⟨rfl, rfl⟩
  all_goals
    go_enter Try.func5, Try.ntmps5
    go_wp2_with fail
    refine hlen.mono ?_
    rintro e w1 ⟨rfl, rfl⟩
    go_wp2_with fail
    go_ret3
    exact ⟨rfl, rfl⟩

set_option maxHeartbeats 4000000 in
set_option maxRecDepth 100000 in
theorem popen_soft {w : World} {G S : Nat → Prop} {q : Nat} {D : DS} (hD : PD w G S q D) (hF : Fine D) (hG : ∀ b, G b → b < w.heap.size) (hdead : D.dead = false) (first count base : Nat) (hc : 1 ≤ count) (hl : first + count ≤ D.lasts.length) (hll : D.lasts.length ≤ 65536) (hb : base ≤ 4611686018427387904) :
    Calls Try.prog 5 #[.pointer (some ⟨q, 0, none⟩), .int .i64 (first : Int), .int .i64 (count : Int), .int .i64 (base : Int)] w fun e w' => ∃ r v, e = .returned (.tuple #[.pointer (some ⟨r, 0, none⟩), v, .int .i64 0]) ∧ Below w.heap.size w w' ∧ w.heap.size ≤ r ∧ RgAt w' r q (opened D first count base) ∧ LLN w' (fun x => r < x ∧ ¬ U8B w' x) (fun x => r < x ∧ U8B w' x) v (inRing D first count base) := by
  have hlen := pLen_any G S q D w hD
  have hop := opened_fine hc (by omega) hl hb
  have HD := Lib.hid hD
  have HF := Lib.hid hF
  have HG := Lib.hid hG
  have HOP := Lib.hid hop
  have j1 : ¬ (first : Int) < 0 := by omega
  have j2 : ¬ (count : Int) < 1 := by omega
  have j3 : ¬ (D.lasts.length : Int) - (first : Int) < (count : Int) := by omega
  have j4 : ¬ (base : Int) < 0 := by omega
  have j5 : ¬ (4611686018427387904 : Int) < (base : Int) := by omega
  clear hD hF hG hop
  go_enter Try.func5, Try.ntmps5
  go_wp2_with fail
  refine hlen.mono ?_
  rintro e w1 ⟨rfl, rfl⟩
  go_wp2_with fail
  obtain ⟨r, hr⟩ : ∃ r, r = w.heap.size := ⟨_, rfl⟩
  obtain ⟨w1, hw1⟩ : ∃ w1, w1 = w.alloc (.cells #[.pointer (some ⟨q, 0, none⟩), .int .i64 (first : Int), .int .i64 (count : Int), .int .i64 (base : Int), .int .i64 (base : Int), .int .i64 (base : Int)] 57) := ⟨_, rfl⟩
  rw [← hw1, ← hr]
  have hb1 : Below w.heap.size w w1 := by rw [hw1]; exact (Below.refl _ _).alloc (Nat.le_refl _) _
  have hs1 : w1.heap.size = w.heap.size + 1 := by rw [hw1]; simp
  obtain ⟨R0, hR0⟩ : ∃ R0 : RG, R0 = ⟨first, count, base, base, base⟩ := ⟨_, rfl⟩
  have hrg : RgAt w1 r q R0 := by rw [hR0, hw1, hr]; exact heap_alloc_new _ _
  have hf0 : R0.fine := by rw [hR0]; exact ⟨hc, by show first + count ≤ 65536; omega, Nat.le_refl _, by show base ≤ base + count; omega, Nat.le_refl _, hb⟩
  have hD1 : PD w1 G S q D := HD.out.kept (fun _ h => h) (fun _ h => h) (fun b hb _ => hb1.block b hb) (fun b _ _ hb => hb1.block b hb)
  have hlk := plook_any hrg hf0 hD1 HF.out (fun b hb => ⟨by have := HG.out b hb; omega, by have := HG.out b hb; omega⟩) hdead (by rw [hR0]; exact hl)
  have hcR : R0.count = count := by rw [hR0]
  have hfR : R0.first = first := by rw [hR0]
  rw [hcR, hfR] at hlk
  have HR0 := Lib.hid hR0
  have HRR := Lib.hid hr
  have HB1 := Lib.hid hb1
  have HS1 := Lib.hid hs1
  clear hw1 hr hrg hf0 hD1 hcR hfR hR0 hb1 hs1
  refine hlk.mono ?_
  rintro e w2 ⟨g, rfl, hg1, hg2, hinv⟩
  clear hlk
  have hsl := seen_length hl
  obtain ⟨T, hT⟩ : ∃ T, T = seen D first count := ⟨_, rfl⟩
  rw [← hT] at hinv hsl
  have hfin : (RG.mk first count base base (topTo T base count)).fine := by
    rw [hT]
    have h0 := HOP.out
    exact ⟨hc, h0.room, Nat.le_refl _, by show base ≤ base + count; omega, by
      have h1 := h0.low
      have h2 := h0.up
      have e1 : (opened D first count base).base = base := rfl
      have e2 : (opened D first count base).top = topTo (seen D first count) base count := rfl
      rw [e1] at h1
      rw [e2] at h2
      show base ≤ topTo _ _ _
      omega, h0.most⟩
  have hrg2 : RgAt w2 r q ⟨first, count, base, base, topTo T base count⟩ := by
    have := hinv.ring
    rw [HR0.out] at this
    exact this
  have hth2 : ThereAt w2 (fun x => w1.heap.size < x ∧ x < w2.heap.size) g (thereTo T T.length) := by rw [hsl]; exact hinv.there.kept (fun b h1 h2 => ⟨h1, h2⟩) (Nat.le_refl _) rfl (fun _ _ _ => rfl)
  have hga := pgather_any hrg2 hfin rfl hsl hth2 (fun x hx => ⟨hx.2, by have := HRR.out; have := HS1.out; omega⟩)
  have HK2 := Lib.hid hinv.kept
  have HT := Lib.hid hT
  have hs2 := hinv.kept.size
  clear hinv hrg2 hth2 hT hfin
  go_wp2_with fail
  refine hga.mono ?_
  rintro e w3 ⟨v, rfl, hll3, hrg3, hk3⟩
  clear hga
  have HLL := Lib.hid hll3
  have HRG := Lib.hid hrg3
  have HK3 := Lib.hid hk3
  clear hll3 hrg3 hk3
  go_wp2_with fail
  go_ret3
  have hrr := HRR.out
  have hs1 := HS1.out
  have k2 : Below w.heap.size w1 w2 := HK2.out.below (by omega) (fun b hb => by omega)
  have k3 : Below w.heap.size w2 w3 := HK3.out.below (by omega) (fun b hb => by omega)
  refine ⟨r, v, rfl, (HB1.out.trans k2).trans k3, by omega, ?_, ?_⟩
  · have := HRG.out
    unfold opened
    rw [← HT.out]
    rw [hsl] at this
    exact this
  · have := HLL.out
    unfold inRing
    rw [← HT.out]
    rw [hsl] at this
    exact this.kept (fun b h _ => ⟨by have := h.1; omega, h.2⟩) (fun b h _ => ⟨by have := h.1; omega, h.2⟩) (Nat.le_refl _) (fun _ _ _ => rfl)
theorem popen_any {w : World} {G S : Nat → Prop} {q : Nat} {D : DS} (hD : PD w G S q D) (hF : Fine D) (hG : ∀ b, G b → b < w.heap.size) (hdead : D.dead = false) (first count base : Nat) (hc : 1 ≤ count) (hl : first + count ≤ D.lasts.length) (hll : D.lasts.length ≤ 65536) (hb : base ≤ 4611686018427387904) :
    Calls Try.prog 5 #[.pointer (some ⟨q, 0, none⟩), .int .i64 (first : Int), .int .i64 (count : Int), .int .i64 (base : Int)] w fun e w' => ∃ r v, e = .returned (.tuple #[.pointer (some ⟨r, 0, none⟩), v, .int .i64 0]) ∧ Below w.heap.size w w' ∧ w.heap.size ≤ r ∧ RgAt w' r q (opened D first count base) ∧ LLN w' (fun x => r < x) (fun x => r < x) v (inRing D first count base) :=
  (popen_soft hD hF hG hdead first count base hc hl hll hb).mono fun _ _ ⟨r, v, h1, h2, h3, h4, h5⟩ => ⟨r, v, h1, h2, h3, h4, h5.kept (fun _ h _ => h.1) (fun _ h _ => h.1) (Nat.le_refl _) (fun _ _ _ => rfl)⟩
end Go.Proofs.Ytlokehekkllbeaa
