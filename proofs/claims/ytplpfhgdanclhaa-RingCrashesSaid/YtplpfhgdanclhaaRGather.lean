/-
  The program's ring: gather. No statement is proved here. No condition.
-/
import Derived.Test.YtplpfhgdanclhaaRApp
namespace Go.Proofs.Ytplpfhgdanclhaa
open Go.RowKit

theorem info_BB : (Try.prog.info? 39).map (fun i => (i.zero, i.size, i.bytes)) = some (some (.slice none 0 0), 1, 24) := by kernel_rfl
theorem info_U8 : (Try.prog.info? 5).map (fun i => (i.zero, i.size, i.bytes)) = some (some (.int .u8 0), 1, 1) := by kernel_rfl

/-- the piece that is asked for is there -/
theorem pcAt_there {S : List (List UInt8)} {n : Nat} {o : Option Pc} (hc : 0 < S.length) (hn : 0 < n) (ho : (thereTo S S.length)[n % S.length]? = some o) : pcAt S n = if numO o = n then o else none := by
  have hm := Nat.mod_lt n hc
  rw [thereTo_get _ _ _ hm, if_pos hm] at ho
  have ho := Option.some.inj ho
  unfold pcAt
  rw [ho]
  cases o with
  | none => rw [if_neg (by show ¬ 0 = n; omega)]; rfl
  | some p =>
    by_cases h : numO (some p) = n
    · rw [if_pos h]
      exact Option.filter_eq_some_iff.2 ⟨rfl, beq_iff_eq.2 h⟩
    · rw [if_neg h]
      exact Option.filter_eq_none_iff.2 fun q hq => by obtain rfl := Option.some.inj hq; exact fun hh => h (eq_of_beq hh)
/-- a row of as many pieces as there are sectors goes no further -/
theorem run_full {S : List (List UInt8)} {n : Nat} (hc : 0 < S.length) (h : (run S S.length n).length = S.length) : pcAt S (n + S.length) = none := by
  have h0 : (run S S.length n)[0]? = some ((run S S.length n)[0]'(by omega)) := List.getElem?_eq_getElem _
  have hp := run_get S S.length n 0 _ h0
  have hn := pcAt_num hp
  rcases hq : pcAt S (n + S.length) with _ | q
  · rfl
  · have h1 := pcAt_of hq
    have h2 := pcAt_of hp
    rw [Nat.add_mod_right] at h1
    rw [Nat.add_zero] at h2
    rw [h1] at h2
    have h3 := pcAt_num hq
    have h4 := Option.some.inj h2
    rw [← h4] at hn
    omega

theorem rest_length (ps : List Pc) (h : ∀ p ∈ ps, p.data.length ≤ 501) : ∀ now : List UInt8, (rest now ps).length ≤ now.length + 501 * ps.length := by
  induction ps with
  | nil => intro now; exact Nat.le_refl _
  | cons p ps ih =>
    intro now
    have hp := h p (by simp)
    have ih' := ih fun q hq => h q (by simp [hq])
    rw [rest, List.length_cons]
    split
    · have := ih' []
      rw [List.length_nil] at this
      omega
    · have := ih' (now ++ p.data)
      rw [List.length_append] at this
      omega
theorem whole_length (ps : List Pc) : ∀ now : List UInt8, (whole now ps).length ≤ ps.length := by
  induction ps with
  | nil => intro now; exact Nat.le_refl _
  | cons p ps ih =>
    intro now
    rw [whole, List.length_cons]
    split
    · rw [List.length_cons]; have := ih []; omega
    · have := ih (now ++ p.data); omega

/-- the element's type of a block of bytes -/
def U8B (w : World) (x : Nat) : Prop := ∃ C, w.heap[x]? = some (.cells C 5 (0, 0))
/-- what gather has in hand: the records L5, what is open L6, the last piece's number -/
structure GSt (w wr : World) (r q : Nat) (R : RG) (S : List (List UInt8)) (N : Nat → Prop) (a b g n : Nat) (v5 v6 : Value) (n5 n6 : Nat) (xs : List Value) (L5 : List (List UInt8)) (L6 : List UInt8) (last : Nat) : Prop where
  run : RunSt wr N a b g (thereTo S S.length) n
  row : wr.ownsRow w.heap.size 5 1 v6 n6 (BS L6)
  rows : wr.ownsRow w.heap.size 39 1 v5 n5 xs
  els : Els wr (fun x => w.heap.size ≤ x ∧ v6.ownBlock ≠ some x ∧ U8B wr x) xs L5
  ring : RgAt wr r q { R with last := last }
  kept : Kept w wr (fun x => x = r)

section
variable {w wr w' : World} {r q : Nat} {R : RG} {S : List (List UInt8)} {N : Nat → Prop} {a b g n : Nat} {v5 v6 : Value} {n5 n6 : Nat} {xs : List Value} {L5 : List (List UInt8)} {L6 : List UInt8} {last : Nat}
theorem GSt.step (h : GSt w wr r q R S N a b g n v5 v6 n5 n6 xs L5 L6 last) (ha : w.heap.size ≤ a) (hk : Kept wr w' (fun x => x = a)) {n' : Nat} (hr : RunSt w' N a b g (thereTo S S.length) n') : GSt w w' r q R S N a b g n' v5 v6 n5 n6 xs L5 L6 last := by
  have hb : ∀ x, x < wr.heap.size → x ≠ a → w'.heap[x]? = wr.heap[x]? := fun x hx hn => hk.block x hx hn
  refine ⟨hr, row_same h.row fun x hx => hb x (h.row.lt x hx).2 (row_not h.run.ca h.row (by decide) x hx), row_same h.rows fun x hx => hb x (h.rows.lt x hx).2 (row_not h.run.ca h.rows (by decide) x hx), ?_, h.ring.kept (hb r h.ring.lt ?_), h.kept.trans hk (fun x hx => .inr (by rw [hx]; exact ha))⟩
  · have ht : ∀ x, U8B wr x → x ≠ a := by
      rintro x ⟨C, hC⟩ rfl
      have := hC.symm.trans h.run.ca
      injection this with this
      injection this with _ this
      exact absurd this (by decide)
    exact h.els.kept (fun x hx hl => ⟨hx.1, hx.2.1, by obtain ⟨C, hC⟩ := hx.2.2; exact ⟨C, (hb x hl (ht x hx.2.2)).trans hC⟩⟩) hk.size (fun x hx hl => hb x hl (ht x hx.2.2))
  · rintro rfl
    have := h.ring.symm.trans h.run.ca
    injection this with this
    injection this with _ this
    exact absurd this (by decide)
theorem GSt.more (h : GSt w wr r q R S N a b g n v5 v6 n5 n6 xs L5 L6 last) (_hsz : w.heap.size ≤ wr.heap.size) (hNl : ∀ x, N x → x < w.heap.size) {v6' : Value} {n6' : Nat} {d : List UInt8} (ho : w'.ownsRow w.heap.size 5 1 v6' n6' (BS (L6 ++ d))) (hg : wr.grownBy w' v6.ownBlock) (hat : v6'.ownBlock = v6.ownBlock ∨ v6'.ownBlock = some wr.heap.size) : GSt w w' r q R S N a b g n v5 v6' n5 n6' xs L5 (L6 ++ d) last := by
  have hb : ∀ x, x < wr.heap.size → v6.ownBlock ≠ some x → w'.heap[x]? = wr.heap[x]? := fun x hx hn => hg.block x hx (fun e => hn e.symm)
  have hne : ∀ {T : TypeId} {C : Array Value} {x : Nat}, wr.heap[x]? = some (.cells C T (0, 0)) → T ≠ 5 → v6.ownBlock ≠ some x := fun hc hT e => by
    obtain ⟨cur, hcur⟩ := row_type h.row e
    rw [hcur] at hc
    injection hc with hc
    injection hc with _ hc
    exact hT hc.symm
  refine ⟨h.run.kept hg.size fun x hx hh => hb x hx ?_, ho, row_same h.rows fun x hx => hb x (h.rows.lt x hx).2 fun e => rows_apart h.row h.rows (by decide) e hx rfl, h.els.kept (fun x hx hl => ⟨hx.1, ?_, ?_⟩) hg.size (fun x hx hl => hb x hl hx.2.1), h.ring.kept (hb r h.ring.lt (hne h.ring (by decide))), h.kept.trans (Kept.grown (F := fun x => v6.ownBlock = some x) hg (fun _ h => h)) (fun x hx => .inr (h.row.lt x hx).1)⟩
  · rcases hh with rfl | rfl | rfl | hx'
    · exact hne h.run.ca (by decide)
    · exact hne h.run.cb (by decide)
    · obtain ⟨C, hC, -⟩ := h.run.there
      exact hne hC (by decide)
    · intro e
      have := (h.row.lt x e).1
      have := hNl x hx'
      omega
  · rcases hat with h1 | h1
    · rw [h1]; exact hx.2.1
    · rw [h1]; intro e; injection e with e; omega
  · obtain ⟨C, hC⟩ := hx.2.2
    exact ⟨C, (hb x hl hx.2.1).trans hC⟩
/-- behind new memory -/
theorem GSt.grow (h : GSt w wr r q R S N a b g n v5 v6 n5 n6 xs L5 L6 last) (hb : Below wr.heap.size wr w') : GSt w w' r q R S N a b g n v5 v6 n5 n6 xs L5 L6 last :=
  ⟨h.run.kept hb.size fun x hx _ => hb.block x hx, row_same h.row fun x hx => hb.block x (h.row.lt x hx).2, row_same h.rows fun x hx => hb.block x (h.rows.lt x hx).2, h.els.kept (fun x hx hl => ⟨hx.1, hx.2.1, by obtain ⟨C, hC⟩ := hx.2.2; exact ⟨C, (hb.block x hl).trans hC⟩⟩) hb.size (fun x _ hl => hb.block x hl), h.ring.kept (hb.block r h.ring.lt), h.kept.trans (Kept.ofBelow (F := fun x => x = r) hb) (fun _ h => .inl h)⟩
/-- a record is whole: it is told, and the next one begins -/
theorem GSt.push (h : GSt w wr r q R S N a b g n v5 v6 n5 n6 xs L5 L6 last) (hNl : ∀ x, N x → x < w.heap.size) {A : Option Addr} {nn cc : Nat} (hv : v6 = .slice A nn cc) {v5' : Value} {n5' : Nat} (ho : w'.ownsRow w.heap.size 39 1 v5' n5' (xs ++ [v6])) (hg : wr.grownBy w' v5.ownBlock) : GSt w w' r q R S N a b g n v5' (.slice none 0 0) n5' 0 (xs ++ [v6]) (L5 ++ [L6]) [] last := by
  have hb : ∀ x, x < wr.heap.size → v5.ownBlock ≠ some x → w'.heap[x]? = wr.heap[x]? := fun x hx hn => hg.block x hx (fun e => hn e.symm)
  have hne : ∀ {T : TypeId} {C : Array Value} {x : Nat}, wr.heap[x]? = some (.cells C T (0, 0)) → T ≠ 39 → v5.ownBlock ≠ some x := fun hc hT e => by
    obtain ⟨cur, hcur⟩ := row_type h.rows e
    rw [hcur] at hc
    injection hc with hc
    injection hc with _ hc
    exact hT hc.symm
  have hrow : w'.ownsRow w.heap.size 5 1 v6 n6 (BS L6) := row_same h.row fun x hx => hb x (h.row.lt x hx).2 fun e => rows_apart h.rows h.row (by decide) e hx rfl
  refine ⟨h.run.kept hg.size fun x hx hh => hb x hx ?_, World.ownsRow_nil _ _ _ _, ho, ?_, h.ring.kept (hb r h.ring.lt (hne h.ring (by decide))), h.kept.trans (Kept.grown (F := fun x => v5.ownBlock = some x) hg (fun _ h => h)) (fun x hx => .inr (h.rows.lt x hx).1)⟩
  · rcases hh with rfl | rfl | rfl | hx'
    · exact hne h.run.ca (by decide)
    · exact hne h.run.cb (by decide)
    · obtain ⟨C, hC, -⟩ := h.run.there
      exact hne hC (by decide)
    · intro e
      have := (h.rows.lt x e).1
      have := hNl x hx'
      omega
  · have he : Els w' (fun x => w.heap.size ≤ x ∧ (Value.slice none 0 0).ownBlock ≠ some x ∧ U8B w' x) xs L5 := h.els.kept (fun x hx hl => ⟨hx.1, (fun e => by cases e), by
      obtain ⟨C, hC⟩ := hx.2.2
      exact ⟨C, (hb x hl (hne hC (by decide))).trans hC⟩⟩) hg.size (fun x hx hl => hb x hl (by obtain ⟨C, hC⟩ := hx.2.2; exact hne hC (by decide)))
    subst hv
    exact he.snoc (RdN.own hrow (fun x hx => ⟨(hrow.lt x hx).1, (fun e => by cases e), row_type hrow hx⟩))
theorem GSt.noted (h : GSt w wr r q R S N a b g n v5 v6 n5 n6 xs L5 L6 last) (hNr : ∀ x, N x → x ≠ r) (m : Nat) : GSt w (wr.setCell ⟨r, 4, none⟩ (.int .i64 (m : Int))) r q R S N a b g n v5 v6 n5 n6 xs L5 L6 m := by
  have hb : ∀ x, x ≠ r → (wr.setCell ⟨r, 4, none⟩ (.int .i64 (m : Int))).heap[x]? = wr.heap[x]? := fun x hx => set_other hx
  have hne : ∀ {T : TypeId} {C : Array Value} {x : Nat}, wr.heap[x]? = some (.cells C T (0, 0)) → T ≠ 68 → x ≠ r := fun hc hT e => by
    subst e
    have := h.ring
    unfold RgAt at this
    rw [this] at hc
    injection hc with hc
    injection hc with _ hc
    exact hT hc.symm
  refine ⟨h.run.kept (by simp) fun x hx hh => hb x ?_, row_same h.row fun x hx => hb x (row_not h.ring h.row (by decide) x hx), row_same h.rows fun x hx => hb x (row_not h.ring h.rows (by decide) x hx), h.els.kept (fun x hx hl => ⟨hx.1, hx.2.1, ?_⟩) (by simp) (fun x hx _ => hb x ?_), h.ring.last m, h.kept.trans (Kept.setCell wr ⟨r, 4, none⟩ _ (fun x => x = r) rfl) (fun _ h => .inl h)⟩
  · rcases hh with rfl | rfl | rfl | hx'
    · exact hne h.run.ca (by decide)
    · exact hne h.run.cb (by decide)
    · obtain ⟨C, hC, -⟩ := h.run.there
      exact hne hC (by decide)
    · exact hNr x hx'
  · obtain ⟨C, hC⟩ := hx.2.2
    exact ⟨C, (hb x (hne hC (by decide))).trans hC⟩
  · obtain ⟨C, hC⟩ := hx.2.2
    exact hne hC (by decide)
/-- behind a write into a piece of its own -/
theorem GSt.aside (h : GSt w wr r q R S N a b g n v5 v6 n5 n6 xs L5 L6 last) {x0 : Nat} {C : Array Value} (h0 : wr.heap[x0]? = some (.cells C 81 (0, 0))) (hne : x0 ≠ g) (hNx : ∀ x, N x → x ≠ x0) (hx0 : w.heap.size ≤ x0) (hk : Kept wr w' (fun x => x = x0)) : GSt w w' r q R S N a b g n v5 v6 n5 n6 xs L5 L6 last := by
  have hb : ∀ x, x < wr.heap.size → x ≠ x0 → w'.heap[x]? = wr.heap[x]? := fun x hx hn => hk.block x hx hn
  have ht : ∀ {T : TypeId} {C : Array Value} {x : Nat}, wr.heap[x]? = some (.cells C T (0, 0)) → T ≠ 81 → x ≠ x0 := fun hc hT e => by
    subst e
    rw [h0] at hc
    injection hc with hc
    injection hc with _ hc
    exact hT hc.symm
  refine ⟨h.run.kept hk.size fun x hx hh => hb x hx ?_, row_same h.row fun x hx => hb x (h.row.lt x hx).2 (row_not h0 h.row (by decide) x hx), row_same h.rows fun x hx => hb x (h.rows.lt x hx).2 (row_not h0 h.rows (by decide) x hx), h.els.kept (fun x hx hl => ⟨hx.1, hx.2.1, ?_⟩) hk.size (fun x hx hl => hb x hl ?_), h.ring.kept (hb r h.ring.lt (ht h.ring (by decide))), h.kept.trans hk (fun x hx => .inr (by rw [hx]; exact hx0))⟩
  · rcases hh with rfl | rfl | rfl | hx'
    · exact ht h.run.ca (by decide)
    · exact ht h.run.cb (by decide)
    · exact Ne.symm hne
    · exact hNx x hx'
  · obtain ⟨C, hC⟩ := hx.2.2
    exact ⟨C, (hb x hl (ht hC (by decide))).trans hC⟩
  · obtain ⟨C, hC⟩ := hx.2.2
    exact ht hC (by decide)
end
end Go.Proofs.Ytplpfhgdanclhaa
