/-
  The document's own disk (butteryref03) in memory, and what each call makes of it. Conditions: none but that it lies in memory and its lists are not too long.
-/
import Derived.Test.YthchnnddnjibmaaDPlain
import Derived.Deep.DeepCutAuto
import Derived.Deep.RegionWith
import Derived.BigRegion
import Derived.Lib.SmallJoins
namespace Go.Proofs.Ythchnnddnjibmaa
open Go.RowKit

def SS (l : List (List UInt8)) : List Value := l.map fun s => .string ⟨s.toArray⟩
def WS (l : List (Nat × List UInt8)) : List Value := l.flatMap fun x => [.int .i64 (x.1 : Int), .string ⟨x.2.toArray⟩]
def KS (l : List Bool) : List Value := l.map .bool
theorem WS_get {l : List (Nat × List UInt8)} {k : Nat} {x : Nat × List UInt8} (h : l[k]? = some x) : (WS l)[k * 2]? = some (.int .i64 (x.1 : Int)) ∧ (WS l)[k * 2 + 1]? = some (.string ⟨x.2.toArray⟩) := by
  induction l generalizing k with
  | nil => simp at h
  | cons y l ih =>
    cases k with
    | zero =>
      simp only [List.getElem?_cons_zero, Option.some.injEq] at h
      subst h
      exact ⟨rfl, rfl⟩
    | succ k =>
      have := ih (k := k) (by simpa using h)
      rw [show (k + 1) * 2 = k * 2 + 1 + 1 by omega]
      exact this
theorem WS_append (l m : List (Nat × List UInt8)) : WS (l ++ m) = WS l ++ WS m := by unfold WS; rw [List.flatMap_append]
theorem SS_set (l : List (List UInt8)) (i : Nat) (s : List UInt8) : SS (l.set i s) = (SS l).set i (.string ⟨s.toArray⟩) := by unfold SS; rw [List.map_set]
theorem SS_get {l : List (List UInt8)} {i : Nat} (h : i < l.length) : (SS l)[i]? = some (.string ⟨(l.getD i []).toArray⟩) := by
  unfold SS
  rw [List.getElem?_map, List.getElem?_eq_getElem h]
  simp [List.getD, h]
theorem KS_get {l : List Bool} {i : Nat} {b : Bool} (h : l[i]? = some b) : (KS l)[i]? = some (.bool b) := by unfold KS; rw [List.getElem?_map, h]; rfl

/-- The document's disk at block p, its blocks in F. -/
structure XR (w : World) (F : Nat → Prop) (p : Nat) (D : DS) (vl vw vk : Value) (left : Int) : Prop where
  inF : F p
  cells : w.heap[p]? = some (.cells #[vl, vw, .int .i64 (D.done : Int), .bool D.dead, .bool D.fuse.isSome, .int .i64 left, vk] 86 (0, 0))
  fuse : ∀ k, D.fuse = some k → left = (k : Int)
  small : ∀ k, D.fuse = some k → k < 9223372036854775808
  lasts : w.ownsRow 0 9 1 vl D.lasts.length (SS D.lasts)
  lastsF : ∀ b, vl.ownBlock = some b → F b
  waits : w.ownsRow 0 88 2 vw D.waits.length (WS D.waits)
  waitsF : ∀ b, vw.ownBlock = some b → F b
  keep : w.ownsRow 0 4 1 vk D.keep.length (KS D.keep)
  keepF : ∀ b, vk.ownBlock = some b → F b
def XD (w : World) (F : Nat → Prop) (p : Nat) (D : DS) : Prop := ∃ vl vw vk left, XR w F p D vl vw vk left

theorem XR.lt {w : World} {F : Nat → Prop} {p : Nat} {D : DS} {vl vw vk : Value} {left : Int} (h : XR w F p D vl vw vk left) : p < w.heap.size := (Array.getElem?_eq_some_iff.1 h.cells).1
theorem row_not {w : World} {p : Nat} {C : Array Value} {T e : TypeId} {base size n : Nat} {v : Value} {xs : List Value} (h : w.heap[p]? = some (.cells C T (0, 0))) (ho : w.ownsRow base e size v n xs) (hne : e ≠ T) : ∀ b, v.ownBlock = some b → b ≠ p := by
  intro b hb e1
  subst e1
  obtain ⟨cur, hc⟩ := row_type ho hb
  rw [hc] at h
  injection h with h
  injection h with _ h
  exact hne h
/-- The head block is written anew, and nothing else. -/
theorem XR.head {w w' : World} {F : Nat → Prop} {p : Nat} {D : DS} {vl vw vk : Value} {left : Int} (h : XR w F p D vl vw vk left) (hoth : ∀ b, b ≠ p → w'.heap[b]? = w.heap[b]?) {D' : DS} {left' : Int}
    (hcell : w'.heap[p]? = some (.cells #[vl, vw, .int .i64 (D'.done : Int), .bool D'.dead, .bool D'.fuse.isSome, .int .i64 left', vk] 86 (0, 0))) (hf : ∀ k, D'.fuse = some k → left' = (k : Int)) (hsm : ∀ k, D'.fuse = some k → k < 9223372036854775808) (h1 : D'.lasts = D.lasts) (h2 : D'.waits = D.waits) (h3 : D'.keep = D.keep) : XR w' F p D' vl vw vk left' :=
  ⟨h.inF, hcell, hf, hsm, by rw [h1]; exact row_same h.lasts fun b hb => hoth b (row_not h.cells h.lasts (by decide) b hb), h.lastsF, by rw [h2]; exact row_same h.waits fun b hb => hoth b (row_not h.cells h.waits (by decide) b hb), h.waitsF, by rw [h3]; exact row_same h.keep fun b hb => hoth b (row_not h.cells h.keep (by decide) b hb), h.keepF⟩

/-- It is there still where its blocks are. -/
theorem XR.kept {w w' : World} {F : Nat → Prop} {p : Nat} {D : DS} {vl vw vk : Value} {left : Int} (h : XR w F p D vl vw vk left) (hk : ∀ b, F b → b < w.heap.size → w'.heap[b]? = w.heap[b]?) : XR w' F p D vl vw vk left :=
  ⟨h.inF, (hk p h.inF h.lt).trans h.cells, h.fuse, h.small, row_same h.lasts fun b hb => hk b (h.lastsF b hb) (h.lasts.lt b hb).2, h.lastsF, row_same h.waits fun b hb => hk b (h.waitsF b hb) (h.waits.lt b hb).2, h.waitsF, row_same h.keep fun b hb => hk b (h.keepF b hb) (h.keep.lt b hb).2, h.keepF⟩
theorem XD.apart {w w' : World} {F G : Nat → Prop} {p : Nat} {D : DS} (h : XD w F p D) (k : Kept w w' G) (hFG : ∀ b, b < w.heap.size → F b → ¬ G b) : XD w' F p D := by
  obtain ⟨vl, vw, vk, left, h⟩ := h
  exact ⟨vl, vw, vk, left, h.kept fun b hb hs => k.block b hs (hFG b hs hb)⟩
theorem XR.drew {w : World} {F : Nat → Prop} {p : Nat} {D : DS} {vl vw vk : Value} {left : Int} (h : XR w F p D vl vw vk left) : XR w.drew F p D vl vw vk left := h.kept fun _ _ _ => rfl

theorem row7 {w : World} {p : Nat} {C : Array Value} {T : TypeId} (h : w.heap[p]? = some (.cells C T (0, 0))) : (∀ i, w.cell? ⟨p, i, none⟩ = C[i]?) ∧ (∀ i, w.frozen? ⟨p, i, none⟩ = false) :=
  ⟨fun i => cell_of_row w p i C T (0, 0) h, fun i => by simp [World.frozen?, h]⟩

theorem set_other {w : World} {p i : Nat} {u : Value} {b : Nat} (h : b ≠ p) : (w.setCell ⟨p, i, none⟩ u).heap[b]? = w.heap[b]? := Below.heap_setCell w ⟨p, i, none⟩ u b h

set_option maxHeartbeats 1000000 in
theorem xdue_any (F : Nat → Prop) (p : Nat) (D : DS) (w : World) (h : XD w F p D) (hd : D.done < 4611686018427387904) :
    Calls Try.prog 45 #[.pointer (some ⟨p, 0, none⟩)] w fun e w' => e = .returned (.bool (decide (D.fuse = some 0))) ∧ Kept w w' F ∧ XD w' F p (if D.fuse = some 0 then D else D.tick) := by
  obtain ⟨vl, vw, vk, left, h⟩ := h
  obtain ⟨hc, hz⟩ := row7 h.cells
  have c2 : w.cell? ⟨p, 2, none⟩ = some (.int .i64 (D.done : Int)) := hc 2
  have c4 : w.cell? ⟨p, 4, none⟩ = some (.bool D.fuse.isSome) := hc 4
  have c5 : w.cell? ⟨p, 5, none⟩ = some (.int .i64 left) := hc 5
  have z2 := hz 2
  have z5 := hz 5
  by_cases h0 : D.fuse = some 0
  · have hl := h.fuse 0 h0
    have c4' : w.cell? ⟨p, 4, none⟩ = some (.bool true) := by rw [h0] at c4; exact c4
    have c5' : w.cell? ⟨p, 5, none⟩ = some (.int .i64 0) := by rw [hl] at c5; exact c5
    have hdec : decide (D.fuse = some 0) = true := decide_eq_true h0
    rw [if_pos h0, hdec]
    have H := Lib.hid h
    clear hc hz c4 c5 h hl h0 hdec
    go_enter Try.func45, Try.ntmps45
    go_wp2_with fail
    go_ret
    exact ⟨rfl, Kept.refl _ _, _, _, _, _, H.out⟩
  · have hdec : decide (D.fuse = some 0) = false := decide_eq_false h0
    rw [if_neg h0, hdec]
    have hleft : D.fuse.isSome = true → (left == 0) = false := by
      intro hs
      obtain ⟨k, hk⟩ := Option.isSome_iff_exists.1 hs
      have := h.fuse k hk
      simp
      intro e
      apply h0
      rw [hk]
      congr 1
      omega
    have hnext : ∀ k, D.tick.fuse = some k → wrap64 (left - 1) = (k : Int) := by
      intro k hk
      unfold DS.tick at hk
      obtain ⟨k0, hk0, hk1⟩ := Option.map_eq_some_iff.1 hk
      have h1 := h.fuse k0 hk0
      have h2 : k0 ≠ 0 := fun e => h0 (by rw [hk0, e])
      have h3 := h.small k0 hk0
      rw [h1]
      unfold wrap64
      omega
    have hsmall : ∀ k, D.tick.fuse = some k → k < 9223372036854775808 := by
      intro k hk
      unfold DS.tick at hk
      obtain ⟨k0, hk0, hk1⟩ := Option.map_eq_some_iff.1 hk
      have h3 := h.small k0 hk0
      omega
    have hfin : ∀ l', l' = wrap64 (left - 1) → XR ((w.setCell ⟨p, 5, none⟩ (.int .i64 l')).setCell ⟨p, 2, none⟩ (.int .i64 ((D.done : Int) + 1))) F p D.tick vl vw vk l' := by
      intro l' hl'
      refine h.head (fun b hb => (set_other hb).trans (set_other hb)) ?_ (fun k hk => hl'.trans (hnext k hk)) (fun k hk => hsmall k hk) rfl rfl rfl
      rw [Joins.block_setCell (Joins.block_setCell h.cells _) _]
      unfold DS.tick
      simp
    have HN := Lib.hid hfin
    have hp := h.inF
    cases hs : D.fuse.isSome with
    | false =>
      rw [hs] at c4
      clear hc hz h h0 hdec hnext hfin hleft
      go_enter Try.func45, Try.ntmps45
      go_wp2_with fail
      go_ret
      exact ⟨rfl, (Kept.setCell _ _ _ _ hp).trans (Kept.setCell _ _ _ _ hp) (fun _ h => .inl h), _, _, _, _, HN.out _ rfl⟩
    | true =>
      rw [hs] at c4
      have hl := hleft hs
      clear hc hz h h0 hdec hnext hfin hleft
      go_enter Try.func45, Try.ntmps45
      go_wp2_with fail
      go_ret
      exact ⟨rfl, (Kept.setCell _ _ _ _ hp).trans (Kept.setCell _ _ _ _ hp) (fun _ h => .inl h), _, _, _, _, HN.out _ rfl⟩

/-- a row that is read is kept where its block is -/
theorem RowAt.kept {w w' : World} {v : Value} {n size : Nat} {xs : List Value} (h : RowAt w v n size xs) (hk : ∀ b, v.ownBlock = some b → w'.heap[b]? = w.heap[b]?) : RowAt w' v n size xs := by
  obtain ⟨A, c, rfl, h1, h2, h3, h4, h5⟩ := h
  refine ⟨A, c, rfl, h1, h2, h3, h4, fun hn => ?_⟩
  obtain ⟨b, o, rfl, hc⟩ := h5 hn
  exact ⟨b, o, rfl, fun j u hu => (World.cell?_of_block (hk b rfl)).trans (hc j u hu)⟩
theorem own_eq {w : World} {b1 b2 : Nat} {e : TypeId} {size : Nat} {v : Value} {n m : Nat} {xs ys : List Value} (h : w.ownsRow b1 e size v n xs) (hn : n = m) (hx : xs = ys) (hb : b2 ≤ b1) : w.ownsRow b2 e size v m ys := by
  subst hn
  subst hx
  exact World.ownsRow.mono h hb

/-- One sector of what lasts is written anew. -/
theorem XR.setLast {w : World} {F : Nat → Prop} {p : Nat} {D : DS} {vw vk : Value} {left : Int} {gl cl : Nat} (h : XR w F p D (.slice (some ⟨gl, 0, none⟩) D.lasts.length cl) vw vk left) (a : Nat) (s : List UInt8) :
    XR (w.setCell ⟨gl, a, none⟩ (.string ⟨s.toArray⟩)) F p { D with lasts := D.lasts.set a s } (.slice (some ⟨gl, 0, none⟩) D.lasts.length cl) vw vk left := by
  have hp : p ≠ gl := fun e => row_not h.cells h.lasts (by decide) gl rfl e.symm
  have hst := (h.lasts.stored a (.string ⟨s.toArray⟩)).1
  rw [← SS_set] at hst
  refine ⟨h.inF, (set_other hp).trans h.cells, h.fuse, h.small, ?_, h.lastsF, row_same h.waits fun b hb => set_other ?_, h.waitsF, row_same h.keep fun b hb => set_other ?_, h.keepF⟩
  · exact own_eq hst (by simp) rfl (Nat.le_refl _)
  · exact rows_apart h.waits h.lasts (by decide) hb rfl
  · exact rows_apart h.keep h.lasts (by decide) hb rfl

/-- What waits is forgotten. -/
theorem XR.emptied {w w' : World} {F : Nat → Prop} {p : Nat} {D : DS} {vl vw vk : Value} {left : Int} (h : XR w F p D vl vw vk left) (hoth : ∀ b, b ≠ p → w'.heap[b]? = w.heap[b]?) {D' : DS}
    (hcell : w'.heap[p]? = some (.cells #[vl, .slice none 0 0, .int .i64 (D'.done : Int), .bool D'.dead, .bool D'.fuse.isSome, .int .i64 left, vk] 86 (0, 0))) (hf : D'.fuse = D.fuse) (h1 : D'.lasts = D.lasts) (h2 : D'.waits = []) (h3 : D'.keep = D.keep) : XR w' F p D' vl (.slice none 0 0) vk left :=
  ⟨h.inF, hcell, by rw [hf]; exact h.fuse, by rw [hf]; exact h.small, by rw [h1]; exact row_same h.lasts fun b hb => hoth b (row_not h.cells h.lasts (by decide) b hb), h.lastsF, by rw [h2]; exact World.ownsRow_nil _ _ _ _, (fun b hb => by cases hb), by rw [h3]; exact row_same h.keep fun b hb => hoth b (row_not h.cells h.keep (by decide) b hb), h.keepF⟩

set_option maxHeartbeats 2000000 in
theorem xcrash_at (F : Nat → Prop) (p : Nat) (D : DS) (vl vw vk vks : Value) (left : Int) (ks : List Bool) (w : World) (h : XR w F p D vl vw vk left) (hok : D.ok) (hks : RowAt w vks ks.length 1 (KS ks)) (hne : 0 < ks.length → ∀ b, vks.ownBlock = some b → vl.ownBlock ≠ some b)
    (hlen : D.waits.length ≤ 1000000) (hll : D.lasts.length ≤ 1000000) :
    Calls Try.prog 46 #[.pointer (some ⟨p, 0, none⟩), vks] w fun e w' => e = .returned (.tuple #[]) ∧ Kept w w' F ∧ XD w' F p (D.crash ks) := by
  have HKS := Lib.hid hks
  obtain ⟨Ak, ck, rfl, -⟩ := hks
  have hp := h.inF
  have HNE := Lib.hid hne
  clear hne
  go_enter Try.func46, Try.ntmps46
  go_wp2_with fail
  go_loopw [4] (fun i wr => ∃ j : Nat, i = .int .i64 j ∧ j ≤ D.waits.length ∧ j ≤ ks.length ∧ Hid (XR wr F p { D with lasts := setAll D.lasts (keptOf (D.waits.take j) (ks.take j)) } vl vw vk left) ∧ Hid (RowAt wr (.slice Ak ks.length ck) ks.length 1 (KS ks)) ∧ Kept w wr F) (fun i _ => D.waits.length - (intOf i).toNat)
  case atStart => exact ⟨0, rfl, by omega, by omega, h, HKS.out, Kept.refl _ _⟩
  case round =>
    obtain ⟨j, rfl, hj1, hj2, hx, hk, hkept⟩ := hrel
    clear h
    have hc := (row7 hx.out.cells).1
    have c1 : wr.cell? ⟨p, 1, none⟩ = some vw := hc 1
    obtain ⟨_, _, hvw, -⟩ := RowAt.of_own hx.out.waits
    have hvw' : ∃ Aw cw, vw = .slice Aw D.waits.length cw := ⟨_, _, hvw⟩
    clear hvw
    obtain ⟨Aw, cw, rfl⟩ := hvw'
    by_cases hin : j < D.waits.length ∧ j < ks.length
    · obtain ⟨hin1, hin2⟩ := hin
      have i1 : (j : Int) < (D.waits.length : Int) := by omega
      have i2 : (j : Int) < (ks.length : Int) := by omega
      have i0 : (0 : Int) ≤ (j : Int) := by omega
      have hxj : D.waits[j]? = some D.waits[j] := List.getElem?_eq_getElem hin1
      have hbj : ks[j]? = some ks[j] := List.getElem?_eq_getElem hin2
      have hsn := keptOf_snoc hxj hbj
      have hwhole := hok.1 _ (List.getElem_mem hin1)
      obtain ⟨⟨a, sx⟩, hxx⟩ : ∃ x, x = D.waits[j] := ⟨_, rfl⟩
      obtain ⟨bj, hbb⟩ : ∃ b, b = ks[j] := ⟨_, rfl⟩
      rw [← hxx] at hxj hsn hwhole
      rw [← hbb] at hbj hsn
      clear hxx hbb
      obtain ⟨_, _, he, _, _, _, _, hkc⟩ := hk.out
      injection he with e1 _ e2
      subst e1
      subst e2
      obtain ⟨bk, ok, rfl, hkc2⟩ := hkc (by omega)
      have k0 : wr.cell? ⟨bk, ok + j, none⟩ = some (.bool bj) := hkc2 j _ (KS_get hbj)
      cases bj with
      | false =>
        have hsn' : keptOf (D.waits.take (j + 1)) (ks.take (j + 1)) = keptOf (D.waits.take j) (ks.take j) := hsn.trans (List.append_nil _)
        rw [← hsn'] at hx
        clear hsn hsn' hkc hkc2 hc
        go_wp2_with fail
        exact ⟨⟨j + 1, by go_num, hin1, hin2, hx, hk, hkept⟩, by simp [intOf]; omega⟩
      | true =>
        have hsn' : keptOf (D.waits.take (j + 1)) (ks.take (j + 1)) = keptOf (D.waits.take j) (ks.take j) ++ [(a, sx)] := hsn
        have hnew : setAll D.lasts (keptOf (D.waits.take (j + 1)) (ks.take (j + 1))) = (setAll D.lasts (keptOf (D.waits.take j) (ks.take j))).set a sx := by rw [hsn', setAll_snoc]
        have hL : (setAll D.lasts (keptOf (D.waits.take j) (ks.take j))).length = D.lasts.length := setAll_length _ _
        obtain ⟨L, hLL⟩ : ∃ L, L = setAll D.lasts (keptOf (D.waits.take j) (ks.take j)) := ⟨_, rfl⟩
        rw [← hLL] at hL hnew hx
        have ha : a < D.lasts.length := hwhole.1
        have hlr : wr.ownsRow 0 9 1 vl L.length (SS L) := hx.out.lasts
        obtain ⟨gl, cl, hvl, -, hgl⟩ := hlr.form (by omega)
        have hwr : wr.ownsRow 0 88 2 (.slice Aw D.waits.length cw) D.waits.length (WS D.waits) := hx.out.waits
        obtain ⟨gw, cw', hvw, -, hgw⟩ := hwr.form (by omega)
        injection hvw with e1 _ e2
        subst e1
        subst e2
        rw [hL] at hvl
        subst hvl
        have c0 : wr.cell? ⟨p, 0, none⟩ = some (.slice (some ⟨gl, 0, none⟩) D.lasts.length cl) := hc 0
        obtain ⟨w1, w2⟩ := WS_get hxj
        have k1 : wr.cell? ⟨gw, j * 2, none⟩ = some (.int .i64 (a : Int)) := (hwr.cellAt (j * 2) (by omega)).trans w1
        have k2 : wr.cell? ⟨gw, j * 2 + 1, none⟩ = some (.string ⟨sx.toArray⟩) := (hwr.cellAt (j * 2 + 1) (by omega)).trans w2
        have k3 : wr.cell? ⟨gl, a, none⟩ = some (.string ⟨(L.getD a []).toArray⟩) := by
          rw [hL] at hlr
          exact (hlr.cellAt a (by omega)).trans (SS_get (by omega))
        have z3 : wr.frozen? ⟨gl, a, none⟩ = false := by
          rw [hL] at hlr
          exact hlr.frozenAt a
        have a0 : (0 : Int) ≤ (a : Int) := by omega
        have a1 : (a : Int) < (D.lasts.length : Int) := by omega
        have hset : XR (wr.setCell ⟨gl, a, none⟩ (.string ⟨sx.toArray⟩)) F p { D with lasts := L.set a sx } (.slice (some ⟨gl, 0, none⟩) D.lasts.length cl) (.slice (some ⟨gw, 0, none⟩) D.waits.length cw) vk left := by
          have h0 : XR wr F p { D with lasts := L } (.slice (some ⟨gl, 0, none⟩) ({ D with lasts := L } : DS).lasts.length cl) (.slice (some ⟨gw, 0, none⟩) D.waits.length cw) vk left := by
            rw [show ({ D with lasts := L } : DS).lasts.length = D.lasts.length from hL]
            exact hx.out
          have h1 := XR.setLast h0 a sx
          rw [show ({ D with lasts := L } : DS).lasts.length = D.lasts.length from hL] at h1
          exact h1
        have hF : F gl := hx.out.lastsF gl rfl
        have hk2 : RowAt (wr.setCell ⟨gl, a, none⟩ (.string ⟨sx.toArray⟩)) (.slice (some ⟨bk, ok, none⟩) ks.length ck) ks.length 1 (KS ks) := hk.out.kept fun b hb => set_other (by injection hb with hb; subst hb; intro e; exact HNE.out (by omega) _ rfl (by rw [← e]; rfl))
        have hkp2 := hkept.trans (Kept.setCell wr ⟨gl, a, none⟩ (.string ⟨sx.toArray⟩) F hF) (fun _ h => .inl h)
        rw [← hnew] at hset
        have HSET := Lib.hid hset
        have HK2 := Lib.hid hk2
        clear hset hk2 hkc hkc2 hc hsn hsn' hnew hLL hlr hwr w1 w2 hx hk hkept hwhole
        go_wp2_with fail
        go_region
        all_goals go_wp2_with fail
        all_goals exact ⟨⟨j + 1, by go_num, hin1, hin2, HSET.out.drew, HK2.out, hkp2.trans (Kept.drew _ F) (fun _ h => .inl h)⟩, by simp [intOf]; omega⟩
    · have hj : j = min D.waits.length ks.length := by omega
      have hall := keptOf_all D.waits ks hj
      rw [hall] at hx
      have z1 : wr.frozen? ⟨p, 1, none⟩ = false := (row7 hx.out.cells).2 1
      have c3 : wr.cell? ⟨p, 3, none⟩ = some (.bool D.dead) := hc 3
      have z3 : wr.frozen? ⟨p, 3, none⟩ = false := (row7 hx.out.cells).2 3
      have hfin : XR ((wr.setCell ⟨p, 1, none⟩ (.slice none 0 0)).setCell ⟨p, 3, none⟩ (.bool true)) F p (D.crash ks) vl (.slice none 0 0) vk left := by
        refine hx.out.emptied (fun b hb => (set_other hb).trans (set_other hb)) ?_ rfl rfl rfl rfl
        rw [Joins.block_setCell (Joins.block_setCell hx.out.cells _) _]
        unfold DS.crash
        simp
      have HFIN := Lib.hid hfin
      have hkp := hkept.trans ((Kept.setCell wr ⟨p, 1, none⟩ (.slice none 0 0) F hp).trans (Kept.setCell _ ⟨p, 3, none⟩ (.bool true) F hp) (fun _ h => .inl h)) (fun _ h => .inl h)
      have HKP := Lib.hid hkp
      have key : (¬ j < D.waits.length) ∨ (j < D.waits.length ∧ ¬ j < ks.length) := by omega
      clear hfin hkp hc hall hx hj hin
      rcases key with hk1 | ⟨hk1, hk2⟩
      · have i1 : ¬ (j : Int) < (D.waits.length : Int) := by omega
        clear hk1
        go_wp2_with fail
        go_end0
        exact ⟨rfl, HKP.out, _, _, _, _, HFIN.out⟩
      · have i1 : (j : Int) < (D.waits.length : Int) := by omega
        have i2 : ¬ (j : Int) < (ks.length : Int) := by omega
        clear hk1 hk2
        go_wp2_with fail
        go_end0
        exact ⟨rfl, HKP.out, _, _, _, _, HFIN.out⟩
end Go.Proofs.Ythchnnddnjibmaa
