/-
  A disk of the program's own beside the document's. No statement is proved here. No condition.
-/
import Derived.Test.YthchnnddnjibmaaTwo
import Derived.Test.YthchnnddnjibmaaDRefF
namespace Go.Proofs.Ythchnnddnjibmaa
open Go.RowKit Go.Maps

/-- the program's disk d that stands as D, the document's x that stands as X, above block B, apart; none of it in the blocks N -/
def Mix (N : Nat → Prop) (B : Nat) (w : World) (d x : Nat) (D X : DS) : Prop := B ≤ w.heap.size ∧ ∃ G S F, PD w G S d D ∧ XD w F x X ∧ In B w G ∧ (∀ b, S b → b < w.heap.size) ∧ In B w F ∧ (∀ b, F b → ¬ G b ∧ ¬ S b) ∧ ∀ b, N b → b < w.heap.size ∧ ¬ G b ∧ ¬ S b ∧ ¬ F b
/-- the blocks N are as they were -/
def Held (N : Nat → Prop) (w w' : World) : Prop := ∀ b, N b → w'.heap[b]? = w.heap[b]?
variable {N : Nat → Prop} {B : Nat} {w w' : World} {d x : Nat} {D X : DS}
theorem Mix.base (h : Mix N B w d x D X) : B ≤ w.heap.size := h.1
theorem Mix.grow (h : Mix N B w d x D X) (hb : Below w.heap.size w w') : Mix N B w' d x D X := by
  obtain ⟨hB, G, S, F, h1, h2, h3, h4, h5, h6, h7⟩ := h
  have hs := hb.size
  refine ⟨Nat.le_trans hB hs, G, S, F, h1.kept (fun _ h => h) (fun _ h => h) (fun b hs _ => hb.block b hs) (fun b _ _ hs => hb.block b hs), h2.apart (G := fun _ => False) (Kept.ofBelow hb) (fun _ _ _ h => h), h3.grow hs, fun b hb => by have := h4 b hb; omega, h5.grow hs, h6, fun b hb => ⟨by have := (h7 b hb).1; omega, (h7 b hb).2⟩⟩
theorem Mix.stepP {G S F : Nat → Prop} {D' : DS} (hB : B ≤ w.heap.size) (h2 : XD w F x X) (h3 : In B w G) (h4 : ∀ b, S b → b < w.heap.size) (h5 : In B w F) (h6 : ∀ b, F b → ¬ G b ∧ ¬ S b) (hN : ∀ b, N b → b < w.heap.size ∧ ¬ G b ∧ ¬ S b ∧ ¬ F b) (k : Kept w w' (Mut G w)) (hd : PD w' (More G w w') (More S w w') d D') : Below B w w' ∧ Held N w w' ∧ Mix N B w' d x D' X := by
  have hs := k.size
  refine ⟨k.belowIn h3 hB, fun b hb => k.block b (hN b hb).1 (fun hm => (hN b hb).2.1 hm.1), Nat.le_trans hB hs, _, _, F, hd, h2.apart k (fun b _ hf hm => (h6 b hf).1 hm.1), h3.more hB hs, fun b hb => hb.elim (fun hb => by have := h4 b hb; omega) (fun hb => hb.2), h5.grow hs, fun b hf => ?_, fun b hb => ?_⟩
  · have h7 := (h5 b hf).2
    exact ⟨fun hb => hb.elim (h6 b hf).1 fun hb => by omega, fun hb => hb.elim (h6 b hf).2 fun hb => by omega⟩
  · obtain ⟨n1, n2, n3, n4⟩ := hN b hb
    exact ⟨by omega, fun hg => hg.elim n2 fun hg => by omega, fun hg => hg.elim n3 fun hg => by omega, n4⟩
theorem Mix.stepX {G S F : Nat → Prop} {X' : DS} (hB : B ≤ w.heap.size) (h1 : PD w G S d D) (h3 : In B w G) (h4 : ∀ b, S b → b < w.heap.size) (h5 : In B w F) (h6 : ∀ b, F b → ¬ G b ∧ ¬ S b) (hN : ∀ b, N b → b < w.heap.size ∧ ¬ G b ∧ ¬ S b ∧ ¬ F b) (k : Kept w w' F) (hx : XD w' (More F w w') x X') : Below B w w' ∧ Held N w w' ∧ Mix N B w' d x D X' := by
  have hs := k.size
  refine ⟨k.below hB fun b hb => (h5 b hb).1, fun b hb => k.block b (hN b hb).1 (hN b hb).2.2.2, Nat.le_trans hB hs, G, S, _, h1.apart k (fun b _ hf => h6 b hf), hx, h3.grow hs, fun b hb => by have := h4 b hb; omega, h5.more hB hs, fun b hf => ?_, fun b hb => ?_⟩
  · rcases hf with hf | hf
    · exact h6 b hf
    · exact ⟨fun hg => by have := (h3 b hg).2; omega, fun hg => by have := h4 b hg; omega⟩
  · obtain ⟨n1, n2, n3, n4⟩ := hN b hb
    exact ⟨by omega, n2, n3, fun hf => hf.elim n4 fun hf => by omega⟩

theorem mix_write (h : Mix N B w d x D X) (i : Int) (v : Value) (s : List UInt8) (hv : Rd w w.heap.size v s) (hF : Fine D) :
    Calls Try.prog 13 #[.pointer (some ⟨d, 0, none⟩), .int .i64 i, v] w fun e w' => e = .returned (.int .i64 (D.write i s).1) ∧ Below B w w' ∧ Held N w w' ∧ Mix N B w' d x (D.write i s).2 X := by
  obtain ⟨hB, G, S, F, h1, h2, h3, h4, h5, h6, h7⟩ := h
  exact (pWrite_any G S d D i v s w h1 hv hF).mono fun e w' ⟨e1, e2, e3⟩ => ⟨e1, Mix.stepP hB h2 h3 h4 h5 h6 h7 e2 e3⟩
theorem mix_flush (h : Mix N B w d x D X) (hF : Fine D) :
    Calls Try.prog 15 #[.pointer (some ⟨d, 0, none⟩)] w fun e w' => e = .returned (.int .i64 D.flush.1) ∧ Below B w w' ∧ Held N w w' ∧ Mix N B w' d x D.flush.2 X := by
  obtain ⟨hB, G, S, F, h1, h2, h3, h4, h5, h6, h7⟩ := h
  exact (pFlush_any G S d D w h1 hF).mono fun e w' ⟨e1, e2, e3⟩ => ⟨e1, Mix.stepP hB h2 h3 h4 h5 h6 h7 e2 e3⟩
theorem mix_crash (h : Mix N B w d x D X) (v : Value) (kl : List Bool) (hv : RowAt w v kl.length 1 (KS kl)) (hkl : kl.length ≤ 140737488355328) (hF : Fine D) :
    Calls Try.prog 16 #[.pointer (some ⟨d, 0, none⟩), v] w fun e w' => e = .returned (.int .i64 (D.crashed kl).1) ∧ Below B w w' ∧ Held N w w' ∧ Mix N B w' d x (D.crashed kl).2 X := by
  obtain ⟨hB, G, S, F, h1, h2, h3, h4, h5, h6, h7⟩ := h
  exact (pCrash_any G S d D v kl w h1 hv hkl hF).mono fun e w' ⟨e1, e2, e3⟩ => ⟨e1, Mix.stepP hB h2 h3 h4 h5 h6 h7 e2 e3⟩
theorem mix_fuse (h : Mix N B w d x D X) (z : Int) (v : Value) (kl : List Bool) (hz : z < 9223372036854775808) (hv : RowAt w v kl.length 1 (KS kl)) (hkl : kl.length ≤ 140737488355328) :
    Calls Try.prog 12 #[.pointer (some ⟨d, 0, none⟩), .int .i64 z, v] w fun e w' => e = .returned (.int .i64 (D.lit z kl).1) ∧ Below B w w' ∧ Held N w w' ∧ Mix N B w' d x (D.lit z kl).2 X := by
  obtain ⟨hB, G, S, F, h1, h2, h3, h4, h5, h6, h7⟩ := h
  exact (pFuse_any G S d D z v kl w h1 hz hv hkl).mono fun e w' ⟨e1, e2, e3⟩ => ⟨e1, Mix.stepP hB h2 h3 h4 h5 h6 h7 e2 e3⟩
theorem mix_read (h : Mix N B w d x D X) (i : Int) (hF : Fine D) :
    Calls Try.prog 10 #[.pointer (some ⟨d, 0, none⟩), .int .i64 i] w fun e w' => ∃ A c, e = .returned (.tuple #[.slice A (D.read i).2.length c, .int .i64 (D.read i).1]) ∧ w'.ownsRow w.heap.size 66 1 (.slice A (D.read i).2.length c) (D.read i).2.length (BS (D.read i).2) ∧ Below w.heap.size w w' ∧ Mix N B w' d x D X := by
  have h0 := h
  obtain ⟨hB, G, S, F, h1, -⟩ := h
  refine (pRead_any G S d D i w h1 hF.ok hF.lasts).mono fun e w' ⟨v, n, e1, e2, e3, e4⟩ => ?_
  subst e2
  obtain ⟨A, c, rfl, -⟩ := RowAt.of_own e3
  exact ⟨A, c, e1, e3, e4, h0.grow e4⟩
theorem mix_len (h : Mix N B w d x D X) : Calls Try.prog 19 #[.pointer (some ⟨d, 0, none⟩)] w fun e w' => e = .returned (.int .i64 (D.lasts.length : Int)) ∧ w = w' := by
  obtain ⟨hB, G, S, F, h1, -⟩ := h
  exact pLen_any G S d D w h1
theorem mix_waits (h : Mix N B w d x D X) : Calls Try.prog 20 #[.pointer (some ⟨d, 0, none⟩)] w fun e w' => e = .returned (.int .i64 (D.waits.length : Int)) ∧ w = w' := by
  obtain ⟨hB, G, S, F, h1, -⟩ := h
  exact pWaits_any G S d D w h1
theorem mix_done (h : Mix N B w d x D X) : Calls Try.prog 21 #[.pointer (some ⟨d, 0, none⟩)] w fun e w' => e = .returned (.int .i64 (D.done : Int)) ∧ w = w' := by
  obtain ⟨hB, G, S, F, h1, -⟩ := h
  exact pDone_any G S d D w h1
theorem mix_dead (h : Mix N B w d x D X) : Calls Try.prog 18 #[.pointer (some ⟨d, 0, none⟩)] w fun e w' => e = .returned (.bool D.dead) ∧ w = w' := by
  obtain ⟨hB, G, S, F, h1, -⟩ := h
  exact pDead_any G S d D w h1
theorem mix_again (h : Mix N B w d x D X) (hF : Fine D) :
    Calls Try.prog 11 #[.pointer (some ⟨d, 0, none⟩)] w fun e w' => Below w.heap.size w w' ∧ (if D.dead then ∃ d', e = .returned (.tuple #[.pointer (some ⟨d', 0, none⟩), .int .i64 0]) ∧ Mix N B w' d' x D.again X else e = .returned (.tuple #[.pointer none, .int .i64 50])) := by
  obtain ⟨hB, G, S, F, h1, h2, h3, h4, h5, h6, h7⟩ := h
  refine (pReopen_any G S d D w h1 hF.lasts).mono fun e w' ⟨e1, e2⟩ => ⟨e1, ?_⟩
  have hs := e1.size
  cases hd : D.dead with
  | false =>
    rw [hd] at e2
    exact e2
  | true =>
    rw [hd] at e2
    rw [if_pos rfl] at e2 ⊢
    obtain ⟨d', e3, e4⟩ := e2
    refine ⟨d', e3, Nat.le_trans hB hs, _, S, F, e4, h2.apart (G := fun _ => False) (Kept.ofBelow e1) (fun _ _ _ h => h), In.made hB, fun b hb => by have := h4 b hb; omega, h5.grow hs, fun b hf => ⟨fun hb => by have h7 := hb.1; have h8 := (h5 b hf).2; omega, (h6 b hf).2⟩, fun b hb => by obtain ⟨n1, n2, n3, n4⟩ := h7 b hb; exact ⟨by omega, fun hg => by have := hg.1; omega, n3, n4⟩⟩

/-- the document's calls -/
theorem mixX_write (h : Mix N B w d x D X) (i : Int) (b : ByteArray) (hF : Fine X) :
    Calls Try.prog 26 #[.pointer (some ⟨x, 0, none⟩), .int .i64 i, .string b] w fun e w' => e = .returned (.int .i64 (X.write i b.data.toList).1) ∧ Below B w w' ∧ Held N w w' ∧ Mix N B w' d x D (X.write i b.data.toList).2 := by
  obtain ⟨hB, G, S, F, h1, h2, h3, h4, h5, h6, h7⟩ := h
  exact (xwrite_any F x X i b w h2 hF.ok hF.done hF.waits hF.lasts).mono fun e w' ⟨e1, e2, e3⟩ => ⟨e1, Mix.stepX hB h1 h3 h4 h5 h6 h7 e2 e3⟩
theorem mixX_flush (h : Mix N B w d x D X) (hF : Fine X) :
    Calls Try.prog 27 #[.pointer (some ⟨x, 0, none⟩)] w fun e w' => e = .returned (.int .i64 X.flush.1) ∧ Below B w w' ∧ Held N w w' ∧ Mix N B w' d x D X.flush.2 := by
  obtain ⟨hB, G, S, F, h1, h2, h3, h4, h5, h6, h7⟩ := h
  exact (xFlush_any F x X w h2 hF.ok hF.done (Nat.le_of_lt hF.waits) hF.lasts).mono fun e w' ⟨e1, e2, e3⟩ => ⟨e1, Mix.stepX hB h1 h3 h4 h5 h6 h7 e2 (e3.mono More.here)⟩
theorem mixX_crash (h : Mix N B w d x D X) (v : Value) (kl : List Bool) (hv : RowAt w v kl.length 1 (KS kl)) (hb : 0 < kl.length → ∀ b, v.ownBlock = some b → b < B) (hF : Fine X) :
    Calls Try.prog 28 #[.pointer (some ⟨x, 0, none⟩), v] w fun e w' => e = .returned (.int .i64 (X.crashed kl).1) ∧ Below B w w' ∧ Held N w w' ∧ Mix N B w' d x D (X.crashed kl).2 := by
  obtain ⟨hB, G, S, F, h1, h2, h3, h4, h5, h6, h7⟩ := h
  exact (xCrash_any F x X v kl w h2 hF.ok hv (fun h0 b hv hf => by have h7 := hb h0 b hv; have h8 := (h5 b hf).1; omega) (Nat.le_of_lt hF.waits) hF.lasts).mono fun e w' ⟨e1, e2, e3⟩ => ⟨e1, Mix.stepX hB h1 h3 h4 h5 h6 h7 e2 (e3.mono More.here)⟩
theorem mixX_fuse (h : Mix N B w d x D X) (z : Int) (v : Value) (kl : List Bool) (hz : z ≤ 9223372036854775807) (hv : RowAt w v kl.length 1 (KS kl)) (hb : 0 < kl.length → ∀ b, v.ownBlock = some b → b < B) (hkl : kl.length ≤ 140737488355328) :
    Calls Try.prog 29 #[.pointer (some ⟨x, 0, none⟩), .int .i64 z, v] w fun e w' => e = .returned (.int .i64 (X.lit z kl).1) ∧ Below B w w' ∧ Held N w w' ∧ Mix N B w' d x D (X.lit z kl).2 := by
  obtain ⟨hB, G, S, F, h1, h2, h3, h4, h5, h6, h7⟩ := h
  exact (xFuse_any F x X z v kl w h2 hv (fun h0 b hv hf => by have h7 := hb h0 b hv; have h8 := (h5 b hf).1; omega) hkl hz).mono fun e w' ⟨e1, e2, e3⟩ => ⟨e1, Mix.stepX hB h1 h3 h4 h5 h6 h7 e2 e3⟩
theorem mixX_read (h : Mix N B w d x D X) (i : Int) (hF : Fine X) :
    Calls Try.prog 25 #[.pointer (some ⟨x, 0, none⟩), .int .i64 i] w fun e w' => e = .returned (.tuple #[.string ⟨(X.read i).2.toArray⟩, .int .i64 (X.read i).1]) ∧ w = w' := by
  obtain ⟨hB, G, S, F, h1, h2, -⟩ := h
  exact xRead_any F x X i w h2 (Nat.le_of_lt hF.waits) hF.lasts
theorem mixX_again (h : Mix N B w d x D X) (hF : Fine X) :
    Calls Try.prog 30 #[.pointer (some ⟨x, 0, none⟩)] w fun e w' => Below w.heap.size w w' ∧ (if X.dead then ∃ x', e = .returned (.tuple #[.pointer (some ⟨x', 0, none⟩), .int .i64 0]) ∧ Mix N B w' d x' D X.again else e = .returned (.tuple #[.pointer none, .int .i64 50])) := by
  obtain ⟨hB, G, S, F, h1, h2, h3, h4, h5, h6, h7⟩ := h
  refine (xReopen_any F x X w h2 hF.lasts).mono fun e w' ⟨e1, e2⟩ => ⟨e1, ?_⟩
  have hs := e1.size
  cases hd : X.dead with
  | false =>
    rw [hd] at e2
    exact e2
  | true =>
    rw [hd] at e2
    rw [if_pos rfl] at e2 ⊢
    obtain ⟨x', e3, e4⟩ := e2
    refine ⟨x', e3, Nat.le_trans hB hs, G, S, _, h1.kept (fun _ h => h) (fun _ h => h) (fun b hs _ => e1.block b hs) (fun b _ _ hs => e1.block b hs), e4, h3.grow hs, fun b hb => by have := h4 b hb; omega, In.made hB, fun b hb => ⟨fun hg => by have h7 := hb.1; have h8 := (h3 b hg).2; omega, fun hg => by have h7 := hb.1; have h8 := h4 b hg; omega⟩, fun b hb => by obtain ⟨n1, n2, n3, n4⟩ := h7 b hb; exact ⟨by omega, n2, n3, fun hg => by have := hg.1; omega⟩⟩
/-- the program's is copied; the copy goes on beside the document's -/
theorem mix_copy (h : Mix N B w d x D X) (hF : Fine D) :
    Calls Try.prog 17 #[.pointer (some ⟨d, 0, none⟩)] w fun e w' => Below w.heap.size w w' ∧ ∃ d', e = .returned (.pointer (some ⟨d', 0, none⟩)) ∧ Mix N B w' d x D X ∧ Two B w' d' D d D ∧ Mix N B w' d' x D X := by
  have h0 := h
  obtain ⟨hB, G, S, F, h1, h2, h3, h4, h5, h6, h7⟩ := h
  refine (pCopy_any G S d D w h1 (Nat.le_of_lt hF.waits) hF.lasts).mono fun e w' ⟨e1, d', e2, e3⟩ => ⟨e1, d', e2, h0.grow e1, ?_, ?_⟩
  · have hs := e1.size
    exact ⟨Nat.le_trans hB hs, _, S, G, S, e3, h1.kept (fun _ h => h) (fun _ h => h) (fun b hs _ => e1.block b hs) (fun b _ _ hs => e1.block b hs), In.made hB, h3.grow hs, fun b hm hg => by have h8 := hm.1; have h9 := (h3 b hg).2; omega⟩
  · have hs := e1.size
    exact ⟨Nat.le_trans hB hs, _, S, F, e3, h2.apart (G := fun _ => False) (Kept.ofBelow e1) (fun _ _ _ h => h), In.made hB, fun b hb => by have := h4 b hb; omega, h5.grow hs, fun b hf => ⟨fun hm => by have h8 := hm.1; have h9 := (h5 b hf).2; omega, (h6 b hf).2⟩, fun b hb => by obtain ⟨n1, n2, n3, n4⟩ := h7 b hb; exact ⟨by omega, fun hg => by have := hg.1; omega, n3, n4⟩⟩
/-- rows made since lie apart -/
theorem Mix.opened {M : Nat → Prop} (h : Mix M B w d x D X) (hb : Below w.heap.size w w') : Mix (fun b => w.heap.size ≤ b ∧ b < w'.heap.size) B w' d x D X := by
  obtain ⟨hB, G, S, F, h1, h2, h3, h4, h5, h6, h7⟩ := h
  have hs := hb.size
  refine ⟨Nat.le_trans hB hs, G, S, F, h1.kept (fun _ h => h) (fun _ h => h) (fun b hs _ => hb.block b hs) (fun b _ _ hs => hb.block b hs), h2.apart (G := fun _ => False) (Kept.ofBelow hb) (fun _ _ _ h => h), h3.grow hs, fun b hb => by have := h4 b hb; omega, h5.grow hs, h6, fun b hb => ⟨hb.2, fun hg => by have := (h3 b hg).2; omega, fun hg => by have := h4 b hg; omega, fun hg => by have := (h5 b hg).2; omega⟩⟩
/-- such a row is written -/
theorem Mix.row {g : Nat} (h : Mix N B w d x D X) (hg : N g) (k : w.grownBy w' (some g)) : Mix N B w' d x D X := by
  obtain ⟨hB, G, S, F, h1, h2, h3, h4, h5, h6, h7⟩ := h
  have hs := k.size
  obtain ⟨n1, n2, n3, n4⟩ := h7 g hg
  refine ⟨Nat.le_trans hB hs, G, S, F, h1.kept (fun _ h => h) (fun _ h => h) (fun b hs hm => k.block b hs (fun e => by injection e with e; subst e; exact n2 hm.1)) (fun b hS _ hs => k.block b hs (fun e => by injection e with e; subst e; exact n3 hS)), h2.apart (G := fun b => b = g) (Kept.grown k (fun b hb => by injection hb with hb; exact hb.symm)) (fun b _ hf e => by subst e; exact n4 hf), h3.grow hs, fun b hb => by have := h4 b hb; omega, h5.grow hs, h6, fun b hb => ⟨by have := (h7 b hb).1; omega, (h7 b hb).2⟩⟩
theorem Mix.held (h : Mix N B w d x D X) (hb : Below w.heap.size w w') : Held N w w' := by
  obtain ⟨hB, G, S, F, h1, h2, h3, h4, h5, h6, h7⟩ := h
  exact fun b hn => hb.block b (h7 b hn).1
theorem Held.trans {w'' : World} (h : Held N w w') (k : Held N w' w'') : Held N w w'' := fun b hb => (k b hb).trans (h b hb)
theorem Mix.closed (h : Mix N B w d x D X) : Mix Nil B w d x D X := by
  obtain ⟨hB, G, S, F, h1, h2, h3, h4, h5, h6, -⟩ := h
  exact ⟨hB, G, S, F, h1, h2, h3, h4, h5, h6, fun b hb => hb.elim⟩
end Go.Proofs.Ythchnnddnjibmaa
