/-
  One disk of the program's own, all of it above some block: each call in a form that the laws take. No statement is proved here. No condition.
-/
import Derived.Test.YtplpfhgdanclhaaPCopy
namespace Go.Proofs.Ytplpfhgdanclhaa
open Go.RowKit Go.Maps

/-- a disk that has seen at most k calls -/
structure Fit (D : DS) (k : Nat) : Prop where
  ok : D.ok
  done : D.done ≤ k
  waits : D.waits.length ≤ k
  lasts : D.lasts.length ≤ 65536
  keep : D.keep.length ≤ 140737488355328
theorem Fit.fine {D : DS} {k : Nat} (h : Fit D k) (hk : k < 1000000) : Fine D := ⟨h.ok, by have := h.done; omega, by have := h.waits; omega, by have := h.lasts; omega, h.keep⟩
theorem Fit.mono {D : DS} {k j : Nat} (h : Fit D k) (hk : k ≤ j) : Fit D j := ⟨h.ok, Nat.le_trans h.done hk, Nat.le_trans h.waits hk, h.lasts, h.keep⟩
theorem Fit.new {n : Nat} (hn : n ≤ 65536) : Fit (DS.new n) 0 := ⟨DS.ok_new n, Nat.le_refl _, Nat.le_refl _, by unfold DS.new; rw [List.length_replicate]; exact hn, by unfold DS.new; simp⟩
theorem Fit.crash {D : DS} {k : Nat} (h : Fit D k) (kl : List Bool) : Fit (D.crash kl) k := ⟨DS.ok_crash h.ok kl, h.done, Nat.zero_le _, by unfold DS.crash; rw [setAll_length]; exact h.lasts, h.keep⟩
theorem Fit.tick {D : DS} {k : Nat} (h : Fit D k) : Fit D.tick (k + 1) := ⟨h.ok, Nat.succ_le_succ h.done, Nat.le_succ_of_le h.waits, h.lasts, h.keep⟩
theorem Fit.wrote {D : DS} {k : Nat} (h : Fit D k) {i : Nat} {s : List UInt8} (hi : i < D.lasts.length) (hs : s.length = 512) : Fit (D.wrote i s) (k + 1) := ⟨DS.ok_wrote h.ok hi hs, Nat.le_succ_of_le h.done, by have := h.waits; unfold DS.wrote; simp; omega, h.lasts, h.keep⟩
theorem Fit.wroteTick {D : DS} {k : Nat} (h : Fit D k) {i : Nat} {s : List UInt8} (hi : i < D.lasts.length) (hs : s.length = 512) : Fit (D.wrote i s).tick (k + 1) := ⟨DS.ok_wrote h.ok hi hs, Nat.succ_le_succ h.done, (h.wrote hi hs).waits, h.lasts, h.keep⟩
theorem Fit.flushed {D : DS} {k : Nat} (h : Fit D k) : Fit D.flushed k := ⟨DS.ok_flushed h.ok, h.done, Nat.zero_le _, by unfold DS.flushed; rw [setAll_length]; exact h.lasts, h.keep⟩
theorem Fit.write {D : DS} {k : Nat} (h : Fit D k) (i : Int) (s : List UInt8) : Fit (D.write i s).2 (k + 1) := by
  unfold DS.write
  split
  · exact h.mono (Nat.le_succ _)
  · split
    · rename_i h1
      simp only [Bool.and_eq_true, decide_eq_true_eq] at h1
      obtain ⟨h1, h2⟩ := h1
      unfold inside at h1
      simp only [Bool.and_eq_true, decide_eq_true_eq] at h1
      split
      · exact (h.wrote (by omega) h2).crash _
      · exact h.wroteTick (by omega) h2
    · exact h.mono (Nat.le_succ _)
theorem Fit.flush {D : DS} {k : Nat} (h : Fit D k) : Fit D.flush.2 (k + 1) := by
  unfold DS.flush
  split
  · exact h.mono (Nat.le_succ _)
  · split
    · exact (h.crash _).mono (Nat.le_succ _)
    · exact h.tick.flushed
theorem Fit.crashed {D : DS} {k : Nat} (h : Fit D k) (kl : List Bool) : Fit (D.crashed kl).2 k := by
  unfold DS.crashed
  split
  · exact h
  · exact h.crash kl
theorem Fit.lit {D : DS} {k : Nat} (h : Fit D k) (z : Int) {kl : List Bool} (hl : kl.length ≤ 140737488355328) : Fit (D.lit z kl).2 k := by
  unfold DS.lit
  split
  · exact h
  · split
    · exact h
    · exact ⟨h.ok, h.done, h.waits, h.lasts, hl⟩
theorem Fit.again {D : DS} {k : Nat} (h : Fit D k) : Fit D.again k := ⟨⟨fun x hx => by simp [DS.again] at hx, h.ok.2⟩, Nat.zero_le _, Nat.zero_le _, h.lasts, by simp [DS.again]⟩

/-- blocks above B that are there -/
def In (B : Nat) (w : World) (G : Nat → Prop) : Prop := ∀ b, G b → B ≤ b ∧ b < w.heap.size
theorem In.more {B : Nat} {w w' : World} {G : Nat → Prop} (h : In B w G) (hB : B ≤ w.heap.size) (hs : w.heap.size ≤ w'.heap.size) : In B w' (More G w w') := fun b hb => hb.elim (fun hb => ⟨(h b hb).1, by have := (h b hb).2; omega⟩) fun hb => ⟨by omega, hb.2⟩
theorem In.made {B : Nat} {w w' : World} (hB : B ≤ w.heap.size) : In B w' (Made w w') := fun _ hb => ⟨Nat.le_trans hB hb.1, hb.2⟩
theorem In.grow {B : Nat} {w w' : World} {G : Nat → Prop} (h : In B w G) (hs : w.heap.size ≤ w'.heap.size) : In B w' G := fun b hb => ⟨(h b hb).1, by have := (h b hb).2; omega⟩
theorem Kept.belowIn {B : Nat} {w w' : World} {G : Nat → Prop} (h : Kept w w' (Mut G w)) (hG : In B w G) (hB : B ≤ w.heap.size) : Below B w w' := h.below hB fun b hb => (hG b hb.1).1

/-- One disk of the program's own, all above block B. -/
def One (B : Nat) (w : World) (q : Nat) (D : DS) : Prop := B ≤ w.heap.size ∧ ∃ G S, PD w G S q D ∧ In B w G
theorem One.step {B : Nat} {w w' : World} {G S : Nat → Prop} {q : Nat} {D' : DS} (hB : B ≤ w.heap.size) (hG : In B w G) (k : Kept w w' (Mut G w)) (h : PD w' (More G w w') (More S w w') q D') : Below B w w' ∧ One B w' q D' :=
  ⟨k.belowIn hG hB, Nat.le_trans hB k.size, _, _, h, hG.more hB k.size⟩
theorem One.grow {B : Nat} {w w' : World} {q : Nat} {D : DS} (h : One B w q D) (hb : Below w.heap.size w w') : One B w' q D := by
  obtain ⟨hB, G, S, hp, hG⟩ := h
  exact ⟨Nat.le_trans hB hb.size, G, S, hp.kept (fun _ h => h) (fun _ h => h) (fun b hs _ => hb.block b hs) (fun b _ _ hs => hb.block b hs), hG.grow hb.size⟩

variable {B : Nat} {w : World} {q : Nat} {D : DS} {k : Nat}
theorem one_new (B n : Nat) (z : Int) (w : World) (hz : z = (n : Int)) (hn1 : 1 ≤ n) (hn2 : n ≤ 65536) (hB : B ≤ w.heap.size) :
    Calls Try.prog 7 #[.int .i64 z] w fun e w' => ∃ q, e = .returned (.tuple #[.pointer (some ⟨q, 0, none⟩), .int .i64 0]) ∧ Below w.heap.size w w' ∧ One B w' q (DS.new n) := by
  subst hz
  exact (pNew_yes n w hn1 hn2).mono fun e w' ⟨h1, q, h2, h3⟩ => ⟨q, h2, h1, Nat.le_trans hB h1.size, _, _, h3, In.made hB⟩
theorem one_write (h : One B w q D) (i : Int) (v : Value) (s : List UInt8) (hv : Rd w w.heap.size v s) (hF : Fine D) :
    Calls Try.prog 21 #[.pointer (some ⟨q, 0, none⟩), .int .i64 i, v] w fun e w' => e = .returned (.int .i64 (D.write i s).1) ∧ Below B w w' ∧ One B w' q (D.write i s).2 := by
  obtain ⟨hB, G, S, hp, hG⟩ := h
  exact (pWrite_any G S q D i v s w hp hv hF).mono fun e w' ⟨h1, h2, h3⟩ => ⟨h1, One.step hB hG h2 h3⟩
theorem one_flush (h : One B w q D) (hF : Fine D) :
    Calls Try.prog 44 #[.pointer (some ⟨q, 0, none⟩)] w fun e w' => e = .returned (.int .i64 D.flush.1) ∧ Below B w w' ∧ One B w' q D.flush.2 := by
  obtain ⟨hB, G, S, hp, hG⟩ := h
  exact (pFlush_any G S q D w hp hF).mono fun e w' ⟨h1, h2, h3⟩ => ⟨h1, One.step hB hG h2 h3⟩
theorem one_crash (h : One B w q D) (v : Value) (kl : List Bool) (hv : RowAt w v kl.length 1 (KS kl)) (hkl : kl.length ≤ 140737488355328) (hF : Fine D) :
    Calls Try.prog 31 #[.pointer (some ⟨q, 0, none⟩), v] w fun e w' => e = .returned (.int .i64 (D.crashed kl).1) ∧ Below B w w' ∧ One B w' q (D.crashed kl).2 := by
  obtain ⟨hB, G, S, hp, hG⟩ := h
  exact (pCrash_any G S q D v kl w hp hv hkl hF).mono fun e w' ⟨h1, h2, h3⟩ => ⟨h1, One.step hB hG h2 h3⟩
theorem one_fuse (h : One B w q D) (z : Int) (v : Value) (kl : List Bool) (hz : z < 9223372036854775808) (hv : RowAt w v kl.length 1 (KS kl)) (hkl : kl.length ≤ 140737488355328) :
    Calls Try.prog 29 #[.pointer (some ⟨q, 0, none⟩), .int .i64 z, v] w fun e w' => e = .returned (.int .i64 (D.lit z kl).1) ∧ Below B w w' ∧ One B w' q (D.lit z kl).2 := by
  obtain ⟨hB, G, S, hp, hG⟩ := h
  exact (pFuse_any G S q D z v kl w hp hz hv hkl).mono fun e w' ⟨h1, h2, h3⟩ => ⟨h1, One.step hB hG h2 h3⟩
theorem one_read (h : One B w q D) (i : Int) (hF : Fine D) :
    Calls Try.prog 37 #[.pointer (some ⟨q, 0, none⟩), .int .i64 i] w fun e w' => ∃ v, e = .returned (.tuple #[v, .int .i64 (D.read i).1]) ∧ w'.ownsRow w.heap.size 99 1 v (D.read i).2.length (BS (D.read i).2) ∧ Below w.heap.size w w' ∧ One B w' q D := by
  obtain ⟨hB, G, S, hp, hG⟩ := h
  exact (pRead_any G S q D i w hp hF.ok hF.lasts).mono fun e w' ⟨v, n, h1, h2, h3, h4⟩ => by
    subst h2
    exact ⟨v, h1, h3, h4, One.grow ⟨hB, G, S, hp, hG⟩ h4⟩
theorem one_dead (h : One B w q D) : Calls Try.prog 30 #[.pointer (some ⟨q, 0, none⟩)] w fun e w' => e = .returned (.bool D.dead) ∧ w = w' := by
  obtain ⟨hB, G, S, hp, hG⟩ := h
  exact pDead_any G S q D w hp
theorem one_len (h : One B w q D) : Calls Try.prog 34 #[.pointer (some ⟨q, 0, none⟩)] w fun e w' => e = .returned (.int .i64 (D.lasts.length : Int)) ∧ w = w' := by
  obtain ⟨hB, G, S, hp, hG⟩ := h
  exact pLen_any G S q D w hp
theorem one_waits (h : One B w q D) : Calls Try.prog 16 #[.pointer (some ⟨q, 0, none⟩)] w fun e w' => e = .returned (.int .i64 (D.waits.length : Int)) ∧ w = w' := by
  obtain ⟨hB, G, S, hp, hG⟩ := h
  exact pWaits_any G S q D w hp
theorem one_again (h : One B w q D) (hd : D.dead = true) (hF : Fine D) :
    Calls Try.prog 32 #[.pointer (some ⟨q, 0, none⟩)] w fun e w' => ∃ q', e = .returned (.tuple #[.pointer (some ⟨q', 0, none⟩), .int .i64 0]) ∧ Below w.heap.size w w' ∧ One B w' q' D.again := by
  obtain ⟨hB, G, S, hp, hG⟩ := h
  refine (pReopen_any G S q D w hp hF.lasts).mono fun e w' ⟨h1, h2⟩ => ?_
  rw [if_pos hd] at h2
  obtain ⟨q', h3, h4⟩ := h2
  exact ⟨q', h3, h1, Nat.le_trans hB h1.size, _, _, h4, In.made hB⟩

theorem all512_length (c : UInt8) : (all512 c).length = 512 := List.length_replicate
end Go.Proofs.Ytplpfhgdanclhaa
