/-
  Two disks of the program's own, side by side; what a fuse does. No statement is proved here. No condition.
-/
import Derived.Test.YthchnnddnjibmaaApart
namespace Go.Proofs.Ythchnnddnjibmaa
open Go.RowKit Go.Maps

/-- Two disks of the program's own, above block B, that share no block that turns. -/
def Two (B : Nat) (w : World) (d : Nat) (D : DS) (x : Nat) (X : DS) : Prop := B ≤ w.heap.size ∧ ∃ G S H R, PD w G S d D ∧ PD w H R x X ∧ In B w G ∧ In B w H ∧ ∀ b, G b → ¬ H b
variable {B : Nat} {w w' : World} {d x : Nat} {D X : DS}
theorem Two.swap (h : Two B w d D x X) : Two B w x X d D := by
  obtain ⟨hB, G, S, H, R, h1, h2, h3, h4, h5⟩ := h
  exact ⟨hB, H, R, G, S, h2, h1, h4, h3, fun b hb hg => h5 b hg hb⟩
theorem Two.grow (h : Two B w d D x X) (hb : Below w.heap.size w w') : Two B w' d D x X := by
  obtain ⟨hB, G, S, H, R, h1, h2, h3, h4, h5⟩ := h
  exact ⟨Nat.le_trans hB hb.size, G, S, H, R, h1.kept (fun _ h => h) (fun _ h => h) (fun b hs _ => hb.block b hs) (fun b _ _ hs => hb.block b hs), h2.kept (fun _ h => h) (fun _ h => h) (fun b hs _ => hb.block b hs) (fun b _ _ hs => hb.block b hs), h3.grow hb.size, h4.grow hb.size, h5⟩
theorem Two.step {G S H R : Nat → Prop} {D' : DS} (hB : B ≤ w.heap.size) (h2 : PD w H R x X) (h3 : In B w G) (h4 : In B w H) (h5 : ∀ b, G b → ¬ H b) (k : Kept w w' (Mut G w)) (hd : PD w' (More G w w') (More S w w') d D') : Below B w w' ∧ Two B w' d D' x X := by
  refine ⟨k.belowIn h3 hB, Nat.le_trans hB k.size, _, _, H, R, hd, h2.beside k (fun b _ hh hg => h5 b hg hh), h3.more hB k.size, h4.grow k.size, fun b hb hh => ?_⟩
  rcases hb with hb | hb
  · exact h5 b hb hh
  · have := (h4 b hh).2
    omega
theorem two_write (h : Two B w d D x X) (i : Int) (v : Value) (s : List UInt8) (hv : Rd w w.heap.size v s) (hF : Fine D) :
    Calls Try.prog 13 #[.pointer (some ⟨d, 0, none⟩), .int .i64 i, v] w fun e w' => e = .returned (.int .i64 (D.write i s).1) ∧ Below B w w' ∧ Two B w' d (D.write i s).2 x X := by
  obtain ⟨hB, G, S, H, R, h1, h2, h3, h4, h5⟩ := h
  exact (pWrite_any G S d D i v s w h1 hv hF).mono fun e w' ⟨e1, e2, e3⟩ => ⟨e1, Two.step hB h2 h3 h4 h5 e2 e3⟩
theorem two_flush (h : Two B w d D x X) (hF : Fine D) :
    Calls Try.prog 15 #[.pointer (some ⟨d, 0, none⟩)] w fun e w' => e = .returned (.int .i64 D.flush.1) ∧ Below B w w' ∧ Two B w' d D.flush.2 x X := by
  obtain ⟨hB, G, S, H, R, h1, h2, h3, h4, h5⟩ := h
  exact (pFlush_any G S d D w h1 hF).mono fun e w' ⟨e1, e2, e3⟩ => ⟨e1, Two.step hB h2 h3 h4 h5 e2 e3⟩
theorem two_crash (h : Two B w d D x X) (v : Value) (kl : List Bool) (hv : RowAt w v kl.length 1 (KS kl)) (hkl : kl.length ≤ 140737488355328) (hF : Fine D) :
    Calls Try.prog 16 #[.pointer (some ⟨d, 0, none⟩), v] w fun e w' => e = .returned (.int .i64 (D.crashed kl).1) ∧ Below B w w' ∧ Two B w' d (D.crashed kl).2 x X := by
  obtain ⟨hB, G, S, H, R, h1, h2, h3, h4, h5⟩ := h
  exact (pCrash_any G S d D v kl w h1 hv hkl hF).mono fun e w' ⟨e1, e2, e3⟩ => ⟨e1, Two.step hB h2 h3 h4 h5 e2 e3⟩
theorem two_fuse (h : Two B w d D x X) (z : Int) (v : Value) (kl : List Bool) (hz : z < 9223372036854775808) (hv : RowAt w v kl.length 1 (KS kl)) (hkl : kl.length ≤ 140737488355328) :
    Calls Try.prog 12 #[.pointer (some ⟨d, 0, none⟩), .int .i64 z, v] w fun e w' => e = .returned (.int .i64 (D.lit z kl).1) ∧ Below B w w' ∧ Two B w' d (D.lit z kl).2 x X := by
  obtain ⟨hB, G, S, H, R, h1, h2, h3, h4, h5⟩ := h
  exact (pFuse_any G S d D z v kl w h1 hz hv hkl).mono fun e w' ⟨e1, e2, e3⟩ => ⟨e1, Two.step hB h2 h3 h4 h5 e2 e3⟩
theorem two_dead (h : Two B w d D x X) : Calls Try.prog 18 #[.pointer (some ⟨d, 0, none⟩)] w fun e w' => e = .returned (.bool D.dead) ∧ w = w' := by
  obtain ⟨hB, G, S, H, R, h1, -⟩ := h
  exact pDead_any G S d D w h1
theorem two_waits (h : Two B w d D x X) : Calls Try.prog 20 #[.pointer (some ⟨d, 0, none⟩)] w fun e w' => e = .returned (.int .i64 (D.waits.length : Int)) ∧ w = w' := by
  obtain ⟨hB, G, S, H, R, h1, -⟩ := h
  exact pWaits_any G S d D w h1
/-- opened again: a third disk, the first one is forgotten -/
theorem two_again (h : Two B w d D x X) (hd : D.dead = true) (hl : D.lasts.length ≤ 1000000) :
    Calls Try.prog 11 #[.pointer (some ⟨d, 0, none⟩)] w fun e w' => ∃ d', e = .returned (.tuple #[.pointer (some ⟨d', 0, none⟩), .int .i64 0]) ∧ Below w.heap.size w w' ∧ Two B w' d' D.again x X := by
  obtain ⟨hB, G, S, H, R, h1, h2, h3, h4, h5⟩ := h
  refine (pReopen_any G S d D w h1 hl).mono fun e w' ⟨e1, e2⟩ => ?_
  rw [if_pos hd] at e2
  obtain ⟨d', e3, e4⟩ := e2
  exact ⟨d', e3, e1, Nat.le_trans hB e1.size, _, _, H, R, e4, h2.kept (fun _ h => h) (fun _ h => h) (fun b hs _ => e1.block b hs) (fun b _ _ hs => e1.block b hs), In.made hB, h4.grow e1.size, fun b hb hh => by have h6 := hb.1; have h7 := (h4 b hh).2; omega⟩

/-- a disk that lives, of n sectors -/
structure Up (D : DS) (n : Nat) : Prop where
  dead : D.dead = false
  lasts : D.lasts.length = n
theorem Up.read_eq {D : DS} {n : Nat} (h : Up D n) {i : Nat} (hi : i < n) : D.read (i : Int) = (0, look D.lasts D.waits i) := by
  unfold DS.read inside
  rw [h.dead, h.lasts, decide_eq_true (show (0 : Int) ≤ (i : Int) by omega), decide_eq_true (show (i : Int) < (n : Int) by omega), Int.toNat_natCast]
  rfl
theorem two_read (h : Two B w d D x X) {n i : Nat} (hu : Up D n) (hi : i < n) (hF : Fine D) :
    Calls Try.prog 10 #[.pointer (some ⟨d, 0, none⟩), .int .i64 (i : Int)] w fun e w' => ∃ A c, e = .returned (.tuple #[.slice A (look D.lasts D.waits i).length c, .int .i64 0]) ∧ Rd w' w'.heap.size (.slice A (look D.lasts D.waits i).length c) (look D.lasts D.waits i) ∧ Below w.heap.size w w' ∧ Two B w' d D x X := by
  have h0 := h
  obtain ⟨hB, G, S, H, R, h1, -⟩ := h
  have hr := pRead_any G S d D (i : Int) w h1 hF.ok hF.lasts
  rw [hu.read_eq hi] at hr
  refine hr.mono fun e w' ⟨v, n, e1, e2, e3, e4⟩ => ?_
  subst e2
  obtain ⟨A, c, rfl, -⟩ := RowAt.of_own e3
  exact ⟨A, c, e1, Rd.own e3, e4, h0.grow e4⟩

/-- a disk with a fuse of r, and one like it without -/
structure FT (D X : DS) (kl : List Bool) (r : Nat) : Prop where
  dead : D.dead = false
  fuse : D.fuse = some r
  keep : D.keep = kl
  lasts : D.lasts = X.lasts
  waits : D.waits = X.waits
  live : Live X 7
/-- two disks that read alike -/
structure Same (D X : DS) (b : Bool) : Prop where
  dead1 : D.dead = b
  dead2 : X.dead = b
  lasts : D.lasts = X.lasts
  waits : D.waits = X.waits
  len : X.lasts.length = 7
variable {kl : List Bool} {r : Nat}
theorem FT.len (h : FT D X kl r) : D.lasts.length = 7 := by rw [h.lasts]; exact h.live.lasts
theorem FT.write_zero (h : FT D X kl 0) {i : Nat} (hi : i < 7) {s : List UInt8} (hs : s.length = 512) : D.write (i : Int) s = (20, (D.wrote i s).crash kl) := by
  unfold DS.write inside
  rw [h.dead, h.fuse, h.len, h.keep, decide_eq_true hs, decide_eq_true (show (0 : Int) ≤ (i : Int) by omega), decide_eq_true (show (i : Int) < ((7 : Nat) : Int) by omega), Int.toNat_natCast]
  rfl
theorem FT.write_succ (h : FT D X kl (r + 1)) {i : Nat} (hi : i < 7) {s : List UInt8} (hs : s.length = 512) : D.write (i : Int) s = (0, (D.wrote i s).tick) := by
  unfold DS.write inside
  rw [h.dead, h.fuse, h.len, decide_eq_true hs, decide_eq_true (show (0 : Int) ≤ (i : Int) by omega), decide_eq_true (show (i : Int) < ((7 : Nat) : Int) by omega), Int.toNat_natCast]
  simp
theorem FT.wrote (h : FT D X kl (r + 1)) (i : Nat) (s : List UInt8) : FT (D.wrote i s).tick (X.wrote i s).tick kl r :=
  ⟨h.dead, by unfold DS.tick DS.wrote; simp [h.fuse], h.keep, h.lasts, by show D.waits ++ _ = X.waits ++ _; rw [h.waits], h.live.wrote i s⟩
theorem FT.flush_zero (h : FT D X kl 0) : D.flush = (20, D.crash kl) := by
  unfold DS.flush
  rw [h.dead, h.fuse, h.keep]
  rfl
theorem FT.flush_succ (h : FT D X kl (r + 1)) : D.flush = (0, D.tick.flushed) := by
  unfold DS.flush
  rw [h.dead, h.fuse]
  simp
theorem FT.flushed (h : FT D X kl (r + 1)) : FT D.tick.flushed X.tick.flushed kl r :=
  ⟨h.dead, by unfold DS.flushed DS.tick; simp [h.fuse], h.keep, by show setAll D.lasts D.waits = setAll X.lasts X.waits; rw [h.lasts, h.waits], rfl, h.live.flushed⟩
theorem FT.same (h : FT D X kl r) : Same D X false := ⟨h.dead, h.live.dead, h.lasts, h.waits, h.live.lasts⟩
theorem FT.crash (h : FT D X kl r) : Same (D.crash kl) (X.crash kl) true := ⟨rfl, rfl, by show setAll D.lasts (keptOf D.waits kl) = setAll X.lasts (keptOf X.waits kl); rw [h.lasts, h.waits], rfl, by show (setAll X.lasts (keptOf X.waits kl)).length = 7; rw [setAll_length]; exact h.live.lasts⟩
theorem FT.crash_wrote (h : FT D X kl r) (i : Nat) (s : List UInt8) : Same ((D.wrote i s).crash kl) ((X.wrote i s).tick.crash kl) true := ⟨rfl, rfl, by show setAll D.lasts (keptOf (D.waits ++ _) kl) = setAll X.lasts (keptOf (X.waits ++ _) kl); rw [h.lasts, h.waits], rfl, by show (setAll X.lasts _).length = 7; rw [setAll_length]; exact h.live.lasts⟩
theorem Live.crashed_eq {n : Nat} (h : Live X n) (kl : List Bool) : X.crashed kl = (0, X.crash kl) := by unfold DS.crashed; rw [h.dead]; rfl
theorem Same.again {D X : DS} {b : Bool} (h : Same D X b) : Same D.again X.again false := ⟨rfl, rfl, h.lasts, rfl, h.len⟩
theorem Same.up1 {D X : DS} (h : Same D X false) : Up D 7 := ⟨h.dead1, by rw [h.lasts]; exact h.len⟩
theorem Same.up2 {D X : DS} (h : Same D X false) : Up X 7 := ⟨h.dead2, h.len⟩
end Go.Proofs.Ythchnnddnjibmaa
