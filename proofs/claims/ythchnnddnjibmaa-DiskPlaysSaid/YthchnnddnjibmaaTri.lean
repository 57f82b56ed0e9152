/-
  A disk, its copy, and the document's copy; steps as an argument. No statement is proved here. No condition.
-/
import Derived.Test.YthchnnddnjibmaaAlike
import Derived.Test.YthchnnddnjibmaaLasts
namespace Go.Proofs.Ythchnnddnjibmaa
open Go.RowKit Go.Maps

/-- the old disk d, its copy o, the document's y -/
def Tri (N : Nat → Prop) (B : Nat) (w : World) (d : Nat) (D0 : DS) (o y : Nat) (D : DS) : Prop := B ≤ w.heap.size ∧ ∃ G R G' S F, PD w G R d D0 ∧ PD w G' S o D ∧ XD w F y D ∧ In B w G ∧ In B w G' ∧ (∀ b, S b → b < w.heap.size) ∧ In B w F ∧ (∀ b, F b → ¬ G b ∧ ¬ G' b ∧ ¬ S b) ∧ (∀ b, G b → ¬ G' b) ∧ ∀ b, N b → b < w.heap.size ∧ ¬ G b ∧ ¬ G' b ∧ ¬ S b ∧ ¬ F b
variable {N : Nat → Prop} {B : Nat} {w w' : World} {d o y : Nat} {D0 D : DS}
theorem Tri.grow (h : Tri N B w d D0 o y D) (hb : Below w.heap.size w w') : Tri N B w' d D0 o y D := by
  obtain ⟨hB, G, R, G', S, F, h1, h2, h3, h4, h5, h6, h7, h8, h9, h10⟩ := h
  have hs := hb.size
  exact ⟨Nat.le_trans hB hs, G, R, G', S, F, h1.kept (fun _ h => h) (fun _ h => h) (fun b hs _ => hb.block b hs) (fun b _ _ hs => hb.block b hs), h2.kept (fun _ h => h) (fun _ h => h) (fun b hs _ => hb.block b hs) (fun b _ _ hs => hb.block b hs), h3.apart (G := fun _ => False) (Kept.ofBelow hb) (fun _ _ _ h => h), h4.grow hs, h5.grow hs, fun b hb => by have := h6 b hb; omega, h7.grow hs, h8, h9, fun b hb => ⟨by have := (h10 b hb).1; omega, (h10 b hb).2⟩⟩
theorem Tri.held (h : Tri N B w d D0 o y D) (hb : Below w.heap.size w w') : Held N w w' := by
  obtain ⟨hB, G, R, G', S, F, h1, h2, h3, h4, h5, h6, h7, h8, h9, h10⟩ := h
  exact fun b hn => hb.block b (h10 b hn).1
theorem Tri.mix (h : Tri N B w d D0 o y D) : Mix N B w o y D D := by
  obtain ⟨hB, G, R, G', S, F, h1, h2, h3, h4, h5, h6, h7, h8, h9, h10⟩ := h
  exact ⟨hB, G', S, F, h2, h3, h5, h6, h7, fun b hf => (h8 b hf).2, fun b hb => ⟨(h10 b hb).1, (h10 b hb).2.2⟩⟩
theorem tri_write (h : Tri N B w d D0 o y D) (i : Int) (v : Value) (s : List UInt8) (hv : Rd w w.heap.size v s) (hF : Fine D0) :
    Calls Try.prog 13 #[.pointer (some ⟨d, 0, none⟩), .int .i64 i, v] w fun e w' => (∃ c, e = .returned (.int .i64 c)) ∧ Below B w w' ∧ Held N w w' ∧ Tri N B w' d (D0.write i s).2 o y D := by
  obtain ⟨hB, G, R, G', S, F, h1, h2, h3, h4, h5, h6, h7, h8, h9, h10⟩ := h
  refine (pWrite_any G R d D0 i v s w h1 hv hF).mono fun e w' ⟨e1, e2, e3⟩ => ⟨⟨_, e1⟩, e2.belowIn h4 hB, fun b hb => e2.block b (h10 b hb).1 (fun hm => (h10 b hb).2.1 hm.1), ?_⟩
  have hs := e2.size
  exact ⟨Nat.le_trans hB hs, _, _, G', S, F, e3, h2.beside e2 (fun b _ hg hh => h9 b hh hg), h3.apart e2 (fun b _ hf hm => (h8 b hf).1 hm.1), h4.more hB hs, h5.grow hs, fun b hb => by have := h6 b hb; omega, h7.grow hs, fun b hf => ⟨fun hg => hg.elim (h8 b hf).1 fun hg => by have := (h7 b hf).2; omega, (h8 b hf).2⟩, fun b hg hm => hg.elim (fun hg => h9 b hg hm) fun hg => by have := (h5 b hm).2; omega, fun b hb => by obtain ⟨n1, n2, n3⟩ := h10 b hb; exact ⟨by omega, fun hg => hg.elim n2 fun hg => by omega, n3⟩⟩
theorem tri_flush (h : Tri N B w d D0 o y D) (hF : Fine D0) :
    Calls Try.prog 15 #[.pointer (some ⟨d, 0, none⟩)] w fun e w' => (∃ c, e = .returned (.int .i64 c)) ∧ Below B w w' ∧ Held N w w' ∧ Tri N B w' d D0.flush.2 o y D := by
  obtain ⟨hB, G, R, G', S, F, h1, h2, h3, h4, h5, h6, h7, h8, h9, h10⟩ := h
  refine (pFlush_any G R d D0 w h1 hF).mono fun e w' ⟨e1, e2, e3⟩ => ⟨⟨_, e1⟩, e2.belowIn h4 hB, fun b hb => e2.block b (h10 b hb).1 (fun hm => (h10 b hb).2.1 hm.1), ?_⟩
  have hs := e2.size
  exact ⟨Nat.le_trans hB hs, _, _, G', S, F, e3, h2.beside e2 (fun b _ hg hh => h9 b hh hg), h3.apart e2 (fun b _ hf hm => (h8 b hf).1 hm.1), h4.more hB hs, h5.grow hs, fun b hb => by have := h6 b hb; omega, h7.grow hs, fun b hf => ⟨fun hg => hg.elim (h8 b hf).1 fun hg => by have := (h7 b hf).2; omega, (h8 b hf).2⟩, fun b hg hm => hg.elim (fun hg => h9 b hg hm) fun hg => by have := (h5 b hm).2; omega, fun b hb => by obtain ⟨n1, n2, n3⟩ := h10 b hb; exact ⟨by omega, fun hg => hg.elim n2 fun hg => by omega, n3⟩⟩
theorem tri_copy {x : Nat} (h : Mix N B w d x D D) (hF : Fine D) :
    Calls Try.prog 17 #[.pointer (some ⟨d, 0, none⟩)] w fun e w' => ∃ o, e = .returned (.pointer (some ⟨o, 0, none⟩)) ∧ Below w.heap.size w w' ∧ Tri N B w' d D o x D := by
  obtain ⟨hB, G, S, F, h1, h2, h3, h4, h5, h6, h7⟩ := h
  refine (pCopy_any G S d D w h1 (Nat.le_of_lt hF.waits) hF.lasts).mono fun e w' ⟨e1, o, e2, e3⟩ => ⟨o, e2, e1, ?_⟩
  have hs := e1.size
  exact ⟨Nat.le_trans hB hs, G, S, _, S, F, h1.kept (fun _ h => h) (fun _ h => h) (fun b hs _ => e1.block b hs) (fun b _ _ hs => e1.block b hs), e3, h2.apart (G := fun _ => False) (Kept.ofBelow e1) (fun _ _ _ h => h), h3.grow hs, In.made hB, fun b hb => by have := h4 b hb; omega, h5.grow hs, fun b hf => ⟨(h6 b hf).1, fun hm => by have h8 := hm.1; have h9 := (h5 b hf).2; omega, (h6 b hf).2⟩, fun b hg hm => by have h8 := hm.1; have h9 := (h3 b hg).2; omega, fun b hb => by obtain ⟨n1, n2, n3, n4⟩ := h7 b hb; exact ⟨by omega, n2, fun hm => by have := hm.1; omega, n3, n4⟩⟩
theorem tri_copyX {x : Nat} (h : Tri N B w d D o x D) (hF : Fine D) :
    Calls Try.prog 31 #[.pointer (some ⟨x, 0, none⟩)] w fun e w' => ∃ y, e = .returned (.pointer (some ⟨y, 0, none⟩)) ∧ Below w.heap.size w w' ∧ Tri N B w' d D o y D := by
  obtain ⟨hB, G, R, G', S, F, h1, h2, h3, h4, h5, h6, h7, h8, h9, h10⟩ := h
  refine (xCopy_any F x D w h3 (Nat.le_of_lt hF.waits) hF.lasts hF.keep).mono fun e w' ⟨e1, y, e2, e3⟩ => ⟨y, e2, e1, ?_⟩
  have hs := e1.size
  exact ⟨Nat.le_trans hB hs, G, R, G', S, _, h1.kept (fun _ h => h) (fun _ h => h) (fun b hs _ => e1.block b hs) (fun b _ _ hs => e1.block b hs), h2.kept (fun _ h => h) (fun _ h => h) (fun b hs _ => e1.block b hs) (fun b _ _ hs => e1.block b hs), e3, h4.grow hs, h5.grow hs, fun b hb => by have := h6 b hb; omega, In.made hB, fun b hm => ⟨fun hg => by have h8 := hm.1; have h9 := (h4 b hg).2; omega, fun hg => by have h8 := hm.1; have h9 := (h5 b hg).2; omega, fun hg => by have h8 := hm.1; have h9 := h6 b hg; omega⟩, h9, fun b hb => by obtain ⟨n1, n2, n3, n4, n5⟩ := h10 b hb; exact ⟨by omega, n2, n3, n4, fun hm => by have := hm.1; omega⟩⟩

/-- a step of the law -/
structure StepT where
  k : Int
  a : Int
  c : UInt8
  f : Bool
  v : Value
  s : List Bool
structure StepOk (w : World) (B : Nat) (x : StepT) : Prop where
  row : RowAt w x.v x.s.length 1 (KS x.s)
  low : 0 < x.s.length → ∀ b, x.v.ownBlock = some b → b < B
  len : x.s.length ≤ 140737488355328
  fit : x.a ≤ 9223372036854775807
def RdS (w : World) (B : Nat) (v : Value) (l : List StepT) : Prop :=
  ∃ A c, v = .slice A l.length c ∧ (∀ x ∈ l, StepOk w B x) ∧ (l ≠ [] → ∃ b o, A = some ⟨b, o, none⟩ ∧ b < B ∧ ∀ (i : Nat) (x : StepT), l[i]? = some x → w.cell? ⟨b, o + i * 5, none⟩ = some (.int .i64 x.k) ∧ w.cell? ⟨b, o + i * 5 + 1, none⟩ = some (.int .i64 x.a) ∧ w.cell? ⟨b, o + i * 5 + 2, none⟩ = some (.int .u8 (x.c.toNat : Int)) ∧ w.cell? ⟨b, o + i * 5 + 3, none⟩ = some (.bool x.f) ∧ w.cell? ⟨b, o + i * 5 + 4, none⟩ = some x.v)
theorem elem_bytesT : Try.prog.underlying 27 = some (.slice (Try.prog.elem 27)) := by kernel_rfl
theorem size_bytesT (W : World) : (sizeOf (Try.prog.elem 27)).run Try.prog W = .ok 1 W := by kernel_rfl
theorem bytes_cut (W : World) (a : Option Addr) (len c : Nat) (h : Int) (k : Nat) (hk : h = (k : Int)) (hc : k ≤ c) :
    (Instr.slice 27 (.slice a len c) none (some (.int .i64 h)) none).run Try.prog W = .ok (.slice a k c) W := by
  subst hk
  rw [run_slice_h _ _ _ _ _ elem_bytesT .i64 (k : Int) (by omega) (by omega), size_bytesT]
  simp only [Result.andThen, sliced, Int.toNat_natCast, Nat.sub_zero, Nat.zero_mul]
  split
  · rfl
  · cases a <;> simp [Addr.add]
/-- what a row of 512 bytes that are all one reads as, cut off or not -/
theorem own_cut {w : World} {base g : Nat} {e : TypeId} {c : UInt8} (h : w.ownsRow base e 1 (.slice (some ⟨g, 0, none⟩) 512 512) 512 (BS (all512 c))) (k : Nat) (hk : k ≤ 512) : Rd w w.heap.size (.slice (some ⟨g, 0, none⟩) ((all512 c).take k).length 512) ((all512 c).take k) := by
  have hl : ((all512 c).take k).length = k := by rw [List.length_take, all512_length]; omega
  refine ⟨_, 512, rfl, by omega, by unfold maxLen; omega, (fun h => by cases h), fun _ => ⟨g, 0, rfl, (h.lt g rfl).2, fun i y hy => ?_⟩⟩
  have hi : i < k := by
    have := (List.getElem?_eq_some_iff.1 hy).1
    omega
  rw [Nat.zero_add, h.cellAt i (by omega)]
  unfold BS
  rw [List.getElem?_map]
  rw [List.getElem?_take, if_pos hi] at hy
  rw [hy]
  rfl

theorem long_any (l : List StepT) (A : Option Addr) (c : Nat) (w : World) (hl : l.length ≤ 9223372036854775807) : Calls Try.prog 22 #[.slice A l.length c] w fun e w' => e = .returned (.bool (decide (80 < l.length))) ∧ w = w' := by
  by_cases h : 80 < l.length
  · have h1 : (80 : Int) < (l.length : Int) := by omega
    rw [decide_eq_true h]
    go_enter Try.func22, Try.ntmps22
    go_wp2_with fail
    go_ret
    exact ⟨by simp, rfl⟩
  · have h1 : ¬ (80 : Int) < (l.length : Int) := by omega
    rw [decide_eq_false h]
    go_enter Try.func22, Try.ntmps22
    go_wp2_with fail
    go_ret
    exact ⟨by simp, rfl⟩
end Go.Proofs.Ythchnnddnjibmaa
