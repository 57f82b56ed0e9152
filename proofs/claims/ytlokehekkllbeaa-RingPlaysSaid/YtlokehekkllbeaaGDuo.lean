/-
  RingPlays: two rings side by side. No statement is proved here. No condition.
-/
import Derived.Test.YtlokehekkllbeaaGApp
import Derived.Test.YtlokehekkllbeaaGSecs
import Derived.Deep.DeepCutAuto
namespace Go.Proofs.Ytlokehekkllbeaa
open Go.RowKit

structure StepP where
  k : UInt8
  len : Int
  c : UInt8
  n : Int
def RdP (w : World) (v : Value) (l : List StepP) : Prop :=
  ∃ A c, v = .slice A l.length c ∧ (l ≠ [] → ∃ b o, A = some ⟨b, o, none⟩ ∧ b < w.heap.size ∧ ∀ (i : Nat) (x : StepP), l[i]? = some x → w.cell? ⟨b, o + i * 4, none⟩ = some (.int .u8 (x.k.toNat : Int)) ∧ w.cell? ⟨b, o + i * 4 + 1, none⟩ = some (.int .i64 x.len) ∧ w.cell? ⟨b, o + i * 4 + 2, none⟩ = some (.int .u8 (x.c.toNat : Int)) ∧ w.cell? ⟨b, o + i * 4 + 3, none⟩ = some (.int .i64 x.n))

theorem XG.alike {w : World} {N : Nat → Prop} {x : Nat} {S : List (List UInt8)} {R R' : RG} (h : XG w N x S R) (h1 : R.base = R'.base) (h2 : R.last = R'.last) (h3 : R.top = R'.top) : XG w N x S R' := by
  obtain ⟨v, xs, h⟩ := h
  exact ⟨v, xs, by rw [← h1, ← h2, ← h3]; exact h.cells, h.own, h.els, h.inx, h.inv⟩
theorem xopen_seen {w : World} {D : DS} {f c base : Nat} {v : Value} (hok : D.ok) (hl : f + c ≤ D.lasts.length) (hc : 1 ≤ c) (hc2 : c ≤ 65536) (hb : base ≤ 4611686018427387904) (hv : LL w v (seen D f c)) :
    Calls Try.prog 8 #[v, .int .i64 (base : Int)] w fun e w' => ∃ x u, e = .returned (.tuple #[.pointer (some ⟨x, 0, none⟩), u]) ∧ Below w.heap.size w w' ∧ XG w' (fun b => w.heap.size ≤ b) x (seen D f c) (opened D f c base) ∧ LL w' u (inRing D f c base) := by
  have hsl := seen_length hl
  refine (xopen_any (seen D f c) (seen_512 hok f c) v base w hv (by omega) (by omega) hb).mono ?_
  rintro e w' ⟨x, u, he, hb', hx, hu⟩
  rw [hsl] at hx hu
  exact ⟨x, u, he, hb', hx.alike rfl rfl rfl, hu⟩

/-- the program's ring and the document's, side by side -/
def Duo (w wr : World) (q f c r x : Nat) (D : DS) (R : RG) : Prop :=
  ∃ G S : Nat → Prop, PD wr G S q D ∧ (∀ b, G b → w.heap.size ≤ b ∧ b < wr.heap.size ∧ b ≠ r) ∧ RgAt wr r q R ∧ XG wr (fun b => w.heap.size ≤ b ∧ ¬ G b ∧ b ≠ r) x (seen D f c) R ∧ w.heap.size ≤ r ∧ Below w.heap.size w wr
structure Duf (D : DS) (R : RG) (f c k : Nat) : Prop where
  well : Well D f c
  fit : Fit D k
  len : D.lasts.length = 12
  fine : R.fine
  first : R.first = f
  count : R.count = c
/-- behind a call of the program's that touches its disk's blocks and its ring's -/
theorem duo_call {w wz w' : World} {r x : Nat} {T : List (List UInt8)} {R : RG} {G : Nat → Prop} (hG : ∀ b, G b → w.heap.size ≤ b ∧ b < wz.heap.size ∧ b ≠ r) (hxg : XG wz (fun b => w.heap.size ≤ b ∧ ¬ G b ∧ b ≠ r) x T R) (hrw : w.heap.size ≤ r) (hbel : Below w.heap.size w wz) (hk : Kept wz w' (fun b => Mut G wz b ∨ b = r)) (hs : wz.heap.size ≤ w'.heap.size) (hr : r < wz.heap.size) :
    (∀ b, More G wz w' b → w.heap.size ≤ b ∧ b < w'.heap.size ∧ b ≠ r) ∧ XG w' (fun b => w.heap.size ≤ b ∧ ¬ More G wz w' b ∧ b ≠ r) x T R ∧ Below w.heap.size w w' := by
  have hsw := hbel.size
  refine ⟨fun b hb => ?_, hxg.kept (fun b hb hl => ⟨hb.1, fun h => h.elim hb.2.1 (fun h => by have := h.1; omega), hb.2.2⟩) hs (fun b hb hl => hk.block b hl (fun h => h.elim (fun h => hb.2.1 h.1) hb.2.2)), hbel.trans (hk.below hsw (fun b hb => hb.elim (fun h => (hG b h.1).1) (fun h => by rw [h]; exact hrw)))⟩
  rcases hb with h | h
  · exact ⟨(hG b h).1, by have := (hG b h).2.1; omega, (hG b h).2.2⟩
  · exact ⟨by have := h.1; omega, h.2, by have := h.1; omega⟩
def LP (w wr : World) (q f c r x k : Nat) : Prop := ∃ (D : DS) (R : RG), Duo w wr q f c r x D R ∧ Duf D R f c k
theorem LLN.spot {w : World} {M N : Nat → Prop} {A : Option Addr} {n c : Nat} {Ls : List (List UInt8)} (h : LLN w M N (.slice A n c) Ls) {i : Nat} {l : List UInt8} (hi : Ls[i]? = some l) : ∃ b o A' n' c', A = some ⟨b, o, none⟩ ∧ M b ∧ b < w.heap.size ∧ w.cell? ⟨b, o + i, none⟩ = some (.slice A' n' c') ∧ RdN w N (.slice A' n' c') l := by
  obtain ⟨xs, he, A0, c0, hv, -, -, -, h5⟩ := h
  injection hv with e1 _ _
  subst e1
  obtain ⟨b, o, hA, hM, hb, hc⟩ := h5 (fun e => by rw [e] at hi; simp at hi)
  obtain ⟨A', n', c', h1, h2⟩ := he.2 i l hi
  exact ⟨b, o, A', n', c', hA, hM, hb, hc i _ h1, h2⟩
/-- bytes of F were written over, no more -/
def Over (w wr : World) (F : Nat → Prop) : Prop := Kept w wr F ∧ ∀ b, F b → ∀ C, w.heap[b]? = some (.cells C 5 (0, 0)) → ∃ C', wr.heap[b]? = some (.cells C' 5 (0, 0)) ∧ C'.size = C.size
theorem Over.refl (w : World) (F : Nat → Prop) : Over w w F := ⟨Kept.refl _ _, fun _ _ C h => ⟨C, h, rfl⟩⟩
theorem Over.set {w wr : World} {F : Nat → Prop} (h : Over w wr F) {b : Nat} (hb : F b) (i : Nat) (v : Value) : Over w (wr.setCell ⟨b, i, none⟩ v) F := by
  refine ⟨h.1.trans (Kept.setCell wr ⟨b, i, none⟩ v (fun x => x = b) rfl) (fun x hx => .inl (by rw [hx]; exact hb)), fun x hx C hC => ?_⟩
  obtain ⟨C', h1, h2⟩ := h.2 x hx C hC
  by_cases hxb : x = b
  · subst hxb
    exact ⟨_, Joins.block_setCell h1 v, by simp [h2]⟩
  · exact ⟨C', (set_other hxb).trans h1, h2⟩
/-- where a byte may be written -/
theorem Over.spot {w wr : World} {F : Nat → Prop} (h : Over w wr F) {b i : Nat} (hb : F b) (hU : U8B w b) {u : Value} (hu : w.cell? ⟨b, i, none⟩ = some u) : (∃ u', wr.cell? ⟨b, i, none⟩ = some u') ∧ wr.frozen? ⟨b, i, none⟩ = false := by
  obtain ⟨C, hC⟩ := hU
  obtain ⟨C', h1, h2⟩ := h.2 b hb C hC
  have e := (row7 hC).1 i
  rw [hu] at e
  have hlt : i < C.size := (Array.getElem?_eq_some_iff.1 e.symm).1
  exact ⟨⟨_, ((row7 h1).1 i).trans (Array.getElem?_eq_getElem (by omega))⟩, (row7 h1).2 i⟩
theorem data_len (n : Nat) (hn : n < 256) : wrap64 ((wrap64 ((wrap64 (n : Int)).tmod 3 * 501)).tdiv 2) = ((n % 3 * 501 / 2 : Nat) : Int) := by
  have h0 : wrap64 (n : Int) = (n : Int) := by unfold wrap64; omega
  have h1 : (n : Int).tmod 3 = ((n % 3 : Nat) : Int) := by rw [Int.tmod_eq_emod_of_nonneg (by omega)]; exact (Int.natCast_emod _ _).symm
  rw [h0, h1]
  have h3 : n % 3 < 3 := by omega
  obtain ⟨t, ht⟩ : ∃ t, t = n % 3 := ⟨_, rfl⟩
  rw [← ht] at h3 ⊢
  have h4 : wrap64 ((t : Int) * 501) = ((t * 501 : Nat) : Int) := by unfold wrap64; omega
  rw [h4, Int.tdiv_eq_ediv_of_nonneg (by omega), show ((t * 501 : Nat) : Int) / 2 = ((t * 501 / 2 : Nat) : Int) by omega]
  unfold wrap64
  omega
theorem wrap_i (z : Int) : IntKind.i64.wrap z = wrap64 z := by rw [IntKind.wrap_i64]; unfold wrap64; rfl
/-- the law's piece in memory, its bytes noughts -/
def DataSt (wz wx : World) (pb nn : Nat) (L : Bool) (dl : Nat) : Prop := ∃ A cc, wx.heap[pb]? = some (.cells #[.int .i64 (nn : Int), .bool L, .slice A dl cc] 49 (0, 0)) ∧ Rd wx wx.heap.size (.slice A dl cc) (List.replicate dl 0) ∧ Below wz.heap.size wz wx ∧ wz.heap.size ≤ pb
theorem data_new {wz wa : World} {nn dl B : Nat} {L : Bool} {A : Option Addr} {cc : Nat} (hb : Below wz.heap.size wz wa) (ho : wa.ownsRow B 5 1 (.slice A dl cc) dl (BS (List.replicate dl 0))) : DataSt wz (wa.alloc (.cells #[.int .i64 (nn : Int), .bool L, .slice A dl cc] 49)) wa.heap.size nn L dl := by
  have hb2 : Below wa.heap.size wa (wa.alloc (.cells #[.int .i64 (nn : Int), .bool L, .slice A dl cc] 49)) := (Below.refl _ _).alloc (Nat.le_refl _) _
  exact ⟨A, cc, heap_alloc_new _ _, (Rd.own ho).below hb2 hb2.size, hb.alloc hb.size _, hb.size⟩
theorem data_set {wz wb : World} {nn dl B g cc : Nat} {L : Bool} (hb : Below wz.heap.size wz wb) (hp : wb.heap[wz.heap.size]? = some (.cells #[.int .i64 0, .bool false, .slice none 0 0] 49 (0, 0))) (ho : wb.ownsRow B 5 1 (.slice (some ⟨g, 0, none⟩) dl cc) dl (BS (List.replicate dl 0))) (hg : g ≠ wz.heap.size) : DataSt wz (((wb.setCell ⟨wz.heap.size, 0, none⟩ (.int .i64 (nn : Int))).setCell ⟨wz.heap.size, 1, none⟩ (.bool L)).setCell ⟨wz.heap.size, 2, none⟩ (.slice (some ⟨g, 0, none⟩) dl cc)) wz.heap.size nn L dl := by
  refine ⟨some ⟨g, 0, none⟩, cc, ?_, ?_, ((hb.setCell (Nat.le_refl _) _).setCell (Nat.le_refl _) _).setCell (Nat.le_refl _) _, Nat.le_refl _⟩
  · rw [Joins.block_setCell (Joins.block_setCell (Joins.block_setCell hp _) _) _]
    simp
  · refine Rd.own (row_same ho fun p hp => ?_)
    have h1 : g = p := Option.some.inj hp
    rw [set_other (by omega), set_other (by omega), set_other (by omega)]
end Go.Proofs.Ytlokehekkllbeaa
