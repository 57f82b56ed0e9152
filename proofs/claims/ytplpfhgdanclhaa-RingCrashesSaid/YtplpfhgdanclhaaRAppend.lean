/-
  The program's ring: Append. No statement is proved here. No condition.
-/
import Derived.Test.YtplpfhgdanclhaaRNext
namespace Go.Proofs.Ytplpfhgdanclhaa
open Go.RowKit

/-- what Append's loop keeps, i pieces being written -/
def AInv (w wr : World) (G S : Nat → Prop) (_r q : Nat) (R : RG) (D : DS) (rec : List UInt8) (k a b c i : Nat) (v8 v9 : Value) : Prop :=
  ∃ (G' S' : Nat → Prop) (Di : DS) (g : Nat), v8 = .pointer (some ⟨g, 0, none⟩) ∧ v9 = .bool (decide (i < pieces rec.length)) ∧
    D.putAll R.first R.count ((cut (R.last + 1) rec).take i) = (0, Di) ∧ Fit Di (k + i) ∧ PD wr G' S' q Di ∧
    (∀ x, G' x → (G x ∨ w.heap.size ≤ x) ∧ x < wr.heap.size) ∧ (∀ x, S' x → (S x ∨ (w.heap.size ≤ x ∧ x < wr.heap.size))) ∧ ¬ G' a ∧ ¬ G' b ∧ ¬ G' c ∧ ¬ G' g ∧ a < wr.heap.size ∧ b < wr.heap.size ∧ c < wr.heap.size ∧
    wr.heap[a]? = some (.cells #[.int .i64 ((pieces rec.length - (i + 1) : Nat) : Int)] 3 (0, 0)) ∧ Kept w wr (Mut G w) ∧ (∃ C, wr.heap[g]? = some (.cells C 81 (0, 0))) ∧
    (i < pieces rec.length → ∃ (n : Nat) (l : Bool) (d : List UInt8) (u : Value), (cut (R.last + 1) rec)[i]? = some ⟨n, l, d⟩ ∧ RdN wr (fun x => ¬ G x ∧ x < w.heap.size) u d ∧ wr.heap[g]? = some (.cells #[.int .i64 (n : Int), .bool l, u] 81 (0, 0)) ∧ CutSt wr (fun x => ¬ G x ∧ x < w.heap.size) a b c rec R.last (i + 1))

set_option maxHeartbeats 4000000 in
set_option maxRecDepth 100000 in
theorem pappend_any {w : World} {G S : Nat → Prop} {r q : Nat} {R : RG} {D : DS} {k : Nat} (h : RgAt w r q R) (hR : R.fine) (hD : PD w G S q D) (hF : Fit D k) (hG : ∀ b, G b → b < w.heap.size ∧ b ≠ r) (rec : List UInt8) (v : Value) (hv : RdN w (fun x => ¬ G x) v rec) (hl : rec.length < 140737488355328) (hk : k + pieces rec.length < 1000000) :
    Calls Try.prog 13 #[.pointer (some ⟨r, 0, none⟩), v] w fun e w' => e = .returned (.int .i64 (appendOf D R rec).1) ∧ Kept w w' (fun b => Mut G w b ∨ b = r) ∧ PD w' (More G w w') (More S w w') q (appendOf D R rec).2.1 ∧ RgAt w' r q (appendOf D R rec).2.2 := by
  have hv' : RdN w (fun x => ¬ G x ∧ x < w.heap.size) v rec := hv.mono fun b h1 h2 => ⟨h1, h2⟩
  have hpp := ppieces_any rec.length w (by omega)
  have hrf := prefuse_any h hR hD (pieces rec.length)
  have hcut := fun W (hW : Rd W W.heap.size v rec) => pcut_any rec R.last v W hW (by omega)
  have c4 := h.c4
  have lr := h.lt
  have H := Lib.hid h
  have HR := Lib.hid hR
  have HD := Lib.hid hD
  have HV := Lib.hid hv'
  have HF := Lib.hid hF
  have HG := Lib.hid hG
  obtain ⟨A, cp, rfl, -⟩ := hv
  obtain ⟨m, hm⟩ : ∃ m, m = pieces rec.length := ⟨_, rfl⟩
  have happ : appendOf D R rec = if refuseOf D.dead R m ≠ 0 then (refuseOf D.dead R m, D, R) else if (D.putAll R.first R.count (cut (R.last + 1) rec)).1 ≠ 0 then ((D.putAll R.first R.count (cut (R.last + 1) rec)).1, (D.putAll R.first R.count (cut (R.last + 1) rec)).2, R) else (0, (D.putAll R.first R.count (cut (R.last + 1) rec)).2, { R with last := R.last + m, top := R.last + m }) := by rw [hm]; rfl
  rw [← hm] at hpp hrf hk
  obtain ⟨X, hX⟩ : ∃ X, X = appendOf D R rec := ⟨_, rfl⟩
  rw [← hX] at happ ⊢
  have HAP := Lib.hid happ
  have HM := Lib.hid hm
  have h0 := @refuse_ok D.dead R m
  obtain ⟨x, hx⟩ : ∃ x, x = refuseOf D.dead R m := ⟨_, rfl⟩
  rw [← hx] at hrf h0 HAP
  clear h hR hD hv' hF hG happ hm hX hx
  go_enter Try.func13, Try.ntmps13
  go_wp2_with fail
  refine hpp.mono ?_
  rintro e w1 ⟨rfl, rfl⟩
  clear hpp
  go_wp2_with fail
  refine hrf.mono ?_
  rintro e w1 ⟨rfl, kk, rfl⟩
  clear hrf
  obtain ⟨wd, hwd⟩ : ∃ wd, wd = w.drewN kk := ⟨_, rfl⟩
  have hkd : Kept w wd (Mut G w) := by rw [hwd]; exact ⟨rfl, rfl, rfl, Nat.le_refl _, fun _ _ _ => rfl⟩
  have hsd : wd.heap.size = w.heap.size := by rw [hwd]; rfl
  have hbd : ∀ b : Nat, wd.heap[b]? = w.heap[b]? := by rw [hwd]; exact fun _ => rfl
  rw [← hwd]
  have HKD := Lib.hid hkd
  have HSD := Lib.hid hsd
  have HBD := Lib.hid hbd
  clear hwd hkd hsd hbd
  by_cases hx0 : x ≠ 0
  · have hne : (x != 0) = true := by simpa using hx0
    have hX := HAP.out
    rw [if_pos hx0] at hX
    go_wp2_with fail
    go_ret
    rw [hX]
    exact ⟨rfl, HKD.out.mono (fun _ _ h => .inl h), HD.out.kept (fun _ h => .inl h) (fun _ h => .inl h) (fun b _ _ => HBD.out b) (fun b _ _ _ => HBD.out b), H.out.kept (HBD.out r)⟩
  · have hx0' : x = 0 := by omega
    obtain ⟨hdead, hmc, htorn, hroom, hmax⟩ := h0 hx0'
    have hX := HAP.out
    rw [if_neg hx0] at hX
    have HX := Lib.hid hX
    subst hx0'
    have rd1 : RgAt wd r q R := H.out.kept (HBD.out r)
    have c4d := rd1.c4
    have hvd : RdN wd (fun x => ¬ G x ∧ x < w.heap.size) (.slice A rec.length cp) rec := HV.out.kept (fun _ h _ => h) (by rw [HSD.out]; exact Nat.le_refl _) (fun b _ _ => HBD.out b)
    have hcd := hcut wd hvd.rd
    have HVD := Lib.hid hvd
    have HRD := Lib.hid rd1
    clear hX hx0 h0 HAP hcut c4 rd1 hvd
    go_wp2_with fail
    refine hcd.mono ?_
    rintro e w2 ⟨a, b, c, rfl, hca, la, lb, lc, hb2⟩
    clear hcd
    rw [HSD.out] at la lb lc
    have hst0 : CutSt w2 (fun x => ¬ G x ∧ x < w.heap.size) a b c rec R.last 0 := ⟨_, hca, by rw [Nat.mul_zero, List.drop_zero]; exact HVD.out.grow hb2⟩
    have hnx := pnext_any hst0 (Nat.zero_le _) hl (by omega) (fun x hx => ⟨by have := hx.2; omega, by have := hx.2; omega, by have := hx.2; omega⟩)
    have ha2 : a < w2.heap.size := (Array.getElem?_eq_some_iff.1 hca.ca).1
    have hbb2 : b < w2.heap.size := (Array.getElem?_eq_some_iff.1 hca.cb).1
    have hcc2 : c < w2.heap.size := (Array.getElem?_eq_some_iff.1 hca.cc).1
    have HB2 := Lib.hid hb2
    clear hca hst0 hb2
    go_wp2_with fail
    go_at_call 56
    refine hnx.mono ?_
    rintro e w3 ⟨n, l, d, Au, nu, cu, rfl, hK3, hl3, hn3⟩
    have hs2 := HB2.out.size
    have hs3 := hK3.size
    have h0lt : 0 < pieces rec.length := pieces_pos _
    have hinv0 : AInv w (w3.alloc (.cells #[.int .i64 (n : Int), .bool l, .slice Au nu cu] 81)) G S r q R D rec k a b c 0 (.pointer (some ⟨w3.heap.size, 0, none⟩)) (.bool (decide (0 < pieces rec.length))) := by
      obtain ⟨g1, g2, g3⟩ := hn3 h0lt
      have hkw : Kept w w3 (Mut G w) := by
        have k1 : Kept wd w2 (Mut G wd) := Kept.ofBelow HB2.out
        have k2 : Kept w w2 (Mut G w) := HKD.out.transM k1 (fun n h _ => h)
        refine k2.trans hK3 (fun n hn => .inr ?_)
        rcases hn with rfl | rfl | rfl <;> assumption
      have hal := heap_alloc_new w3 (.cells #[.int .i64 (n : Int), .bool l, .slice Au nu cu] 81)
      have hb : Below w3.heap.size w3 (w3.alloc (.cells #[.int .i64 (n : Int), .bool l, .slice Au nu cu] 81)) := (Below.refl _ _).alloc (Nat.le_refl _) _
      have hsz : (w3.alloc (.cells #[.int .i64 (n : Int), .bool l, .slice Au nu cu] 81)).heap.size = w3.heap.size + 1 := by simp
      have hsd := HSD.out
      have nG : ∀ x, w.heap.size ≤ x → ¬ G x := fun x hx hg => absurd (HG.out x hg).1 (by omega)
      have hkD := hkw.trans (Kept.alloc w3 (.cells #[.int .i64 (n : Int), .bool l, .slice Au nu cu] 81) (Mut G w)) (fun _ h => .inl h)
      refine ⟨G, S, D, w3.heap.size, rfl, rfl, rfl, HF.out, HD.out.kept (fun _ h => h) (fun _ h => h) ?_ ?_, fun x hx => ⟨.inl hx, by have := (HG.out x hx).1; omega⟩, fun x hx => .inl hx, nG a la, nG b lb, nG c lc, nG _ (by omega), by omega, by omega, by omega, (hb.block a (by omega)).trans hl3, hkD, ⟨_, hal⟩, fun _ => ⟨n, l, d, .slice Au nu cu, g1, g2.kept (fun _ h _ => h) hb.size (fun x _ hx => hb.block x hx), hal, g3.kept hb.size (fun x hx _ => hb.block x hx)⟩⟩
      · intro x hx hm
        have hx3 : x < w3.heap.size := by omega
        rw [hb.block x hx3, hK3.block x (by omega) (by rintro (rfl | rfl | rfl) <;> omega), HB2.out.block x (by omega)]
        exact HBD.out x
      · intro x _ hi hx
        have hx3 : x < w3.heap.size := by omega
        rw [hb.block x hx3, hK3.block x (by omega) (by rintro (rfl | rfl | rfl) <;> omega), HB2.out.block x (by omega)]
        exact HBD.out x
    have HI0 := Lib.hid hinv0
    clear hinv0 hn3 hK3 hnx HB2 HVD
    go_wp2_with fail
    obtain ⟨ww, hww⟩ : ∃ ww, ww = w3.alloc (.cells #[.int .i64 (n : Int), .bool l, .slice Au nu cu] 81) := ⟨_, rfl⟩
    rw [← hww] at HI0 ⊢
    clear hww
    have hd0 : decide (0 < pieces rec.length) = true := decide_eq_true h0lt
    rw [hd0] at HI0
    go_loopw [8, 9] (fun v8 v9 wr => ∃ i : Nat, i ≤ pieces rec.length ∧ Hid (AInv w wr G S r q R D rec k a b c i v8 v9)) (fun _ v9 wr => okOf v9 + leftOf wr a)
    case atStart => exact ⟨0, Nat.zero_le _, HI0⟩
    case round =>
      obtain ⟨i, hi, hinv⟩ := hrel
      clear HI0
      obtain ⟨G', S', Di, g, rfl, rfl, hput, hfit, hpd, hG', hS', nga, ngb, ngc, ngg, la', lb', lc', hla, hkw, hgp, hnx⟩ := hinv.out
      have hsw := hkw.size
      have nGr : ¬ Mut G w r := fun hm => (HG.out r hm.1).2 rfl
      have hrr : RgAt wr r q R := H.out.kept (hkw.block r lr nGr)
      have hGr : ∀ x, G' x → x < wr.heap.size ∧ x ≠ r := fun x hx => ⟨(hG' x hx).2, fun e => by
        subst e
        rcases (hG' x hx).1 with h | h
        · exact (HG.out x h).2 rfl
        · omega⟩
      have hNG : ∀ x, (¬ G x ∧ x < w.heap.size) → ¬ G' x := fun x hx hg => by
        rcases (hG' x hg).1 with h | h
        · exact hx.1 h
        · omega
      by_cases hil : i < pieces rec.length
      · obtain ⟨n2, l2, d2, u2, hget, hu2, hgc, hst⟩ := hnx hil
        obtain ⟨Au2, cu2, hue, -⟩ := id hu2
        have hue' : ∃ A n c, u2 = .slice A n c := ⟨_, _, _, hue⟩
        clear hue
        obtain ⟨Au2, nu2, cu2, rfl⟩ := hue'
        rw [decide_eq_true hil]
        have hnum := cut_num _ _ _ _ hget
        have hmm := HM.out
        have hfine : Pc.fine ⟨n2, l2, d2⟩ := ⟨by have := hnum.1; show 1 ≤ n2; have e : n2 = R.last + 1 + i := hnum.1; omega, by have e : n2 = R.last + 1 + i := hnum.1; show n2 ≤ _; omega, hnum.2.1, hnum.2.2⟩
        have cw := pwrite_any hrr HR.out hpd (hfit.fine (by omega)) hGr ⟨n2, l2, d2⟩ (.slice Au2 nu2 cu2) hfine hu2.rd
        unfold pcv at cw
        have hsn := putAll_snoc hget hput
        obtain ⟨y, hy⟩ : ∃ y, y = Di.write ((R.first + n2 % R.count : Nat) : Int) (Pc.sec ⟨n2, l2, d2⟩) := ⟨_, rfl⟩
        have hfy : Fit y.2 (k + (i + 1)) := by rw [hy]; exact hfit.write _ _
        rw [show Di.write ((R.first + (Pc.mk n2 l2 d2).n % R.count : Nat) : Int) (Pc.sec ⟨n2, l2, d2⟩) = y from hy.symm] at hsn
        simp only [show Di.write ((R.first + n2 % R.count : Nat) : Int) (Pc.sec ⟨n2, l2, d2⟩) = y from hy.symm] at cw
        have p0 : wr.cell? ⟨g, 0, none⟩ = some (.int .i64 (n2 : Int)) := (row7 hgc).1 0
        have p1 : wr.cell? ⟨g, 1, none⟩ = some (.bool l2) := (row7 hgc).1 1
        have p2 : wr.cell? ⟨g, 2, none⟩ = some (.slice Au2 nu2 cu2) := (row7 hgc).1 2
        have HST := Lib.hid hst
        have HGC := Lib.hid hgc
        have HSN := Lib.hid hsn
        have HFY := Lib.hid hfy
        have HKW := Lib.hid hkw
        have HG2 := Lib.hid hG'
        have HS2 := Lib.hid hS'
        have HRR := Lib.hid hrr
        have HLA := Lib.hid hla
        have HNG := Lib.hid hNG
        have HU2 := Lib.hid hu2
        have hmk : R.last + pieces rec.length ≤ 4611686018427387904 := by omega
        clear hy hmm hst hgc hsn hfy hkw hG' hS' hrr hinv hnx hgp hget hnum hfine hpd hfit hput hGr hu2 hla hNG
        go_wp2_with fail
        refine cw.mono ?_
        rintro e w2 ⟨rfl, hk2, hd2⟩
        clear cw p0 p1 p2
        have hs2 := hk2.size
        have HK2 := Lib.hid hk2
        have HD2 := Lib.hid hd2
        have hkk : Kept w w2 (Mut G w) := HKW.out.transM hk2 (fun x hx hxs => by
          rcases (HG2.out x hx).1 with h | h
          · exact h
          · omega)
        have HKK := Lib.hid hkk
        by_cases hy0 : y.1 = 0
        · have hyb : (y.1 != 0) = false := by simp [hy0]
          have hgl : g < wr.heap.size := (Array.getElem?_eq_some_iff.1 HGC.out).1
          have hgc2 : w2.heap[g]? = some (.cells #[.int .i64 (n2 : Int), .bool l2, .slice Au2 nu2 cu2] 81 (0, 0)) := (hk2.block g hgl (fun hm => ngg hm.1)).trans HGC.out
          have p0 : w2.cell? ⟨g, 0, none⟩ = some (.int .i64 (n2 : Int)) := (row7 hgc2).1 0
          have p1 : w2.cell? ⟨g, 1, none⟩ = some (.bool l2) := (row7 hgc2).1 1
          have p2 : w2.cell? ⟨g, 2, none⟩ = some (.slice Au2 nu2 cu2) := (row7 hgc2).1 2
          have hst2 : CutSt w2 (fun x => ¬ G x ∧ x < w.heap.size) a b c rec R.last (i + 1) := HST.out.kept hs2 (fun x hx h => hk2.block x hx (fun hm => by
            rcases h with rfl | rfl | rfl | h
            · exact nga hm.1
            · exact ngb hm.1
            · exact ngc hm.1
            · exact HNG.out x h hm.1))
          have hb3 : Below w2.heap.size w2 (w2.alloc (.cells #[.int .i64 (n2 : Int), .bool l2, .slice Au2 nu2 cu2] 81)) := (Below.refl _ _).alloc (Nat.le_refl _) _
          have hst3 := hst2.kept (w' := w2.alloc (.cells #[.int .i64 (n2 : Int), .bool l2, .slice Au2 nu2 cu2] 81)) hb3.size (fun x hx _ => hb3.block x hx)
          have hn3 := heap_alloc_new w2 (.cells #[.int .i64 (n2 : Int), .bool l2, .slice Au2 nu2 cu2] 81)
          have hnx3 := pnext_any hst3 hil hl (by omega) (fun x hx => ⟨by have := hx.2; omega, by have := hx.2; omega, by have := hx.2; omega⟩)
          have hsz3 : (w2.alloc (.cells #[.int .i64 (n2 : Int), .bool l2, .slice Au2 nu2 cu2] 81)).heap.size = w2.heap.size + 1 := by simp
          have HB3 := Lib.hid hb3
          have HN3 := Lib.hid hn3
          have HSZ3 := Lib.hid hsz3
          clear hst2 hst3 hgc2 hk2 hd2 hkk hb3 hn3 hsz3
          go_wp2_with fail
          go_at_call 56
          refine hnx3.mono ?_
          rintro e w4 ⟨n4, l4, d4, Au4, nu4, cu4, rfl, hK4, hl4, hn4⟩
          clear hnx3 p0 p1 p2
          have hs4 := hK4.size
          have hs2w := HKW.out.size
          have hsz := HSZ3.out
          have hg4 : w4.heap[w2.heap.size]? = some (.cells #[.int .i64 (n2 : Int), .bool l2, .slice Au2 nu2 cu2] 81 (0, 0)) := (hK4.block _ (by omega) (by rintro (h | h | h) <;> omega)).trans HN3.out
          have p0 : w4.cell? ⟨w2.heap.size, 0, none⟩ = some (.int .i64 (n2 : Int)) := (row7 hg4).1 0
          have p1 : w4.cell? ⟨w2.heap.size, 1, none⟩ = some (.bool l2) := (row7 hg4).1 1
          have p2 : w4.cell? ⟨w2.heap.size, 2, none⟩ = some (.slice Au2 nu2 cu2) := (row7 hg4).1 2
          have z0 := (row7 hg4).2 0
          have z1 := (row7 hg4).2 1
          have z2 := (row7 hg4).2 2
          obtain ⟨w5, hw5⟩ : ∃ w5, w5 = ((w4.setCell ⟨w2.heap.size, 0, none⟩ (.int .i64 (n4 : Int))).setCell ⟨w2.heap.size, 1, none⟩ (.bool l4)).setCell ⟨w2.heap.size, 2, none⟩ (.slice Au4 nu4 cu4) := ⟨_, rfl⟩
          have ho5 : ∀ x, x ≠ w2.heap.size → w5.heap[x]? = w4.heap[x]? := fun x hx => by rw [hw5, set_other hx, set_other hx, set_other hx]
          have hs5 : w5.heap.size = w4.heap.size := by rw [hw5]; simp
          have hg5 : w5.heap[w2.heap.size]? = some (.cells #[.int .i64 (n4 : Int), .bool l4, .slice Au4 nu4 cu4] 81 (0, 0)) := by
            rw [hw5, Joins.block_setCell (Joins.block_setCell (Joins.block_setCell hg4 _) _) _]
            simp
          have hga : ∀ x, x < wr.heap.size → ¬ G' x → ¬ More G' wr w2 x := fun x hx hn h => h.elim hn fun h => absurd h.1 (by omega)
          have hgG : ∀ x, More G' wr w2 x → (G x ∨ w.heap.size ≤ x) ∧ x < w2.heap.size := fun x hx => by
            rcases hx with h | h
            · have := HG2.out x h
              exact ⟨this.1, by omega⟩
            · exact ⟨.inr (by omega), h.2⟩
          have hin : ∀ x, x < w2.heap.size → x ≠ a → x ≠ b → x ≠ c → w5.heap[x]? = w2.heap[x]? := fun x hx h1 h2 h3 => by
            rw [ho5 x (by omega), hK4.block x (by omega) (by rintro (h | h | h) <;> contradiction), HB3.out.block x hx]
          have nsec : ∀ x, IsSec w2 x → x ≠ a ∧ x ≠ b ∧ x ≠ c := by
            obtain ⟨v3, hc3, -⟩ := HST.out
            intro x hx
            refine ⟨?_, ?_, ?_⟩
            · rintro rfl
              exact not_sec ((HK2.out.block x la' (fun hm => nga hm.1)).trans hc3.ca) (by decide) hx
            · rintro rfl
              exact not_sec ((HK2.out.block x lb' (fun hm => ngb hm.1)).trans hc3.cb) (by decide) hx
            · rintro rfl
              exact not_sec ((HK2.out.block x lc' (fun hm => ngc hm.1)).trans hc3.cc) (by decide) hx
          have hla5 : w5.heap[a]? = some (.cells #[.int .i64 ((pieces rec.length - (i + 1 + 1) : Nat) : Int)] 3 (0, 0)) := (ho5 a (by omega)).trans hl4
          have hinv5 : AInv w w5 G S r q R D rec k a b c (i + 1) (.pointer (some ⟨w2.heap.size, 0, none⟩)) (.bool (decide (i + 1 < pieces rec.length))) := by
            refine ⟨More G' wr w2, More S' wr w2, y.2, w2.heap.size, rfl, rfl, HSN.out.trans (Prod.ext hy0 rfl), HFY.out, HD2.out.kept (fun _ h => h) (fun _ h => h) (fun x hx hm => hin x hx (fun e => hga a la' nga (e ▸ hm.1)) (fun e => hga b lb' ngb (e ▸ hm.1)) (fun e => hga c lc' ngc (e ▸ hm.1))) (fun x _ hi hx => hin x hx (nsec x hi).1 (nsec x hi).2.1 (nsec x hi).2.2), fun x hx => ⟨(hgG x hx).1, by have := (hgG x hx).2; omega⟩, ?_, hga a la' nga, hga b lb' ngb, hga c lc' ngc, fun h => absurd (hgG _ h).2 (by omega), by omega, by omega, by omega, hla5, ?_, ⟨_, hg5⟩, ?_⟩
            · intro x hx
              rcases hx with h | h
              · rcases HS2.out x h with h1 | h1
                · exact .inl h1
                · exact .inr ⟨h1.1, by omega⟩
              · exact .inr ⟨by omega, by omega⟩
            · have k3 : Kept w2 (w2.alloc (.cells #[.int .i64 (n2 : Int), .bool l2, .slice Au2 nu2 cu2] 81)) (Mut G w) := Kept.ofBelow HB3.out
              have k4 := (HKK.out.trans k3 (fun _ h => .inl h)).trans hK4 (fun x hx => .inr (by rcases hx with h | h | h <;> omega))
              have k5 : Kept w4 w5 (fun x => x = w2.heap.size) := by
                rw [hw5]
                exact ((Kept.setCell w4 ⟨w2.heap.size, 0, none⟩ _ (fun x => x = w2.heap.size) rfl).trans (Kept.setCell _ ⟨w2.heap.size, 1, none⟩ _ (fun x => x = w2.heap.size) rfl) (fun _ h => .inl h)).trans (Kept.setCell _ ⟨w2.heap.size, 2, none⟩ _ (fun x => x = w2.heap.size) rfl) (fun _ h => .inl h)
              exact k4.trans k5 (fun x hx => .inr (by rw [hx]; omega))
            · intro hlt
              obtain ⟨e1, e2, e3⟩ := hn4 hlt
              have hne : ∀ x, x < w.heap.size → w5.heap[x]? = w4.heap[x]? := fun x hx => ho5 x (by omega)
              exact ⟨n4, l4, d4, _, e1, e2.kept (fun _ h _ => h) (by omega) (fun x hx _ => hne x hx.2), hg5, e3.kept (by omega) (fun x _ h => ho5 x (by rcases h with h | h | h | h <;> omega))⟩
          have HINV5 := Lib.hid hinv5
          have hle4 : okOf (.bool (decide (i + 1 < pieces rec.length))) + leftOf w5 a < okOf (.bool true) + leftOf wr a := by
            rw [leftOf_at hla5, leftOf_at HLA.out, okOf_at, okOf_at]
            by_cases hlt : i + 1 < pieces rec.length
            · simp only [decide_eq_true hlt, if_true]; omega
            · simp only [decide_eq_false hlt, if_true, Bool.false_eq_true, if_false]; omega
          have HLE := Lib.hid hle4
          clear hinv5 hg4 hK4 hl4 hn4 hle4 hla5 nsec hin hgG hga hg5 ho5
          go_wp2_with fail
          rw [← hw5]
          exact ⟨⟨i + 1, hil, HINV5⟩, HLE.out⟩
        · have hyb : (y.1 != 0) = true := by simpa using hy0
          have hX := HX.out
          have hst1 : D.putAll R.first R.count (cut (R.last + 1) rec) = y := (putAll_stop (by rw [HSN.out]; exact hy0)).trans HSN.out
          rw [hst1, if_pos hy0] at hX
          have HX2 := Lib.hid hX
          clear hX hst1
          go_wp2_with fail
          go_ret
          have hsw := HKW.out.size
          rw [HX2.out]
          refine ⟨rfl, HKK.out.mono (fun _ _ h => .inl h), HD2.out.mono (fun x hx => ?_) (fun x hx => ?_), HRR.out.kept (HK2.out.block r (by omega) (fun hm => ?_))⟩
          · rcases hx with h | h
            · rcases (HG2.out x h).1 with h1 | h1
              · exact .inl h1
              · exact .inr ⟨h1, by have := (HG2.out x h).2; omega⟩
            · exact .inr ⟨by omega, h.2⟩
          · rcases hx with h | h
            · rcases HS2.out x h with h1 | h1
              · exact .inl h1
              · exact .inr ⟨h1.1, by omega⟩
            · exact .inr ⟨by omega, h.2⟩
          · rcases (HG2.out r hm.1).1 with h | h
            · exact (HG.out r h).2 rfl
            · omega
      · have hie : i = pieces rec.length := by omega
        rw [decide_eq_false hil]
        have hX := HX.out
        rw [hie, List.take_of_length_le (by rw [cut_length]; exact Nat.le_refl _)] at hput
        rw [hput, if_neg (by simp)] at hX
        have HX2 := Lib.hid hX
        have c4 := hrr.c4
        have c5 := hrr.c5
        have z4 := hrr.fz 4
        have z5 := hrr.fz 5
        have hmm := HM.out
        have b1 : (R.last : Int) + (m : Int) ≤ 4611686018427387904 := by omega
        have HPD := Lib.hid hpd
        have HKW := Lib.hid hkw
        have HRR := Lib.hid hrr
        clear hX hinv hnx hpd hkw hrr hput hgp hla hmm hie
        go_wp2_with fail
        go_ret
        rw [HX2.out]
        have rg : RgAt ((wr.setCell ⟨r, 4, none⟩ (.int .i64 ((R.last + m : Nat) : Int))).setCell ⟨r, 5, none⟩ (.int .i64 ((R.last + m : Nat) : Int))) r q { R with last := R.last + m, top := R.last + m } := (HRR.out.last (R.last + m)).top (R.last + m)
        have hsw := HKW.out.size
        obtain ⟨W, hW⟩ : ∃ W, W = (wr.setCell ⟨r, 4, none⟩ (.int .i64 ((R.last + m : Nat) : Int))).setCell ⟨r, 5, none⟩ (.int .i64 ((R.last + m : Nat) : Int)) := ⟨_, rfl⟩
        rw [← hW] at rg
        have hk5 : Kept wr W (fun x => x = r) := by
          rw [hW]
          exact (Kept.setCell wr ⟨r, 4, none⟩ _ (fun x => x = r) rfl).trans (Kept.setCell _ ⟨r, 5, none⟩ _ (fun x => x = r) rfl) (fun _ h => .inl h)
        have hs5 := hk5.size
        show _ ∧ Kept w ((wr.setCell ⟨r, 4, none⟩ (.int .i64 ((R.last + m : Nat) : Int))).setCell ⟨r, 5, none⟩ (.int .i64 ((R.last + m : Nat) : Int))) _ ∧ PD ((wr.setCell ⟨r, 4, none⟩ (.int .i64 ((R.last + m : Nat) : Int))).setCell ⟨r, 5, none⟩ (.int .i64 ((R.last + m : Nat) : Int))) (More G w ((wr.setCell ⟨r, 4, none⟩ (.int .i64 ((R.last + m : Nat) : Int))).setCell ⟨r, 5, none⟩ (.int .i64 ((R.last + m : Nat) : Int)))) (More S w ((wr.setCell ⟨r, 4, none⟩ (.int .i64 ((R.last + m : Nat) : Int))).setCell ⟨r, 5, none⟩ (.int .i64 ((R.last + m : Nat) : Int)))) q Di ∧ RgAt ((wr.setCell ⟨r, 4, none⟩ (.int .i64 ((R.last + m : Nat) : Int))).setCell ⟨r, 5, none⟩ (.int .i64 ((R.last + m : Nat) : Int))) r q { R with last := R.last + m, top := R.last + m }
        rw [← hW]
        refine ⟨rfl, (HKW.out.mono (fun _ _ h => .inl h)).trans hk5 (fun x hx => .inl (.inr hx)), HPD.out.kept (fun x hx => ?_) (fun x hx => ?_) (fun x hx hm => hk5.block x hx (fun e => (hGr x hm.1).2 e)) (fun x _ hi hx => hk5.block x hx (fun e => not_sec HRR.out (by decide) (e ▸ hi))), rg⟩
        · rcases (hG' x hx).1 with h1 | h1
          · exact .inl h1
          · exact .inr ⟨h1, by have := (hG' x hx).2; omega⟩
        · rcases hS' x hx with h1 | h1
          · exact .inl h1
          · exact .inr ⟨h1.1, by omega⟩
end Go.Proofs.Ytplpfhgdanclhaa
