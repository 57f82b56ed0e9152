/-
  The document's ring (butteryref04): Room, Empty; the law's 'told', 'record', 'sectors'. No statement is proved here. No condition.
-/
import Derived.Test.YtlokehekkllbeaaGMem
namespace Go.Proofs.Ytlokehekkllbeaa
open Go.RowKit

theorem mod_of (n mi : Int) (m : Nat) (hmi : mi = (m : Int)) (hm : 0 < m) (hm2 : m < 4294967296) : ∃ N : Nat, N < m ∧ wrap64 ((IntKind.u64.wrap n).tmod mi) = (N : Int) := by
  subst hmi
  have h1 : IntKind.u64.wrap n = n % 18446744073709551616 := IntKind.wrap_u64 n
  have h0 : 0 ≤ n % 18446744073709551616 := by omega
  rw [h1, Int.tmod_eq_emod_of_nonneg h0]
  refine ⟨((n % 18446744073709551616) % (m : Int)).toNat, ?_, ?_⟩
  · have := Int.emod_lt_of_pos (n % 18446744073709551616) (show (0 : Int) < (m : Int) by omega)
    have := Int.emod_nonneg (n % 18446744073709551616) (show (m : Int) ≠ 0 by omega)
    omega
  · have := Int.emod_lt_of_pos (n % 18446744073709551616) (show (0 : Int) < (m : Int) by omega)
    have := Int.emod_nonneg (n % 18446744073709551616) (show (m : Int) ≠ 0 by omega)
    unfold wrap64
    omega
theorem wrap_small (z : Int) (h0 : 0 ≤ z) (h1 : z < 9223372036854775808) : wrap64 z = z := by unfold wrap64; omega

/-- a record of the law's: some bytes, in new memory -/
def RecPost (w : World) (e : Ending) (w' : World) : Prop := ∃ (m g : Nat) (rec : List UInt8), m < 3000 ∧ rec.length = m ∧ e = .returned (.slice (some ⟨g, 0, none⟩) m m) ∧ w.heap.size ≤ g ∧ w'.ownsRow w.heap.size 5 1 (.slice (some ⟨g, 0, none⟩) m m) m (BS rec) ∧ Below w.heap.size w w'
set_option maxHeartbeats 1000000 in
theorem record_any (k len n : Int) (c : UInt8) (w : World) : Calls Try.prog 9 #[.agg #[.int .u8 k, .int .i64 len, .int .u8 (c.toNat : Int), .int .i64 n]] w (RecPost w) := by
  obtain ⟨m, hm, em⟩ := mod_of len 3000 3000 rfl (by omega) (by omega)
  go_enter Try.func9, Try.ntmps9
  go_upto_region 1 with fail
  obtain ⟨w1, hw1⟩ : ∃ w1, w1 = w.alloc (.cells #[.int .u8 k, .int .i64 len, .int .u8 (c.toNat : Int), .int .i64 n] 38) := ⟨_, rfl⟩
  obtain ⟨s0, hs0⟩ : ∃ s0, s0 = w.heap.size := ⟨_, rfl⟩
  rw [← hw1, ← hs0]
  have hb1 : Below s0 w w1 := by rw [hw1, hs0]; exact (Below.refl _ _).alloc (Nat.le_refl _) _
  have hr1 : w1.heap[s0]? = some (.cells #[.int .u8 k, .int .i64 len, .int .u8 (c.toNat : Int), .int .i64 n] 38 (0, 0)) := by rw [hw1, hs0]; exact heap_alloc_new _ _
  have hs1 : w1.heap.size = s0 + 1 := by rw [hw1, hs0]; simp
  have q1 : w1.cell? ⟨s0, 1, none⟩ = some (.int .i64 len) := (row7 hr1).1 1
  obtain ⟨w4, hmk0, hz4, hb4⟩ := made_noughts m (by omega) w1
  have hmk : (Instr.makeSlice 39 (.int .i64 (wrap64 ((IntKind.u64.wrap len).tmod 3000))) (.int .i64 (wrap64 ((IntKind.u64.wrap len).tmod 3000)))).run Try.prog w1 = .ok (.slice (some ⟨w1.heap.size, 0, none⟩) m m) w4 := by rw [em]; exact hmk0
  obtain ⟨g, hg⟩ : ∃ g, g = w1.heap.size := ⟨_, rfl⟩
  rw [← hg] at hz4 hmk
  have hr4 : w4.heap[s0]? = _ := (hb4.block s0 (by omega)).trans hr1
  have HB : Hid (Below s0 w w4) := Lib.hid (hb1.trans (Joins.below_le hb4 (by omega)))
  have HR4 := Lib.hid hr4
  have HZ4 := Lib.hid hz4
  have hgs : s0 < g := by omega
  have HGS := Lib.hid hgs
  have HS0 := Lib.hid hs0
  have hlen4 : s0 < w4.heap.size := (Array.getElem?_eq_some_iff.1 hr4).1
  clear hw1 hs0 hb1 hr1 hs1 hmk0 em hz4 hb4 hg hr4 hgs
  go_wp2_with fail
  go_loopw [4] (fun kv wr => ∃ (kk : Nat) (rec : List UInt8), kv = .int .i64 kk ∧ kk ≤ m ∧ rec.length = m ∧ Hid (wr.ownsRow g 5 1 (.slice (some ⟨g, 0, none⟩) m m) m (BS rec)) ∧ Hid (w4.grownBy wr (some g))) (fun kv _ => m - (intOf kv).toNat)
  case atStart => exact ⟨0, List.replicate m 0, rfl, Nat.zero_le _, List.length_replicate, HZ4, Lib.hid ⟨rfl, rfl, rfl, Nat.le_refl _, fun _ _ _ => rfl⟩⟩
  case round =>
    obtain ⟨kk, rec, rfl, hkk, hrl, hro, hgr⟩ := hrel
    have hcell : wr.cell? ⟨s0, 2, none⟩ = some (.int .u8 (c.toNat : Int)) := (World.cell?_of_block (a := ⟨s0, 2, none⟩) (hgr.out.block s0 hlen4 (fun e => by have := HGS.out; have h1 := Option.some.inj e; omega))).trans ((row7 HR4.out).1 2)
    by_cases hkl : kk < m
    · have i1 : (kk : Int) < (m : Int) := by omega
      have i0 : (0 : Int) ≤ (kk : Int) := by omega
      obtain ⟨u, hu⟩ : ∃ u, wr.cell? ⟨g, kk, none⟩ = some u := by
        rw [hro.out.cellAt kk (by omega)]
        exact ⟨_, List.getElem?_eq_getElem (by rw [BS_length]; omega)⟩
      have hz : wr.frozen? ⟨g, kk, none⟩ = false := hro.out.frozenAt kk
      obtain ⟨x, hx⟩ : ∃ x : UInt8, ((c.toNat : Int) + (kk : Int)) % 256 = (x.toNat : Int) := ⟨UInt8.ofNat (c.toNat + kk), by rw [UInt8.toNat_ofNat']; omega⟩
      have hst := hro.out.stored kk (.int .u8 (((c.toNat : Int) + (kk : Int)) % 256))
      have hst1 := hst.1
      rw [hx, ← BS_set, ← hx] at hst1
      have hgn : w4.grownBy (wr.setCell ⟨g, kk, none⟩ (.int .u8 (((c.toNat : Int) + (kk : Int)) % 256))) (some g) := ⟨hst.2.os.trans hgr.out.os, hst.2.tape.trans hgr.out.tape, hst.2.output.trans hgr.out.output, Nat.le_trans hgr.out.size hst.2.size, fun q hq hqg => (hst.2.block q (by have := hgr.out.size; omega) hqg).trans (hgr.out.block q hq hqg)⟩
      have HST := Lib.hid hst1
      have HGN := Lib.hid hgn
      have hrl2 : (rec.set kk x).length = m := by rw [List.length_set]; exact hrl
      have hcb := c.toNat_lt
      have HX := Lib.hid hx
      clear hst hst1 hgn hro hgr hx
      go_wp2_with fail
      exact ⟨⟨kk + 1, _, by go_num, hkl, hrl2, HST, HGN⟩, by simp [intOf]; omega⟩
    · have i1 : ¬ (kk : Int) < (m : Int) := by omega
      clear hcell
      go_wp2_with fail
      go_ret
      exact ⟨m, g, rec, hm, hrl, rfl, by have := HS0.out; have := HGS.out; omega, hro.out.mono (by have := HS0.out; have := HGS.out; omega), by rw [← HS0.out]; exact HB.out.grown hgr.out (by have := HB.out.size; have := HS0.out; omega) (fun k hk => by have h1 : g = k := Option.some.inj hk; have := HGS.out; omega)⟩

section
variable {w : World} {N : Nat → Prop} {x r q : Nat} {S : List (List UInt8)} {R : RG} {G S' : Nat → Prop} {D : DS}
theorem xroom_any (h : XG w N x S R) (hR : R.fine) (hS : S.length = R.count) :
    Calls Try.prog 33 #[.pointer (some ⟨x, 0, none⟩)] w fun e w' => e = .returned (.int .i64 (R.room' : Int)) ∧ ∃ n, w' = w.drewN n := by
  obtain ⟨v, xs, h⟩ := h
  have c0 := h.c0
  have c1 := h.c1
  have c2 := h.c2
  have c3 := h.c3
  have i1 := hR.room
  have i2 := hR.low
  have i3 := hR.high
  have i4 := hR.up
  have i5 := hR.most
  obtain ⟨A, c, hv⟩ := own_slice h.own
  subst hv
  obtain ⟨sl, hsl⟩ : ∃ sl, sl = S.length := ⟨_, rfl⟩
  rw [← hsl] at c0 hS
  by_cases hl : R.last < R.top
  · have e : R.room' = 0 := by unfold RG.room'; rw [if_pos hl]
    rw [e]
    have j1 : (R.last : Int) < (R.top : Int) := by omega
    clear h e hR hS hsl
    go_enter Try.func33, Try.ntmps33
    go_wp2_with fail
    go_quiet (fail)
    go_wp2_with fail
    go_ret
    exact ⟨rfl, _, rfl⟩
  · have e : R.room' = R.count - (R.last - R.base) := by unfold RG.room'; rw [if_neg hl]
    rw [e]
    have e2 : ((R.count - (R.last - R.base) : Nat) : Int) = (sl : Int) - ((R.last : Int) - (R.base : Int)) := by omega
    have HE := Lib.hid e2
    have j1 : ¬ (R.last : Int) < (R.top : Int) := by omega
    clear e e2 hR hsl
    go_enter Try.func33, Try.ntmps33
    go_wp2_with fail
    go_quiet (fail)
    obtain ⟨wd, hwd⟩ : ∃ wd, wd = w.drewN nq := ⟨_, rfl⟩
    have d0 : wd.cell? ⟨x, 0, none⟩ = some (.slice A sl c) := by rw [hwd]; exact c0
    have d1 : wd.cell? ⟨x, 1, none⟩ = some (.int .i64 (R.base : Int)) := by rw [hwd]; exact c1
    have d2 : wd.cell? ⟨x, 2, none⟩ = some (.int .i64 (R.last : Int)) := by rw [hwd]; exact c2
    rw [← hwd]
    have HWD := Lib.hid hwd
    clear h hwd c0 c1 c2 c3
    go_wp2_with fail
    go_quiet (fail)
    go_wp2_with fail
    go_ret
    have hk : ∃ n, wd.drewN nq = w.drewN n := ⟨_, by rw [HWD.out, World.drewN_drewN]⟩
    refine ⟨ret_int ?_, hk⟩
    rw [HE.out]
    try simp only [wrap64]
    try omega

theorem XG.emptied (h : XG w N x S R) : XG ((w.setCell ⟨x, 1, none⟩ (.int .i64 (R.top : Int))).setCell ⟨x, 2, none⟩ (.int .i64 (R.top : Int))) N x S { R with base := R.top, last := R.top } := by
  obtain ⟨v, xs, h⟩ := h
  exact ⟨v, xs, (h.note 1 (.int .i64 (R.top : Int)) { R with base := R.top } (by simp)).note 2 (.int .i64 (R.top : Int)) { R with base := R.top, last := R.top } (by simp)⟩
theorem xempty_any (h : XG w N x S R) :
    Calls Try.prog 15 #[.pointer (some ⟨x, 0, none⟩)] w fun e w' => e = .returned (.int .i64 (R.top : Int)) ∧ Kept w w' (fun b => b = x) ∧ XG w' N x S { R with base := R.top, last := R.top } := by
  obtain ⟨v, xs, h1⟩ := id h
  have c1 := h1.c1
  have c2 := h1.c2
  have c3 := h1.c3
  have z1 := h1.fz 1
  have z2 := h1.fz 2
  have h2 := XG.emptied (show XG w.drew N x S R from h.drew 1)
  have h3 : Kept w ((w.drew.setCell ⟨x, 1, none⟩ (.int .i64 (R.top : Int))).setCell ⟨x, 2, none⟩ (.int .i64 (R.top : Int))) (fun b => b = x) := ((Kept.drew w (fun b => b = x)).trans (Kept.setCell _ ⟨x, 1, none⟩ _ (fun b => b = x) rfl) (fun _ h => .inl h)).trans (Kept.setCell _ ⟨x, 2, none⟩ _ (fun b => b = x) rfl) (fun _ h => .inl h)
  have H2 := Lib.hid h2
  have H3 := Lib.hid h3
  clear h h1 h2 h3
  go_enter Try.func15, Try.ntmps15
  go_wp2_with fail
  go_region
  all_goals go_wp2_with fail
  all_goals go_ret
  all_goals exact ⟨rfl, H3.out, H2.out⟩

theorem calls_quiet {P : Program} {f : FuncId} {args : Array Value} {w : World} {v : Value} (h : Calls P f args w fun e w' => e = .returned v ∧ w = w') : Calls P f args w fun e w' => e = .returned v ∧ ∃ m, w' = w.drewN m := h.mono fun _ _ ⟨h1, h2⟩ => ⟨h1, 0, h2.symm⟩
set_option maxHeartbeats 1000000 in
/-- the program's ring and the document's tell the same -/
theorem told_any (hr : RgAt w r q R) (h : XG w N x S R) (hR : R.fine) (hS : S.length = R.count) :
    Calls Try.prog 19 #[.pointer (some ⟨r, 0, none⟩), .pointer (some ⟨x, 0, none⟩)] w fun e w' => e = .returned (.bool true) ∧ ∃ n, w' = w.drewN n := by
  obtain ⟨v, xs, h1⟩ := id h
  have k1 : ∀ n, (w.drewN n).cell? ⟨x, 1, none⟩ = some (.int .i64 (R.base : Int)) := fun n => h1.c1
  have k2 : ∀ n, (w.drewN n).cell? ⟨x, 2, none⟩ = some (.int .i64 (R.last : Int)) := fun n => h1.c2
  have k3 : ∀ n, (w.drewN n).cell? ⟨x, 3, none⟩ = some (.int .i64 (R.top : Int)) := fun n => h1.c3
  have p1 : ∀ n, Calls Try.prog 38 #[.pointer (some ⟨r, 0, none⟩)] (w.drewN n) fun e w' => e = .returned (.int .i64 (R.base : Int)) ∧ w' = w.drewN n := fun n => (pbase_any (hr.drew n)).mono fun e w' ⟨h1, h2⟩ => ⟨h1, h2.symm⟩
  have p2 : ∀ n, Calls Try.prog 24 #[.pointer (some ⟨r, 0, none⟩)] (w.drewN n) fun e w' => e = .returned (.int .i64 (R.last : Int)) ∧ w' = w.drewN n := fun n => (plast_any (hr.drew n)).mono fun e w' ⟨h1, h2⟩ => ⟨h1, h2.symm⟩
  have p3 : ∀ n, Calls Try.prog 39 #[.pointer (some ⟨r, 0, none⟩)] (w.drewN n) fun e w' => e = .returned (.int .i64 (R.top : Int)) ∧ w' = w.drewN n := fun n => (ptop_any (hr.drew n)).mono fun e w' ⟨h1, h2⟩ => ⟨h1, h2.symm⟩
  have p4 : ∀ n, Calls Try.prog 25 #[.pointer (some ⟨r, 0, none⟩)] (w.drewN n) fun e w' => e = .returned (.int .i64 (R.room' : Int)) ∧ ∃ m, w' = (w.drewN n).drewN m := fun n => proom_any (hr.drew n) hR
  have p5 : ∀ n, Calls Try.prog 33 #[.pointer (some ⟨x, 0, none⟩)] (w.drewN n) fun e w' => e = .returned (.int .i64 (R.room' : Int)) ∧ ∃ m, w' = (w.drewN n).drewN m := fun n => xroom_any (h.drew n) hR hS
  clear h h1 hR hr hS
  go_enter Try.func19, Try.ntmps19
  go_wp2_with fail
  go_quiet (first | (go_at_call 38; exact Calls.quiet_of_same (p1 _)) | (go_at_call 24; exact Calls.quiet_of_same (p2 _)) | (go_at_call 39; exact Calls.quiet_of_same (p3 _)) | (go_at_call 25; exact Calls.quiet_of (p4 _)) | (go_at_call 33; exact Calls.quiet_of (p5 _)))
  go_wp2_with fail
  go_ret
  exact ⟨rfl, _, rfl⟩

end
end Go.Proofs.Ytlokehekkllbeaa
