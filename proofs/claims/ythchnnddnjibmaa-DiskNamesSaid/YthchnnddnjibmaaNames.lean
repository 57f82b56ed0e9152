/-
  DiskNames, walked: the limits and the errors of package disk. No condition.
-/
import Derived.Test.YthchnnddnjibmaaWorks
namespace Go.Proofs.Ythchnnddnjibmaa
open Go.RowKit Go.Maps

theorem Read_nil (i : Int) (w : World) : Calls Try.prog 10 #[.pointer none, .int .i64 i] w fun e w' => e = .returned (.tuple #[.slice none 0 0, .int .i64 2]) ∧ w = w' := by
  go_enter Try.func10, Try.ntmps10
  go_wp2_with fail
  refine (p_find_nil i w).mono ?_
  rintro e w1 ⟨rfl, rfl⟩
  go_wp2_with fail
  go_ret2
  exact ⟨rfl, rfl⟩
theorem Reopen_nil (w : World) : Calls Try.prog 11 #[.pointer none] w fun e w' => e = .returned (.tuple #[.pointer none, .int .i64 2]) ∧ w = w' := by
  go_enter Try.func11, Try.ntmps11
  go_wp2_with fail
  go_ret2
  exact ⟨rfl, rfl⟩
theorem Write_nil (i : Int) (A : Option Addr) (n c : Nat) (w : World) : Calls Try.prog 13 #[.pointer none, .int .i64 i, .slice A n c] w fun e w' => e = .returned (.int .i64 2) ∧ w = w' := by
  go_enter Try.func13, Try.ntmps13
  go_wp2_with fail
  refine (p_find_nil i w).mono ?_
  rintro e w1 ⟨rfl, rfl⟩
  go_wp2_with fail
  go_ret
  exact ⟨rfl, rfl⟩
theorem Flush_nil (w : World) : Calls Try.prog 15 #[.pointer none] w fun e w' => e = .returned (.int .i64 2) ∧ w = w' := by
  go_enter Try.func15, Try.ntmps15
  go_wp2_with fail
  refine (p_live_nil w).mono ?_
  rintro e w1 ⟨rfl, rfl⟩
  go_wp2_with fail
  go_ret
  exact ⟨rfl, rfl⟩
theorem Crash_nil (A : Option Addr) (n c : Nat) (w : World) : Calls Try.prog 16 #[.pointer none, .slice A n c] w fun e w' => e = .returned (.int .i64 2) ∧ w = w' := by
  go_enter Try.func16, Try.ntmps16
  go_wp2_with fail
  refine (p_live_nil w).mono ?_
  rintro e w1 ⟨rfl, rfl⟩
  go_wp2_with fail
  go_ret
  exact ⟨rfl, rfl⟩
theorem Fuse_nil (k : Int) (A : Option Addr) (n c : Nat) (w : World) : Calls Try.prog 12 #[.pointer none, .int .i64 k, .slice A n c] w fun e w' => e = .returned (.int .i64 2) ∧ w = w' := by
  go_enter Try.func12, Try.ntmps12
  go_wp2_with fail
  refine (p_live_nil w).mono ?_
  rintro e w1 ⟨rfl, rfl⟩
  go_wp2_with fail
  go_ret
  exact ⟨rfl, rfl⟩
theorem Copy_nil (w : World) : Calls Try.prog 17 #[.pointer none] w fun e w' => e = .returned (.pointer none) ∧ w = w' := by
  go_enter Try.func17, Try.ntmps17
  go_wp2_with fail
  go_ret
  exact ⟨rfl, rfl⟩
theorem Dead_nil (w : World) : Calls Try.prog 18 #[.pointer none] w fun e w' => e = .returned (.bool false) ∧ w = w' := by
  go_enter Try.func18, Try.ntmps18
  go_wp2_with fail
  go_ret
  exact ⟨rfl, rfl⟩
theorem Len_nil (w : World) : Calls Try.prog 19 #[.pointer none] w fun e w' => e = .returned (.int .i64 0) ∧ w = w' := by
  go_enter Try.func19, Try.ntmps19
  go_wp2_with fail
  go_ret
  exact ⟨rfl, rfl⟩
theorem Waits_nil (w : World) : Calls Try.prog 20 #[.pointer none] w fun e w' => e = .returned (.int .i64 0) ∧ w = w' := by
  go_enter Try.func20, Try.ntmps20
  go_wp2_with fail
  go_ret
  exact ⟨rfl, rfl⟩
theorem Done_nil (w : World) : Calls Try.prog 21 #[.pointer none] w fun e w' => e = .returned (.int .i64 0) ∧ w = w' := by
  go_enter Try.func21, Try.ntmps21
  go_wp2_with fail
  go_ret
  exact ⟨rfl, rfl⟩
theorem one_notDead {B : Nat} {w : World} {q : Nat} {D : DS} (h : One B w q D) (hd : D.dead = false) (hF : Fine D) : Calls Try.prog 11 #[.pointer (some ⟨q, 0, none⟩)] w fun e w' => e = .returned (.tuple #[.pointer none, .int .i64 50]) ∧ Below w.heap.size w w' := by
  obtain ⟨hB, G, S, hp, hG⟩ := h
  refine (pReopen_any G S q D w hp hF.lasts).mono fun e w' ⟨h1, h2⟩ => ?_
  rw [hd] at h2
  exact ⟨h2, h1⟩

def nX : DS := DS.new 2
def nY0 : DS := DS.new 1
def nY1 : DS := { nY0 with fuse := some 0, keep := [true] }
def nY2 : DS := (nY1.wrote 0 (all512 7)).crash [true]
def nZ : DS := nY2.again
theorem nE1 : nY0.lit 0 [true] = (0, nY1) := by kernel_rfl
theorem nE2 : nY1.write 0 (all512 7) = (20, nY2) := by kernel_rfl
theorem nE2d : nY2.dead = true := by kernel_rfl
theorem nE3 : nZ.read 0 = (0, all512 7) := by kernel_rfl
theorem nEx : nX.read 2 = (1, []) := by kernel_rfl
theorem nEl : nX.lit (-1) [] = (1, nX) := by kernel_rfl
theorem nEw1 : nX.write 0 ((all512 1).take 511) = (1, nX) := by kernel_rfl
theorem nEw2 : nX.write (-1) (all512 1) = (1, nX) := by kernel_rfl
theorem nF : Fit nX 0 := Fit.new (by omega)
theorem nFY0 : Fit nY0 0 := Fit.new (by omega)
theorem nFY1 : Fit nY1 0 := by have h := nFY0.lit 0 (kl := [true]) (by decide); rw [nE1] at h; exact h
theorem nFY2 : Fit nY2 1 := by have h := nFY1.write 0 (all512 7); rw [nE2] at h; exact h
theorem nFZ : Fit nZ 1 := nFY2.again

theorem elem_bytes : Try.prog.underlying 27 = some (.slice (Try.prog.elem 27)) := by kernel_rfl
theorem size_bytes (W : World) : (sizeOf (Try.prog.elem 27)).run Try.prog W = .ok 1 W := by kernel_rfl
theorem bytes_till (W : World) (a : Option Addr) (len c : Nat) (h : Int) (k : Nat) (hk : h = (k : Int)) (hc : k ≤ c) :
    (Instr.slice 27 (.slice a len c) none (some (.int .i64 h)) none).run Try.prog W = .ok (.slice a k c) W := by
  subst hk
  rw [run_slice_h _ _ _ _ _ elem_bytes .i64 (k : Int) (by omega) (by omega), size_bytes]
  simp only [Result.andThen, sliced, Int.toNat_natCast, Nat.sub_zero, Nat.zero_mul]
  split
  · rfl
  · cases a <;> simp [Addr.add]
theorem Rd.till {w : World} {B : Nat} {A : Option Addr} {c : Nat} {l : List UInt8} (h : Rd w B (.slice A l.length c) l) (k : Nat) (hk : k ≤ l.length) : Rd w B (.slice A k c) (l.take k) := by
  obtain ⟨A', c', he, h1, h2, h3, h4⟩ := h
  injection he with e1 _ e2
  subst e1
  subst e2
  have hl : (l.take k).length = k := by rw [List.length_take]; omega
  refine ⟨A, c, by rw [hl], by omega, h2, h3, fun hn => ?_⟩
  obtain ⟨b, o, rfl, hb, hc⟩ := h4 (by rintro rfl; simp at hn)
  refine ⟨b, o, rfl, hb, fun j u hu => hc j u ?_⟩
  rw [List.getElem?_take] at hu
  by_cases hj : j < k
  · rw [if_pos hj] at hu; exact hu
  · rw [if_neg hj] at hu; cases hu

/-- a cell of another block is written -/
theorem One.set {B : Nat} {w : World} {q : Nat} {D : DS} (h : One B w q D) {g i : Nat} {u : Value} {C : Array Value} {T : TypeId} (hg : g < B) (ht : w.heap[g]? = some (.cells C T (0, 0))) (hT : T ≠ 66) : One B (w.setCell ⟨g, i, none⟩ u) q D := by
  obtain ⟨hB, G, S, hp, hG⟩ := h
  have hz : (w.setCell ⟨g, i, none⟩ u).heap.size = w.heap.size := by simp
  refine ⟨by rw [hz]; exact hB, G, S, hp.kept (fun _ h => h) (fun _ h => h) (fun b _ hm => set_other (by have := (hG b hm.1).1; omega)) (fun b _ hi _ => set_other (by rintro rfl; exact not_sec ht hT hi)), hG.grow (Nat.le_of_eq hz.symm)⟩

set_option maxHeartbeats 8000000 in
set_option maxRecDepth 100000 in
theorem names_walk (w : World) : Calls Try.prog 3 #[] w fun e w' => e = .returned (.bool true) ∧ Below w.heap.size w w' := by
  go_enter Try.func3, Try.ntmps3
  go_wp2_with fail
  refine (works_any w).mono ?_
  rintro e w1 ⟨rfl, hb1⟩
  have hs1 := hb1.size
  go_wp2_with fail
  refine (pNew_no 0 w1 (by omega)).mono ?_
  rintro e w2 ⟨rfl, rfl⟩
  go_wp2_with fail
  refine (pNew_no 65537 w1 (by omega)).mono ?_
  rintro e w2 ⟨rfl, rfl⟩
  go_wp2_with fail
  refine (one_new w1.heap.size 65536 _ w1 rfl (by omega) (by omega) (Nat.le_refl _)).mono ?_
  rintro e w2 ⟨q0, rfl, hb2, -⟩
  have hs2 := hb2.size
  go_wp2_with fail
  refine (Read_nil 0 w2).mono ?_
  rintro e w3 ⟨rfl, rfl⟩
  go_wp2_with fail
  refine (Reopen_nil w2).mono ?_
  rintro e w3 ⟨rfl, rfl⟩
  go_wp2_with fail
  refine (one_new w2.heap.size 2 _ w2 rfl (by omega) (by omega) (Nat.le_refl _)).mono ?_
  rintro e w3 ⟨x, rfl, hb3, hx3⟩
  have X3 : Hid (One w2.heap.size w3 x nX) := hx3
  have hs3 := hb3.size
  clear hx3
  go_wp2_with fail
  have c4 := one_read X3.out 2 (nF.fine (by omega))
  rw [nEx] at c4
  refine c4.mono ?_
  rintro e w4 ⟨v4, rfl, hr4, hb4, hx4⟩
  have X4 := Lib.hid hx4
  have hs4 := hb4.size
  clear hx4 c4 hr4
  go_wp2_with fail
  refine (one_notDead X4.out rfl (nF.fine (by omega))).mono ?_
  rintro e w5 ⟨rfl, hb5⟩
  have X5 := Lib.hid (X4.out.grow hb5)
  have hs5 := hb5.size
  go_wp2_with fail
  have hb6 := Below.alloc (Below.refl w5.heap.size w5) (Nat.le_refl _) (.cells #[.bool true] 4)
  have hnew6 := heap_alloc_new w5 (.cells #[.bool true] 4)
  have hrow6 : RowAt (w5.alloc (.cells #[.bool true] 4)) (.slice (some ⟨w5.heap.size, 0, none⟩) 1 1) [true].length 1 (KS [true]) := by
    have ho := World.ownsRow_lit (base := 0) (e := 4) (size := 1) w5 #[.bool true] 1 (Nat.zero_le _) (by unfold maxLen; omega) rfl
    exact RowAt.of_own ho
  have hz6 : (w5.alloc (.cells #[.bool true] 4)).heap.size = w5.heap.size + 1 := by simp
  obtain ⟨g, hg⟩ : ∃ g, g = w5.heap.size := ⟨_, rfl⟩
  rw [← hg] at hnew6 hrow6 ⊢
  obtain ⟨w6, hw6⟩ : ∃ w6, w6 = w5.alloc (.cells #[.bool true] 4) := ⟨_, rfl⟩
  rw [← hw6] at hb6 hnew6 hrow6 hz6 ⊢
  have HG := Lib.hid hg
  have HZ6 := Lib.hid hz6
  have hs6 := hb6.size
  have hg6 : g < w6.heap.size := (Array.getElem?_eq_some_iff.1 hnew6).1
  clear hw6 hg hz6
  refine (one_new w6.heap.size 1 _ w6 rfl (by omega) (by omega) (Nat.le_refl _)).mono ?_
  rintro e w7 ⟨y, rfl, hb7, hy7⟩
  have Y7 : Hid (One w6.heap.size w7 y nY0) := hy7
  have hs7 := hb7.size
  clear hy7
  go_wp2_with fail
  have c8 := one_fuse Y7.out 0 _ [true] (by omega) (hrow6.grow hb7) (by decide)
  rw [nE1] at c8
  refine c8.mono ?_
  rintro e w8 ⟨rfl, hb8, hy8⟩
  have hnew8 := (hb8.block g hg6).trans ((hb7.block g hg6).trans hnew6)
  have k8 : w8.cell? ⟨g, 0, none⟩ = some (.bool true) := (row7 hnew8).1 0
  have z8 := (row7 hnew8).2 0
  have hy9 := hy8.set (i := 0) (u := .bool false) hg6 hnew8 (by decide)
  have hs8 := hb8.size
  have Y9 := Lib.hid hy9
  clear hy8 hy9 c8 hrow6 hnew6 hnew8
  go_upto_region 17 with fail
  have hl9 : Below w5.heap.size w5 (w8.setCell ⟨g, 0, none⟩ (.bool false)) := (((hb6.trans (Joins.below_le hb7 hs6)).trans (Joins.below_le hb8 hs6))).setCell (p := ⟨g, 0, none⟩) (Nat.le_of_eq HG.out.symm) _
  have hz9 : (w8.setCell ⟨g, 0, none⟩ (.bool false)).heap.size = w8.heap.size := by simp
  obtain ⟨w9, hw9⟩ : ∃ w9, w9 = w8.setCell ⟨g, 0, none⟩ (.bool false) := ⟨_, rfl⟩
  rw [← hw9] at hl9 hz9 Y9 ⊢
  have hs9 : w8.heap.size ≤ w9.heap.size := Nat.le_of_eq hz9.symm
  clear hw9 hz9 k8 z8
  go_wp2_with fail
  refine (full_c 7 _ w9 rfl).mono ?_
  rintro e w10 ⟨g10, rfl, hr10, hb10⟩
  have hs10 := hb10.size
  go_wp2_with fail
  have c11 := one_write (Y9.out.grow hb10) 0 _ _ hr10 (nFY1.fine (by omega))
  rw [nE2] at c11
  refine c11.mono ?_
  rintro e w11 ⟨rfl, hb11, hy11⟩
  have Y11 := Lib.hid hy11
  have hs11 := hb11.size
  clear hy11 c11 hr10
  go_wp2_with fail
  refine (one_again Y11.out nE2d (nFY2.fine (by omega))).mono ?_
  rintro e w12 ⟨z, rfl, hb12, hz12⟩
  have Z12 : Hid (One w6.heap.size w12 z nZ) := hz12
  have hs12 := hb12.size
  clear hz12
  go_wp2_with fail
  have c13 := one_read Z12.out 0 (nFZ.fine (by omega))
  rw [nE3] at c13
  refine c13.mono ?_
  rintro e w13 ⟨v13, rfl, hr13, hb13, hz13⟩
  obtain ⟨g13, cap13, rfl, hg13, hg13', hc13⟩ := own_at hr13
  have k13 : w13.cell? ⟨g13, 9, none⟩ = some (.int .u8 7) := hc13 9 (by omega)
  have hs13 := hb13.size
  clear hz13 c13 hr13 hc13
  have hl13 : Below w5.heap.size w5 w13 := (((hl9.trans (Joins.below_le hb10 (by omega))).trans (Joins.below_le hb11 hs6)).trans (Joins.below_le hb12 (by omega))).trans (Joins.below_le hb13 (by omega))
  have X13 := Lib.hid (X5.out.grow hl13)
  go_wp2_with fail
  refine (full_c 1 _ w13 rfl).mono ?_
  rintro e w14 ⟨g14, rfl, -, hb14⟩
  have hs14 := hb14.size
  go_wp2_with fail
  refine (Write_nil 0 _ _ _ w14).mono ?_
  rintro e w15 ⟨rfl, rfl⟩
  go_wp2_with fail
  refine (Flush_nil w14).mono ?_
  rintro e w15 ⟨rfl, rfl⟩
  go_wp2_with fail
  refine (Crash_nil _ _ _ w14).mono ?_
  rintro e w15 ⟨rfl, rfl⟩
  go_wp2_with fail
  refine (Fuse_nil 0 _ _ _ w14).mono ?_
  rintro e w15 ⟨rfl, rfl⟩
  go_wp2_with fail
  refine (Copy_nil w14).mono ?_
  rintro e w15 ⟨rfl, rfl⟩
  go_wp2_with fail
  refine (Dead_nil w14).mono ?_
  rintro e w15 ⟨rfl, rfl⟩
  go_wp2_with fail
  refine (Len_nil w14).mono ?_
  rintro e w15 ⟨rfl, rfl⟩
  go_wp2_with fail
  refine (Waits_nil w14).mono ?_
  rintro e w15 ⟨rfl, rfl⟩
  go_wp2_with fail
  refine (Done_nil w14).mono ?_
  rintro e w15 ⟨rfl, rfl⟩
  have hx14 := X13.out.grow hb14
  have c15 := one_fuse hx14 (-1) (.slice none 0 0) [] (by omega) ⟨none, 0, rfl, rfl, Nat.le_refl _, by unfold maxLen; omega, fun _ => rfl, fun h => absurd h (Nat.lt_irrefl _)⟩ (by decide)
  rw [nEl] at c15
  clear hx14
  go_wp2_with fail
  refine c15.mono ?_
  rintro e w15 ⟨rfl, hb15, hx15⟩
  have X15 := Lib.hid hx15
  have hs15 := hb15.size
  clear hx15 c15
  go_wp2_with fail
  refine (full_c 1 _ w15 rfl).mono ?_
  rintro e w16 ⟨g16, rfl, hr16, hb16⟩
  have hs16 := hb16.size
  have hsl := bytes_till w16 (some ⟨g16, 0, none⟩) 512 512 511 511 rfl (by omega)
  have hr16' : Rd w16 w16.heap.size (.slice (some ⟨g16, 0, none⟩) (all512 1).length 512) (all512 1) := by rw [all512_length]; exact hr16
  have hr17 := hr16'.till 511 (by rw [all512_length]; omega)
  have c17 := one_write (X15.out.grow hb16) 0 _ _ hr17 (nF.fine (by omega))
  rw [nEw1] at c17
  clear hr16 hr16' hr17
  go_wp2_with fail
  refine c17.mono ?_
  rintro e w17 ⟨rfl, hb17, hx17⟩
  have X17 := Lib.hid hx17
  have hs17 := hb17.size
  clear hx17 c17
  go_wp2_with fail
  refine (full_c 1 _ w17 rfl).mono ?_
  rintro e w18 ⟨g18, rfl, hr18, hb18⟩
  have hs18 := hb18.size
  have c19 := one_write (X17.out.grow hb18) (-1) _ _ hr18 (nF.fine (by omega))
  rw [nEw2] at c19
  clear hr18
  go_wp2_with fail
  refine c19.mono ?_
  rintro e w19 ⟨rfl, hb19, hx19⟩
  have hs19 := hb19.size
  have c20 := one_done hx19
  clear hx19 c19
  go_wp2_with fail
  refine c20.mono ?_
  rintro e w20 ⟨rfl, rfl⟩
  go_wp2_with fail
  go_ret
  refine ⟨rfl, ?_⟩
  have l1 := hb1
  have l2 := l1.trans (Joins.below_le hb2 (by omega))
  have l3 := l2.trans (Joins.below_le hb3 (by omega))
  have l4 := l3.trans (Joins.below_le hb4 (by omega))
  have l5 := l4.trans (Joins.below_le hb5 (by omega))
  have l13 := l5.trans (Joins.below_le hl13 (by omega))
  have l14 := l13.trans (Joins.below_le hb14 (by omega))
  have l15 := l14.trans (Joins.below_le hb15 (by omega))
  have l16 := l15.trans (Joins.below_le hb16 (by omega))
  have l17 := l16.trans (Joins.below_le hb17 (by omega))
  have l18 := l17.trans (Joins.below_le hb18 (by omega))
  exact l18.trans (Joins.below_le hb19 (by omega))
end Go.Proofs.Ythchnnddnjibmaa
