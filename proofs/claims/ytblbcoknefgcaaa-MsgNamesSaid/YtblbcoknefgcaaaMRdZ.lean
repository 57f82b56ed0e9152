/-
  A whole message, read. No statement is proved here. No condition.
-/
import Derived.Test.YtblbcoknefgcaaaMRdE
namespace Go.Proofs.Ytblbcoknefgcaaa
open Go.RowKit

theorem rAll6 (st : RS) : rAll rN 6 st = ([(rN st).1, (rN (rN st).2).1, (rN (rN (rN st).2).2).1, (rN (rN (rN (rN st).2).2).2).1, (rN (rN (rN (rN (rN st).2).2).2).2).1, (rN (rN (rN (rN (rN (rN st).2).2).2).2).2).1], (rN (rN (rN (rN (rN (rN st).2).2).2).2).2).2) := rfl
theorem rAll5 (st : RS) : rAll rN 5 st = ([(rN st).1, (rN (rN st).2).1, (rN (rN (rN st).2).2).1, (rN (rN (rN (rN st).2).2).2).1, (rN (rN (rN (rN (rN st).2).2).2).2).1], (rN (rN (rN (rN (rN st).2).2).2).2).2) := rfl
/-- what is read, one behind the other: each field of a message, and what is left behind it -/
structure RdMsg (st : RS) (m : MG) (st' : RS) : Prop where
  ex : ∃ t0 t1 t2 t3 t4 t5 t6 t7 t8 t9 t10 t11 t12 t13 t14 t15 t16 t17 t18 t19 t20 t21 t22 t23 : RS,
    rK st = (m.kind, t0) ∧ rN t0 = (m.shard, t1) ∧ rN t1 = (m.epoch, t2) ∧ rN t2 = (m.owner, t3) ∧ rN t3 = (m.req, t4) ∧ rN t4 = (m.client, t5) ∧ rN t5 = (m.id, t6) ∧ rPO t6 = (m.op, t7) ∧ rN t7 = (m.code, t8) ∧ rPR t8 = (m.res, t9)
    ∧ rN t9 = (m.grant, t10) ∧ rN t10 = (m.term, t11) ∧ rN t11 = (m.index, t12) ∧ rN t12 = (m.prev, t13) ∧ rN t13 = (m.commit, t14) ∧ rF t14 = (m.granted, t15) ∧ rList rEN t15 = (m.entries, t16) ∧ rList rN t16 = (m.list, t17)
    ∧ rS t17 = (m.state, t18) ∧ rN t18 = (m.part, t19) ∧ rF t19 = (m.last, t20) ∧ rList rPP t20 = (m.pairs, t21) ∧ rList rPL t21 = (m.lasts, t22) ∧ rCM t22 = (m.cmd, t23) ∧ st' = t23
/-- how far the reading has come -/
structure MRt (w0 w : World) (R b o k pb : Nat) (st : RS) (vs : List Value) : Prop where
  sto : RdTo w0 w R b (o + k) st vs
  bx : BoxR w pb R
  ne : pb ≠ b ∧ pb ≠ R
  cf : CellOf w0 R b o 33
  z : ∀ (j : Nat) (v : Value), k ≤ j → zC[j]? = some v → w0.cell? ⟨b, o + j, none⟩ = some v
section
variable {w0 w w' : World} {R b o k pb q : Nat} {st st' : RS} {vs us : List Value}
theorem MRt.below (h : MRt w0 w R b o k pb st vs) (hb : Below w.heap.size w w') : MRt w0 w' R b o k pb st vs := ⟨h.sto.below hb, h.bx.below hb, h.ne, h.cf, h.z⟩
theorem MRt.drew (h : MRt w0 w R b o k pb st vs) : MRt w0 w.drew R b o k pb st vs := h.below (Below.refl _ _).drew
theorem MRt.step (h : MRt w0 w R b o k pb st vs) (g : RdTo w w' R b q st' us) (hq : q = o + k + vs.length) : MRt w0 w' R b o k pb st' (vs ++ us) := by
  subst hq
  exact ⟨h.sto.step g, h.bx.set g.set h.ne.1 h.ne.2, h.ne, h.cf, h.z⟩
theorem MRt.cell (h : MRt w0 w R b o k pb st vs) (j m : Nat) (hj : j + m ≤ 33) : CellOf w R b (o + j) m := (h.cf.same h.sto.set).sub hj
theorem MRt.zero (h : MRt w0 w R b o k pb st vs) {j : Nat} {v : Value} (hv : zC[j]? = some v) (hj : k + vs.length ≤ j) : w.cell? ⟨b, o + j, none⟩ = some v := by
  obtain ⟨cs, T, e1, -⟩ := h.cf.ex
  obtain ⟨c1, a1, -, a3, -⟩ := h.sto.set.blk cs T e1
  rw [(blk_cells a1).1 (o + j), a3 (o + j) (.inr (by omega)), ← (blk_cells e1).1 (o + j)]
  exact h.z j v (by omega) hv
theorem MRt.again (h : MRt w0 w R b o k pb st vs) {n : Nat} (hn : n = k + vs.length) : MRt w w R b o n pb st [] := by
  subst hn
  exact ⟨RdTo.start h.sto.rd _ _, h.bx, h.ne, h.cf.same h.sto.set, fun j v hj hv => h.zero hv hj⟩
end
/-- what message leaves -/
structure MsgTo (w w' : World) (R b o : Nat) (st : RS) (m : MG) (vE vL vP vX : Value) : Prop where
  sto : RdTo w w' R b o st (m.cells vE vL vP vX).toList
  own : MsgO w' w.heap.size m vE vL vP vX
theorem EntO.setTo {w w' : World} {B b R q : Nat} {v : Value} {rs : List RE} {l : List EN} {us : List Value} (h : EntO w B v rs l) (hs : SetTo w w' b R q us) (hb : b < B) (hR : R < B) : EntO w' B v rs l :=
  ⟨hs.own h.row hb hR, h.len, ent_keep h.ent fun n cur h1 h2 _ => hs.block n h2 (by omega) (by omega)⟩
theorem ent_base {w : World} {B C : Nat} {v : Value} {rs : List RE} {l : List EN} (h : EntO w B v rs l) (hC : C ≤ B) : EntO w C v rs l := ⟨own_base h.row hC, h.len, fun i r e hr he => ⟨(h.ent i r e hr he).1, own_base (h.ent i r e hr he).2 hC⟩⟩
set_option maxHeartbeats 8000000 in
set_option maxRecDepth 100000 in
/-- message -/
theorem r_message (R b o : Nat) (st : RS) (w : World) (h : Rdr 151 w R st) (hc : CellOf w R b o 33) (hz : ∀ (j : Nat) (v : Value), zC[j]? = some v → w.cell? ⟨b, o + j, none⟩ = some v) :
    Calls Try.prog 39 #[.iface 77 (.agg #[.pointer (some ⟨R, 0, none⟩)]), .pointer (some ⟨b, o, none⟩)] w fun e w' => Hid (e = .returned (.tuple #[]) ∧ ∃ m st' vE vL vP vX, RdMsg st m st' ∧ MsgTo w w' R b o st' m vE vL vP vX) := by
  obtain ⟨v0, hv0⟩ : ∃ x, x = w.alloc (.cells #[.iface 77 (.agg #[.pointer (some ⟨R, 0, none⟩)])] 115) := ⟨_, rfl⟩
  have hb0 : Below w.heap.size w v0 := by rw [hv0]; exact (Below.refl _ _).alloc (Nat.le_refl _) _
  have hbx : BoxR v0 w.heap.size R := by rw [hv0]; exact heap_alloc_new w _
  obtain ⟨pb, hpb⟩ : ∃ pb, pb = w.heap.size := ⟨_, rfl⟩
  rw [← hpb] at hbx
  have hbw : b < w.heap.size := by obtain ⟨cs, T, h1, -⟩ := hc.ex; exact lt_of_heap h1
  have hRw := h.lt
  have H0 : Hid (MRt w v0 R b o 0 pb st []) := Lib.hid ⟨(RdTo.start h b (o + 0)).below hb0, hbx, ⟨by omega, by omega⟩, hc, fun j v _ hv => hz j v hv⟩
  have HV := Lib.hid (And.intro hv0 hpb)
  have HBR := Lib.hid (And.intro hbw hRw)
  clear h hc hz hb0 hbx hv0 hpb hbw hRw
  go_enter Try.func39, Try.ntmps39
  go_upto_region 1 with fail
  rw [← HV.out.1, ← HV.out.2]
  clear HV
  have HD := Lib.hid H0.out.drew
  have p0 := (blk_cells H0.out.bx).1 0
  have p1 := (blk_cells HD.out.bx).1 0
  have hm := metr_kind
  have hv := nilr_kind
  have c := r_kind R b (o + 0) _ v0.drew HD.out.sto.rd (HD.out.cell 0 1 (by omega))
  obtain ⟨⟨kd, t0⟩, hq⟩ : ∃ q, q = rK st := ⟨_, rfl⟩
  rw [← hq] at c
  have Q0 := Lib.hid hq.symm
  clear hq
  go_wp2_with fail
  apply cut_goal
  case h =>
    intro key
    go_region_with (go_at_call 161; refine c.mono ?_; rintro e v1 ⟨rfl, hr⟩)
    all_goals (revert hr; revert v1; exact key)
  intro v1 hr
  have H1 : Hid (MRt w v1 R b o 0 pb t0 [.int .u8 kd]) := Lib.hid (HD.out.step hr (by simp only [List.length_cons, List.length_nil, List.length_append]; try omega))
  clear p0 p1 c hr HD H0 hm hv
  have HD := Lib.hid H1.out.drew
  obtain ⟨x, hx⟩ : ∃ x, x = v1.drew.alloc (.cells #[.pointer (some ⟨b, o + 1, none⟩), .pointer (some ⟨b, o + 2, none⟩), .pointer (some ⟨b, o + 3, none⟩), .pointer (some ⟨b, o + 4, none⟩), .pointer (some ⟨b, o + 5, none⟩), .pointer (some ⟨b, o + 6, none⟩)] 92) := ⟨_, rfl⟩
  have hb : Below v1.drew.heap.size v1.drew x := by rw [hx]; exact (Below.refl _ _).alloc (Nat.le_refl _) _
  have hg : x.heap[v1.drew.heap.size]? = some (.cells #[.pointer (some ⟨b, o + 1, none⟩), .pointer (some ⟨b, o + 2, none⟩), .pointer (some ⟨b, o + 3, none⟩), .pointer (some ⟨b, o + 4, none⟩), .pointer (some ⟨b, o + 5, none⟩), .pointer (some ⟨b, o + 6, none⟩)] 92 (0, 0)) := by rw [hx]; exact heap_alloc_new v1.drew _
  have HX := Lib.hid (HD.out.below hb)
  have hbv : b < v1.heap.size := Nat.lt_of_lt_of_le HBR.out.1 H1.out.sto.set.size
  have hRv : R < v1.heap.size := Nat.lt_of_lt_of_le HBR.out.2 H1.out.sto.set.size
  have c := r_nums R b (o + 1) v1.drew.heap.size 6 _ x HX.out.sto.rd (HX.out.cell 1 6 (by omega)) (by decide) (show v1.heap.size ≠ b by omega) (show v1.heap.size ≠ R by omega) hg
  clear hbv hRv
  have HE := Lib.hid hx
  have p0 := (blk_cells H1.out.bx).1 0
  have p1 := (blk_cells HD.out.bx).1 0
  have p2 := (blk_cells HX.out.bx).1 0
  rw [hx, show v1.drew.alloc (.cells #[.pointer (some ⟨b, o + 1, none⟩), .pointer (some ⟨b, o + 2, none⟩), .pointer (some ⟨b, o + 3, none⟩), .pointer (some ⟨b, o + 4, none⟩), .pointer (some ⟨b, o + 5, none⟩), .pointer (some ⟨b, o + 6, none⟩)] 92) = (v1.alloc (.cells #[.pointer (some ⟨b, o + 1, none⟩), .pointer (some ⟨b, o + 2, none⟩), .pointer (some ⟨b, o + 3, none⟩), .pointer (some ⟨b, o + 4, none⟩), .pointer (some ⟨b, o + 5, none⟩), .pointer (some ⟨b, o + 6, none⟩)] 92)).drew from rfl] at c p2
  clear hx hb hg
  rw [rAll6] at c
  obtain ⟨⟨a1, t1⟩, hq⟩ : ∃ q, q = rN t0 := ⟨_, rfl⟩
  rw [← hq] at c
  have Q1 := Lib.hid hq.symm
  clear hq
  obtain ⟨⟨a2, t2⟩, hq⟩ : ∃ q, q = rN t1 := ⟨_, rfl⟩
  rw [← hq] at c
  have Q2 := Lib.hid hq.symm
  clear hq
  obtain ⟨⟨a3, t3⟩, hq⟩ : ∃ q, q = rN t2 := ⟨_, rfl⟩
  rw [← hq] at c
  have Q3 := Lib.hid hq.symm
  clear hq
  obtain ⟨⟨a4, t4⟩, hq⟩ : ∃ q, q = rN t3 := ⟨_, rfl⟩
  rw [← hq] at c
  have Q4 := Lib.hid hq.symm
  clear hq
  obtain ⟨⟨a5, t5⟩, hq⟩ : ∃ q, q = rN t4 := ⟨_, rfl⟩
  rw [← hq] at c
  have Q5 := Lib.hid hq.symm
  clear hq
  obtain ⟨⟨a6, t6⟩, hq⟩ : ∃ q, q = rN t5 := ⟨_, rfl⟩
  rw [← hq] at c
  have Q6 := Lib.hid hq.symm
  clear hq
  go_wp2_with fail
  apply cut_goal
  case h =>
    intro key
    go_region_with (go_at_call 80; refine c.mono ?_; rintro e v2 ⟨rfl, hr⟩)
    all_goals (revert hr; revert v2; exact key)
  intro v2 hr
  replace hr : RdTo x v2 R b (o + 1) t6 [.int .i64 a1, .int .i64 a2, .int .i64 a3, .int .i64 a4, .int .i64 a5, .int .i64 a6] := by rw [HE.out]; exact hr
  have H2 : Hid (MRt w v2 R b o 0 pb t6 [.int .u8 kd, .int .i64 a1, .int .i64 a2, .int .i64 a3, .int .i64 a4, .int .i64 a5, .int .i64 a6]) := Lib.hid (HX.out.step hr (by simp only [List.length_cons, List.length_nil, List.length_append]; try omega))
  clear p0 p1 p2 c hr HD HX HE H1
  have HD := Lib.hid H2.out.drew
  have p0 := (blk_cells H2.out.bx).1 0
  have p1 := (blk_cells HD.out.bx).1 0
  have c := r_op R b (o + 7) _ v2.drew HD.out.sto.rd (HD.out.cell 7 5 (by omega))
  obtain ⟨⟨op, t7⟩, hq⟩ : ∃ q, q = rPO t6 := ⟨_, rfl⟩
  rw [← hq] at c
  have Q7 := Lib.hid hq.symm
  clear hq
  go_wp2_with fail
  apply cut_goal
  case h =>
    intro key
    go_region_with (go_at_call 81; refine c.mono ?_; rintro e v3 ⟨rfl, hr⟩)
    all_goals (revert hr; revert v3; exact key)
  intro v3 hr
  have H3 : Hid (MRt w v3 R b o 0 pb t7 [.int .u8 kd, .int .i64 a1, .int .i64 a2, .int .i64 a3, .int .i64 a4, .int .i64 a5, .int .i64 a6, .int .u8 op.kind, .string op.key, .string op.val, .string op.old, .bool op.had]) := Lib.hid (HD.out.step hr (by simp only [List.length_cons, List.length_nil, List.length_append]; try omega))
  clear p0 p1 c hr HD H2
  have HD := Lib.hid H3.out.drew
  have p0 := (blk_cells H3.out.bx).1 0
  have p1 := (blk_cells HD.out.bx).1 0
  have c := r_errno R b (o + 12) _ v3.drew HD.out.sto.rd (HD.out.cell 12 1 (by omega)) (n0 := 0) (by unfold I64; omega) (HD.out.zero rfl (by simp))
  obtain ⟨⟨code, t8⟩, hq⟩ : ∃ q, q = rN t7 := ⟨_, rfl⟩
  rw [← hq] at c
  have Q8 := Lib.hid hq.symm
  clear hq
  go_wp2_with fail
  apply cut_goal
  case h =>
    intro key
    go_region_with (go_at_call 82; refine c.mono ?_; rintro e v4 ⟨rfl, hr⟩)
    all_goals (revert hr; revert v4; exact key)
  intro v4 hr
  have H4 : Hid (MRt w v4 R b o 0 pb t8 [.int .u8 kd, .int .i64 a1, .int .i64 a2, .int .i64 a3, .int .i64 a4, .int .i64 a5, .int .i64 a6, .int .u8 op.kind, .string op.key, .string op.val, .string op.old, .bool op.had, .int .i64 code]) := Lib.hid (HD.out.step hr (by simp only [List.length_cons, List.length_nil, List.length_append]; try omega))
  clear p0 p1 c hr HD H3
  have HD := Lib.hid H4.out.drew
  have p0 := (blk_cells H4.out.bx).1 0
  have p1 := (blk_cells HD.out.bx).1 0
  have c := r_result R b (o + 13) _ v4.drew HD.out.sto.rd (HD.out.cell 13 3 (by omega))
  obtain ⟨⟨res, t9⟩, hq⟩ : ∃ q, q = rPR t8 := ⟨_, rfl⟩
  rw [← hq] at c
  have Q9 := Lib.hid hq.symm
  clear hq
  go_wp2_with fail
  apply cut_goal
  case h =>
    intro key
    go_region_with (go_at_call 83; refine c.mono ?_; rintro e v5 ⟨rfl, hr⟩)
    all_goals (revert hr; revert v5; exact key)
  intro v5 hr
  have H5 : Hid (MRt w v5 R b o 0 pb t9 [.int .u8 kd, .int .i64 a1, .int .i64 a2, .int .i64 a3, .int .i64 a4, .int .i64 a5, .int .i64 a6, .int .u8 op.kind, .string op.key, .string op.val, .string op.old, .bool op.had, .int .i64 code, .int .u8 res.kind, .bool res.found, .string res.val]) := Lib.hid (HD.out.step hr (by simp only [List.length_cons, List.length_nil, List.length_append]; try omega))
  clear p0 p1 c hr HD H4
  have HD := Lib.hid H5.out.drew
  obtain ⟨x, hx⟩ : ∃ x, x = v5.drew.alloc (.cells #[.pointer (some ⟨b, o + 16, none⟩), .pointer (some ⟨b, o + 17, none⟩), .pointer (some ⟨b, o + 18, none⟩), .pointer (some ⟨b, o + 19, none⟩), .pointer (some ⟨b, o + 20, none⟩)] 92) := ⟨_, rfl⟩
  have hb : Below v5.drew.heap.size v5.drew x := by rw [hx]; exact (Below.refl _ _).alloc (Nat.le_refl _) _
  have hg : x.heap[v5.drew.heap.size]? = some (.cells #[.pointer (some ⟨b, o + 16, none⟩), .pointer (some ⟨b, o + 17, none⟩), .pointer (some ⟨b, o + 18, none⟩), .pointer (some ⟨b, o + 19, none⟩), .pointer (some ⟨b, o + 20, none⟩)] 92 (0, 0)) := by rw [hx]; exact heap_alloc_new v5.drew _
  have HX := Lib.hid (HD.out.below hb)
  have hbv : b < v5.heap.size := Nat.lt_of_lt_of_le HBR.out.1 H5.out.sto.set.size
  have hRv : R < v5.heap.size := Nat.lt_of_lt_of_le HBR.out.2 H5.out.sto.set.size
  have c := r_nums R b (o + 16) v5.drew.heap.size 5 _ x HX.out.sto.rd (HX.out.cell 16 5 (by omega)) (by decide) (show v5.heap.size ≠ b by omega) (show v5.heap.size ≠ R by omega) hg
  clear hbv hRv
  have HE := Lib.hid hx
  have p0 := (blk_cells H5.out.bx).1 0
  have p1 := (blk_cells HD.out.bx).1 0
  have p2 := (blk_cells HX.out.bx).1 0
  rw [hx, show v5.drew.alloc (.cells #[.pointer (some ⟨b, o + 16, none⟩), .pointer (some ⟨b, o + 17, none⟩), .pointer (some ⟨b, o + 18, none⟩), .pointer (some ⟨b, o + 19, none⟩), .pointer (some ⟨b, o + 20, none⟩)] 92) = (v5.alloc (.cells #[.pointer (some ⟨b, o + 16, none⟩), .pointer (some ⟨b, o + 17, none⟩), .pointer (some ⟨b, o + 18, none⟩), .pointer (some ⟨b, o + 19, none⟩), .pointer (some ⟨b, o + 20, none⟩)] 92)).drew from rfl] at c p2
  clear hx hb hg
  rw [rAll5] at c
  obtain ⟨⟨b1, t10⟩, hq⟩ : ∃ q, q = rN t9 := ⟨_, rfl⟩
  rw [← hq] at c
  have Q10 := Lib.hid hq.symm
  clear hq
  obtain ⟨⟨b2, t11⟩, hq⟩ : ∃ q, q = rN t10 := ⟨_, rfl⟩
  rw [← hq] at c
  have Q11 := Lib.hid hq.symm
  clear hq
  obtain ⟨⟨b3, t12⟩, hq⟩ : ∃ q, q = rN t11 := ⟨_, rfl⟩
  rw [← hq] at c
  have Q12 := Lib.hid hq.symm
  clear hq
  obtain ⟨⟨b4, t13⟩, hq⟩ : ∃ q, q = rN t12 := ⟨_, rfl⟩
  rw [← hq] at c
  have Q13 := Lib.hid hq.symm
  clear hq
  obtain ⟨⟨b5, t14⟩, hq⟩ : ∃ q, q = rN t13 := ⟨_, rfl⟩
  rw [← hq] at c
  have Q14 := Lib.hid hq.symm
  clear hq
  go_wp2_with fail
  apply cut_goal
  case h =>
    intro key
    go_region_with (go_at_call 80; refine c.mono ?_; rintro e v6 ⟨rfl, hr⟩)
    all_goals (revert hr; revert v6; exact key)
  intro v6 hr
  replace hr : RdTo x v6 R b (o + 16) t14 [.int .i64 b1, .int .i64 b2, .int .i64 b3, .int .i64 b4, .int .i64 b5] := by rw [HE.out]; exact hr
  have H6 : Hid (MRt w v6 R b o 0 pb t14 [.int .u8 kd, .int .i64 a1, .int .i64 a2, .int .i64 a3, .int .i64 a4, .int .i64 a5, .int .i64 a6, .int .u8 op.kind, .string op.key, .string op.val, .string op.old, .bool op.had, .int .i64 code, .int .u8 res.kind, .bool res.found, .string res.val, .int .i64 b1, .int .i64 b2, .int .i64 b3, .int .i64 b4, .int .i64 b5]) := Lib.hid (HX.out.step hr (by simp only [List.length_cons, List.length_nil, List.length_append]; try omega))
  clear p0 p1 p2 c hr HD HX HE H5
  have HD := Lib.hid H6.out.drew
  have p0 := (blk_cells H6.out.bx).1 0
  have p1 := (blk_cells HD.out.bx).1 0
  have hm := metr_flag
  have hv := nilr_flag
  have c := r_flag R b (o + 21) _ v6.drew HD.out.sto.rd (HD.out.cell 21 1 (by omega))
  obtain ⟨⟨granted, t15⟩, hq⟩ : ∃ q, q = rF t14 := ⟨_, rfl⟩
  rw [← hq] at c
  have Q15 := Lib.hid hq.symm
  clear hq
  go_wp2_with fail
  apply cut_goal
  case h =>
    intro key
    go_region_with (go_at_call 160; refine c.mono ?_; rintro e v7 ⟨rfl, hr⟩)
    all_goals (revert hr; revert v7; exact key)
  intro v7 hr
  have H7 : Hid (MRt w v7 R b o 0 pb t15 [.int .u8 kd, .int .i64 a1, .int .i64 a2, .int .i64 a3, .int .i64 a4, .int .i64 a5, .int .i64 a6, .int .u8 op.kind, .string op.key, .string op.val, .string op.old, .bool op.had, .int .i64 code, .int .u8 res.kind, .bool res.found, .string res.val, .int .i64 b1, .int .i64 b2, .int .i64 b3, .int .i64 b4, .int .i64 b5, .bool granted]) := Lib.hid (HD.out.step hr (by simp only [List.length_cons, List.length_nil, List.length_append]; try omega))
  clear p0 p1 c hr HD H6 hm hv
  have HD := Lib.hid H7.out.drew
  have p0 := (blk_cells H7.out.bx).1 0
  have p1 := (blk_cells HD.out.bx).1 0
  have c := r_list_entry R b (o + 22) pb _ v7.drew HD.out.sto.rd (HD.out.cell 22 1 (by omega)) (HD.out.zero rfl (by simp)) HD.out.bx HD.out.ne.1
  obtain ⟨⟨ents, t16⟩, hq⟩ : ∃ q, q = rList rEN t15 := ⟨_, rfl⟩
  rw [← hq] at c
  have Q16 := Lib.hid hq.symm
  clear hq
  go_wp2_with fail
  apply cut_goal
  case h =>
    intro key
    go_region_with (go_at_call 84; refine c.mono ?_; rintro e v8 ⟨rfl, hr⟩)
    all_goals (revert hr; revert v8; exact key)
  intro v8 hr
  obtain ⟨AE, cE, rsE, hr⟩ := hr
  have H8 : Hid (MRt w v8 R b o 0 pb t16 [.int .u8 kd, .int .i64 a1, .int .i64 a2, .int .i64 a3, .int .i64 a4, .int .i64 a5, .int .i64 a6, .int .u8 op.kind, .string op.key, .string op.val, .string op.old, .bool op.had, .int .i64 code, .int .u8 res.kind, .bool res.found, .string res.val, .int .i64 b1, .int .i64 b2, .int .i64 b3, .int .i64 b4, .int .i64 b5, .bool granted, .slice AE ents.length cE]) := Lib.hid (HD.out.step hr.sto (by simp only [List.length_cons, List.length_nil, List.length_append]; try omega))
  have Oents := Lib.hid hr.ent
  have Bents := Lib.hid HD.out.sto.set.size
  clear p0 p1 c hr HD H7
  have S8 := Lib.hid H8.out.sto
  have H8b : Hid (MRt v8 v8 R b o 23 pb t16 []) := Lib.hid (H8.out.again (by simp only [List.length_cons, List.length_nil, List.length_append]; try omega))
  clear H8
  have H8 := H8b
  clear H8b
  have HD := Lib.hid H8.out.drew
  have p0 := (blk_cells H8.out.bx).1 0
  have p1 := (blk_cells HD.out.bx).1 0
  have c := r_list_int R b (o + 23) _ v8.drew HD.out.sto.rd (HD.out.cell 23 1 (by omega)) (HD.out.zero rfl (by simp))
  obtain ⟨⟨ints, t17⟩, hq⟩ : ∃ q, q = rList rN t16 := ⟨_, rfl⟩
  rw [← hq] at c
  have Q17 := Lib.hid hq.symm
  clear hq
  go_wp2_with fail
  apply cut_goal
  case h =>
    intro key
    go_region_with (go_at_call 87; refine c.mono ?_; rintro e v9 ⟨rfl, hr⟩)
    all_goals (revert hr; revert v9; exact key)
  intro v9 hr
  obtain ⟨AL, cL, hr⟩ := hr
  have H9 : Hid (MRt v8 v9 R b o 23 pb t17 [.slice AL ints.length cL]) := Lib.hid (HD.out.step hr.sto (by simp only [List.length_cons, List.length_nil, List.length_append]; try omega))
  have Oints := Lib.hid hr.own
  have Bints := Lib.hid HD.out.sto.set.size
  clear p0 p1 c hr HD H8
  have S9 := Lib.hid H9.out.sto
  have H9b : Hid (MRt v9 v9 R b o 24 pb t17 []) := Lib.hid (H9.out.again (by simp only [List.length_cons, List.length_nil, List.length_append]; try omega))
  clear H9
  have H9 := H9b
  clear H9b
  have HD := Lib.hid H9.out.drew
  have p0 := (blk_cells H9.out.bx).1 0
  have p1 := (blk_cells HD.out.bx).1 0
  have hm := metr_text
  have hv := nilr_text
  have c := r_text R b (o + 24) _ v9.drew HD.out.sto.rd (HD.out.cell 24 1 (by omega))
  obtain ⟨⟨state, t18⟩, hq⟩ : ∃ q, q = rS t17 := ⟨_, rfl⟩
  rw [← hq] at c
  have Q18 := Lib.hid hq.symm
  clear hq
  go_wp2_with fail
  apply cut_goal
  case h =>
    intro key
    go_region_with (go_at_call 165; refine c.mono ?_; rintro e v10 ⟨rfl, hr⟩)
    all_goals (revert hr; revert v10; exact key)
  intro v10 hr
  have H10 : Hid (MRt v9 v10 R b o 24 pb t18 [.string state]) := Lib.hid (HD.out.step hr (by simp only [List.length_cons, List.length_nil, List.length_append]; try omega))
  clear p0 p1 c hr HD H9 hm hv
  have HD := Lib.hid H10.out.drew
  have p0 := (blk_cells H10.out.bx).1 0
  have p1 := (blk_cells HD.out.bx).1 0
  have hm := metr_num
  have hv := nilr_num
  have c := r_num R b (o + 25) _ v10.drew HD.out.sto.rd (HD.out.cell 25 1 (by omega))
  obtain ⟨⟨part, t19⟩, hq⟩ : ∃ q, q = rN t18 := ⟨_, rfl⟩
  rw [← hq] at c
  have Q19 := Lib.hid hq.symm
  clear hq
  go_wp2_with fail
  apply cut_goal
  case h =>
    intro key
    go_region_with (go_at_call 163; refine c.mono ?_; rintro e v11 ⟨rfl, hr⟩)
    all_goals (revert hr; revert v11; exact key)
  intro v11 hr
  have H11 : Hid (MRt v9 v11 R b o 24 pb t19 [.string state, .int .i64 part]) := Lib.hid (HD.out.step hr (by simp only [List.length_cons, List.length_nil, List.length_append]; try omega))
  clear p0 p1 c hr HD H10 hm hv
  have HD := Lib.hid H11.out.drew
  have p0 := (blk_cells H11.out.bx).1 0
  have p1 := (blk_cells HD.out.bx).1 0
  have hm := metr_flag
  have hv := nilr_flag
  have c := r_flag R b (o + 26) _ v11.drew HD.out.sto.rd (HD.out.cell 26 1 (by omega))
  obtain ⟨⟨last, t20⟩, hq⟩ : ∃ q, q = rF t19 := ⟨_, rfl⟩
  rw [← hq] at c
  have Q20 := Lib.hid hq.symm
  clear hq
  go_wp2_with fail
  apply cut_goal
  case h =>
    intro key
    go_region_with (go_at_call 160; refine c.mono ?_; rintro e v12 ⟨rfl, hr⟩)
    all_goals (revert hr; revert v12; exact key)
  intro v12 hr
  have H12 : Hid (MRt v9 v12 R b o 24 pb t20 [.string state, .int .i64 part, .bool last]) := Lib.hid (HD.out.step hr (by simp only [List.length_cons, List.length_nil, List.length_append]; try omega))
  clear p0 p1 c hr HD H11 hm hv
  have HD := Lib.hid H12.out.drew
  have p0 := (blk_cells H12.out.bx).1 0
  have p1 := (blk_cells HD.out.bx).1 0
  have c := r_list_pair R b (o + 27) pb _ v12.drew HD.out.sto.rd (HD.out.cell 27 1 (by omega)) (HD.out.zero rfl (by simp)) HD.out.bx HD.out.ne.1
  obtain ⟨⟨prs, t21⟩, hq⟩ : ∃ q, q = rList rPP t20 := ⟨_, rfl⟩
  rw [← hq] at c
  have Q21 := Lib.hid hq.symm
  clear hq
  go_wp2_with fail
  apply cut_goal
  case h =>
    intro key
    go_region_with (go_at_call 88; refine c.mono ?_; rintro e v13 ⟨rfl, hr⟩)
    all_goals (revert hr; revert v13; exact key)
  intro v13 hr
  obtain ⟨AP, cP, hr⟩ := hr
  have H13 : Hid (MRt v9 v13 R b o 24 pb t21 [.string state, .int .i64 part, .bool last, .slice AP prs.length cP]) := Lib.hid (HD.out.step hr.sto (by simp only [List.length_cons, List.length_nil, List.length_append]; try omega))
  have Oprs := Lib.hid hr.own
  have Bprs := Lib.hid HD.out.sto.set.size
  clear p0 p1 c hr HD H12
  have S13 := Lib.hid H13.out.sto
  have H13b : Hid (MRt v13 v13 R b o 28 pb t21 []) := Lib.hid (H13.out.again (by simp only [List.length_cons, List.length_nil, List.length_append]; try omega))
  clear H13
  have H13 := H13b
  clear H13b
  have HD := Lib.hid H13.out.drew
  have p0 := (blk_cells H13.out.bx).1 0
  have p1 := (blk_cells HD.out.bx).1 0
  have c := r_list_last R b (o + 28) pb _ v13.drew HD.out.sto.rd (HD.out.cell 28 1 (by omega)) (HD.out.zero rfl (by simp)) HD.out.bx HD.out.ne.1
  obtain ⟨⟨lsts, t22⟩, hq⟩ : ∃ q, q = rList rPL t21 := ⟨_, rfl⟩
  rw [← hq] at c
  have Q22 := Lib.hid hq.symm
  clear hq
  go_wp2_with fail
  apply cut_goal
  case h =>
    intro key
    go_region_with (go_at_call 91; refine c.mono ?_; rintro e v14 ⟨rfl, hr⟩)
    all_goals (revert hr; revert v14; exact key)
  intro v14 hr
  obtain ⟨AX, cX, hr⟩ := hr
  have H14 : Hid (MRt v13 v14 R b o 28 pb t22 [.slice AX lsts.length cX]) := Lib.hid (HD.out.step hr.sto (by simp only [List.length_cons, List.length_nil, List.length_append]; try omega))
  have Olsts := Lib.hid hr.own
  have Blsts := Lib.hid HD.out.sto.set.size
  clear p0 p1 c hr HD H13
  have S14 := Lib.hid H14.out.sto
  have H14b : Hid (MRt v14 v14 R b o 29 pb t22 []) := Lib.hid (H14.out.again (by simp only [List.length_cons, List.length_nil, List.length_append]; try omega))
  clear H14
  have H14 := H14b
  clear H14b
  have HD := Lib.hid H14.out.drew
  have p0 := (blk_cells H14.out.bx).1 0
  have p1 := (blk_cells HD.out.bx).1 0
  have c := r_command R b (o + 29) _ v14.drew HD.out.sto.rd (HD.out.cell 29 4 (by omega))
  obtain ⟨⟨cmd, t23⟩, hq⟩ : ∃ q, q = rCM t22 := ⟨_, rfl⟩
  rw [← hq] at c
  have Q23 := Lib.hid hq.symm
  clear hq
  go_wp2_with fail
  apply cut_goal
  case h =>
    intro key
    go_region_with (go_at_call 93; refine c.mono ?_; rintro e v15 ⟨rfl, hr⟩)
    all_goals (revert hr; revert v15; exact key)
  intro v15 hr
  have H15 : Hid (MRt v14 v15 R b o 29 pb t23 [.int .u8 cmd.kind, .int .i64 cmd.shard, .int .i64 cmd.store, .int .i64 cmd.epoch]) := Lib.hid (HD.out.step hr (by simp only [List.length_cons, List.length_nil, List.length_append]; try omega))
  clear p0 p1 c hr HD H14
  have S15 := Lib.hid H15.out.sto
  clear H15
  have Z4 := S15.out.set
  have Z3 := S14.out.set.trans Z4
  have Z2 := S13.out.set.trans Z3
  have Z1 := S9.out.set.trans Z2
  have HF : Hid (∃ m st' vE vL vP vX, RdMsg st m st' ∧ MsgTo w v15 R b o st' m vE vL vP vX) := Lib.hid (by
    have sz0 := S8.out.set.size
    have sz1 := Nat.le_trans sz0 S9.out.set.size
    have sz2 := Nat.le_trans sz1 S13.out.set.size
    have z1 := HBR.out.1
    have z2 := HBR.out.2
    refine ⟨⟨kd, a1, a2, a3, a4, a5, a6, op, code, res, b1, b2, b3, b4, b5, granted, ents, ints, state, part, last, prs, lsts, cmd⟩, t23, _, _, _, _, ⟨⟨t0, t1, t2, t3, t4, t5, t6, t7, t8, t9, t10, t11, t12, t13, t14, t15, t16, t17, t18, t19, t20, t21, t22, t23, Q0.out, Q1.out, Q2.out, Q3.out, Q4.out, Q5.out, Q6.out, Q7.out, Q8.out, Q9.out, Q10.out, Q11.out, Q12.out, Q13.out, Q14.out, Q15.out, Q16.out, Q17.out, Q18.out, Q19.out, Q20.out, Q21.out, Q22.out, Q23.out, rfl⟩⟩, ⟨S15.out.rd, S8.out.set.trans Z1⟩, ⟨⟨rsE, ?_⟩, ?_, ?_, ?_⟩⟩
    · exact EntO.setTo (ent_base Oents.out Bents.out) Z1 z1 z2
    · exact SetTo.own Z2 (own_base Oints.out (Nat.le_trans sz0 Bints.out)) z1 z2
    · exact SetTo.own Z3 (own_base Oprs.out (Nat.le_trans sz1 Bprs.out)) z1 z2
    · exact SetTo.own Z4 (own_base Olsts.out (Nat.le_trans sz2 Blsts.out)) z1 z2)
  clear Z1 Z2 Z3 Z4
  go_wp2_with fail
  go_end0
  exact Lib.hid ⟨rfl, HF.out⟩
end Go.Proofs.Ytblbcoknefgcaaa
