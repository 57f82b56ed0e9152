/-
  MsgBack walked. No statement is proved here. No condition.
-/
import Derived.Test.YtblbcoknefgcaaaMWork
namespace Go.Proofs.Ytblbcoknefgcaaa
open Go.RowKit

theorem wpList_load_row_if {P : Program} {ops : Array Oper} {rest : List Oper} {o : Oper} {a : Act} {w : World} {Q : Exit → Act → World → Prop} {gi gs : Nat} {b : Bool} (hgd : o.guard = some (gi, b)) (hgs : (ops[gi]?).bind (·.dst) = some gs) (hgt : a.tmps[gs]? = some (.bool b)) (ty : TypeId) (x : Operand) (ho : o.op = .load ty x)
    (g : Nat) (hx : a.eval x = .pointer (some ⟨g, 0, none⟩)) (t : TypeId) (cs : Array Value) (fr : Nat × Nat) (d : TypeDesc) (hg : w.heap[g]? = some (.cells cs t fr))
    (hu : P.underlying ty = some d) (hd : (match d with | .struct _ | .array _ _ => true | _ => false) = true) (hi : (P.info? ty).map (·.size) = some cs.size)
    (h : wpList P ops Q rest (a.put o.dst (.agg cs)) w) : wpList P ops Q (o :: rest) a w :=
  wpList_step fun K hK => by
    rw [if_pos (by rw [wanted_g hgd hgs hgt]; simp)]
    exact wp_load_row ty x ho g hx t cs fr d hg hu hd hi (hK _ _ h)
theorem own_down {w w' : World} {B : Nat} {v : Value} {l : List UInt8} {vs : List Value} (h : w.ownsRow B 5 1 v l.length vs) (hb : Below w.heap.size w w') : w'.ownsRow B 5 1 v l.length vs := row_same h fun n hn => hb.block n (h.lt n hn).2
theorem ba_eq {a b : ByteArray} (h : (a.toList == b.toList) = true) : a = b := by
  rw [ByteArray.toList_eq, ByteArray.toList_eq] at h
  have h := eq_of_beq h
  cases a
  cases b
  exact congrArg ByteArray.mk (Array.toList_inj.1 h)
theorem sameL_eq {α : Type} {f : α → α → Bool} (hf : ∀ x y, f x y = true → x = y) : ∀ l m, sameL f l m = true → l = m
  | [], [], _ => rfl
  | a :: l, b :: m, h => by
    unfold sameL at h
    simp only [Bool.and_eq_true] at h
    rw [hf a b h.1, sameL_eq hf l m h.2]
  | [], b :: m, h => by cases h
  | a :: l, [], h => by cases h
theorem iSame_eq (x y : Int) (h : iSame x y = true) : x = y := by unfold iSame at h; exact eq_of_beq h
theorem PP.same_eq (a b : PP) (h : a.same b = true) : a = b := by
  cases a; cases b
  simp only [PP.same, Bool.and_eq_true, Bool.and_true] at h
  rw [ba_eq h.1, ba_eq h.2]
theorem PR.same_eq (a b : PR) (h : a.same b = true) : a = b := by
  cases a; cases b
  simp only [PR.same, Bool.and_eq_true, Bool.and_true] at h
  rw [eq_of_beq h.1, eq_of_beq h.2.1, ba_eq h.2.2]
theorem PL.same_eq (a b : PL) (h : a.same b = true) : a = b := by
  cases a; cases b
  simp only [PL.same, Bool.and_eq_true, Bool.and_true] at h
  rw [eq_of_beq h.1, eq_of_beq h.2.1, PR.same_eq _ _ h.2.2]
theorem PO.same_eq (a b : PO) (h : a.same b = true) : a = b := by
  cases a; cases b
  simp only [PO.same, Bool.and_eq_true, Bool.and_true] at h
  rw [eq_of_beq h.1, ba_eq h.2.1, ba_eq h.2.2.1, ba_eq h.2.2.2.1, eq_of_beq h.2.2.2.2]
theorem CM.same_eq (a b : CM) (h : a.same b = true) : a = b := by
  cases a; cases b
  simp only [CM.same, Bool.and_eq_true, Bool.and_true] at h
  rw [eq_of_beq h.1, eq_of_beq h.2.1, eq_of_beq h.2.2.1, eq_of_beq h.2.2.2]
theorem EN.same_eq (a b : EN) (h : a.same b = true) : a = b := by
  cases a; cases b
  simp only [EN.same, Bool.and_eq_true, Bool.and_true] at h
  rw [eq_of_beq h.1, eq_of_beq h.2.1, ba_eq h.2.2.1, sameL_eq iSame_eq _ _ h.2.2.2]
theorem MG.same_eq (a b : MG) (h : a.same b = true) : a = b := by
  cases a; cases b
  simp only [MG.same, Bool.and_eq_true, Bool.and_true] at h
  rw [eq_of_beq h.1, eq_of_beq h.2.1, eq_of_beq h.2.2.1, eq_of_beq h.2.2.2.1, eq_of_beq h.2.2.2.2.1, eq_of_beq h.2.2.2.2.2.1, eq_of_beq h.2.2.2.2.2.2.1, PO.same_eq _ _ h.2.2.2.2.2.2.2.1, eq_of_beq h.2.2.2.2.2.2.2.2.1, PR.same_eq _ _ h.2.2.2.2.2.2.2.2.2.1, eq_of_beq h.2.2.2.2.2.2.2.2.2.2.1, eq_of_beq h.2.2.2.2.2.2.2.2.2.2.2.1, eq_of_beq h.2.2.2.2.2.2.2.2.2.2.2.2.1, eq_of_beq h.2.2.2.2.2.2.2.2.2.2.2.2.2.1, eq_of_beq h.2.2.2.2.2.2.2.2.2.2.2.2.2.2.1, eq_of_beq h.2.2.2.2.2.2.2.2.2.2.2.2.2.2.2.1, sameL_eq EN.same_eq _ _ h.2.2.2.2.2.2.2.2.2.2.2.2.2.2.2.2.1, sameL_eq iSame_eq _ _ h.2.2.2.2.2.2.2.2.2.2.2.2.2.2.2.2.2.1, ba_eq h.2.2.2.2.2.2.2.2.2.2.2.2.2.2.2.2.2.2.1, eq_of_beq h.2.2.2.2.2.2.2.2.2.2.2.2.2.2.2.2.2.2.2.1, eq_of_beq h.2.2.2.2.2.2.2.2.2.2.2.2.2.2.2.2.2.2.2.2.1, sameL_eq PP.same_eq _ _ h.2.2.2.2.2.2.2.2.2.2.2.2.2.2.2.2.2.2.2.2.2.1, sameL_eq PL.same_eq _ _ h.2.2.2.2.2.2.2.2.2.2.2.2.2.2.2.2.2.2.2.2.2.2.1, CM.same_eq _ _ h.2.2.2.2.2.2.2.2.2.2.2.2.2.2.2.2.2.2.2.2.2.2.2]
/-- two messages that may be have the same bytes just if they are the same -/
theorem by_same {a b : MG} (ha : a.fit) (hb : b.fit) (sa : a.small) (sb : b.small) : ((⟨a.by.toArray⟩ : ByteArray).toList == (⟨b.by.toArray⟩ : ByteArray).toList) = a.same b := by
  rw [ByteArray.toList_eq, ByteArray.toList_eq]
  show (a.by == b.by) = a.same b
  cases h : a.same b with
  | true =>
    rw [MG.same_eq a b h]
    exact beq_self_eq_true _
  | false =>
    rw [beq_eq_false_iff_ne]
    intro e
    have h1 := msg_back ha sa []
    have h2 := msg_back hb sb []
    rw [e] at h1
    have := (msg_same h1 h2).1
    rw [this, MG.refl] at h
    cases h
def BkS (p q : Nat) (ca cb : Array Value) (va vb : Value) (la lb : List UInt8) (W : World) : Prop := W.heap[p]? = some (.cells ca 38 (0, 0)) ∧ W.heap[q]? = some (.cells cb 38 (0, 0)) ∧ Rd W W.heap.size va la ∧ Rd W W.heap.size vb lb
theorem BkS.below {p q : Nat} {ca cb : Array Value} {va vb : Value} {la lb : List UInt8} {w w' : World} (h : BkS p q ca cb va vb la lb w) (hb : Below w.heap.size w w') : BkS p q ca cb va vb la lb w' :=
  ⟨(hb.block p (lt_of_heap h.1)).trans h.1, (hb.block q (lt_of_heap h.2.1)).trans h.2.1, h.2.2.1.below hb hb.size, h.2.2.2.below hb hb.size⟩
theorem conv_rd {w : World} {v : Value} {l : List UInt8} (h : Rd w w.heap.size v l) : (convert 23 9 v).run Try.prog w = .ok (.string ⟨l.toArray⟩) w := run_str (P := Try.prog) 23 5 9 Try.underlying23 Try.underlying5 Try.underlying9 h
set_option maxHeartbeats 8000000 in
set_option maxRecDepth 1000000 in
theorem back_walk (a b : MG) (vE vL vP vX uE uL uP uX : Value) (w : World) (ha : MsgL w Any a vE vL vP vX) (hb : MsgL w Any b uE uL uP uX) (fa : a.fit) (ta : a.texts) (fb : b.fit) (tb : b.texts) :
    Calls Try.prog 6 #[.agg (a.cells vE vL vP vX), .agg (b.cells uE uL uP uX)] w fun e w' => e = .returned (.bool true) ∧ Below w.heap.size w w' := by
  obtain ⟨ca, hca⟩ : ∃ c, c = a.cells vE vL vP vX := ⟨_, rfl⟩
  obtain ⟨cb, hcb⟩ : ∃ c, c = b.cells uE uL uP uX := ⟨_, rfl⟩
  rw [← hca, ← hcb]
  have hca33 : ca.size = 33 := by rw [hca]; rfl
  have hcb33 : cb.size = 33 := by rw [hcb]; rfl
  have hcaS : (Try.prog.info? 38).map (·.size) = some ca.size := by rw [hca33]; exact msg_size
  have hcbS : (Try.prog.info? 38).map (·.size) = some cb.size := by rw [hcb33]; exact msg_size
  have hzz := zero_msg
  obtain ⟨Z, hZ⟩ : ∃ Z, Z = zC := ⟨_, rfl⟩
  rw [← hZ] at hzz
  have hZ33 : Z.size = 33 := by rw [hZ]; rfl
  obtain ⟨w1, hw1⟩ : ∃ x, x = w.alloc (.cells ca 38) := ⟨_, rfl⟩
  have hb1 : Below w.heap.size w w1 := by rw [hw1]; exact (Below.refl _ _).alloc (Nat.le_refl _) _
  obtain ⟨p, hp⟩ : ∃ p, p = w.heap.size := ⟨_, rfl⟩
  have hp1 : w1.heap[p]? = some (.cells ca 38 (0, 0)) := by rw [hw1, hp]; exact heap_alloc_new w _
  obtain ⟨w2, hw2⟩ : ∃ x, x = w1.alloc (.cells cb 38) := ⟨_, rfl⟩
  have hb2 : Below w1.heap.size w1 w2 := by rw [hw2]; exact (Below.refl _ _).alloc (Nat.le_refl _) _
  obtain ⟨q, hq⟩ : ∃ q, q = w1.heap.size := ⟨_, rfl⟩
  have hq2 : w2.heap[q]? = some (.cells cb 38 (0, 0)) := by rw [hw2, hq]; exact heap_alloc_new w1 _
  have hp2 := (hb2.block p (lt_of_heap hp1)).trans hp1
  have hb02 : Below w.heap.size w w2 := hb1.trans (Joins.below_le hb2 hb1.size)
  have HL : Hid (∀ W, Below w2.heap.size w2 W → W.heap[p]? = some (.cells ca 38 (0, 0)) ∧ W.heap[q]? = some (.cells cb 38 (0, 0)) ∧ Below w.heap.size w W ∧ MsgL W Any a vE vL vP vX ∧ MsgL W Any b uE uL uP uX) := Lib.hid fun W hW =>
    ⟨(hW.block p (lt_of_heap hp2)).trans hp2, (hW.block q (lt_of_heap hq2)).trans hq2, hb02.trans (Joins.below_le hW hb02.size), (ha.grow hb02).grow hW, (hb.grow hb02).grow hW⟩
  have CA : Hid (∀ W, Below w2.heap.size w2 W → Calls Try.prog 15 #[.agg ca] W fun e w' => EncA W w' a.out.1 a.out.2 e) := Lib.hid fun W hW => by rw [hca]; exact enc_prog a _ _ _ _ W (HL.out W hW).2.2.2.1 fa
  have CB : Hid (∀ W, Below w2.heap.size w2 W → Calls Try.prog 15 #[.agg cb] W fun e w' => EncA W w' b.out.1 b.out.2 e) := Lib.hid fun W hW => by rw [hcb]; exact enc_prog b _ _ _ _ W (HL.out W hW).2.2.2.2 fb
  have CS : Hid (∀ W xE xL xP xX, Below w2.heap.size w2 W → MsgL W Any a xE xL xP xX → Calls Try.prog 22 #[.agg (a.cells xE xL xP xX), .agg ca] W fun e w' => e = .returned (.bool true) ∧ Below W.heap.size W w') := Lib.hid fun W xE xL xP xX hW hx => by
    have := psame_any a a xE xL xP xX vE vL vP vX W hx (HL.out W hW).2.2.2.1
    rw [MG.refl, ← hca] at this
    exact this
  have CT : Hid (∀ W, Below w2.heap.size w2 W → Calls Try.prog 22 #[.agg ca, .agg cb] W fun e w' => e = .returned (.bool (a.same b)) ∧ Below W.heap.size W w') := Lib.hid fun W hW => by
    have := psame_any a b vE vL vP vX uE uL uP uX W (HL.out W hW).2.2.2.1 (HL.out W hW).2.2.2.2
    rw [← hca, ← hcb] at this
    exact this
  have c0 := works_any w2
  have hqp : q = p + 1 := by rw [hq, hw1, hp]; simp
  have HW := Lib.hid (And.intro hw1 (And.intro hp (And.intro hw2 hqp)))
  have HF := Lib.hid (And.intro fa (And.intro ta (And.intro fb tb)))
  have H0 : Hid (Below w2.heap.size w2 w2) := Lib.hid (Below.refl _ _)
  clear ha hb fa ta fb tb hca hcb hZ hw1 hb1 hp hp1 hw2 hb2 hq hqp hq2 hp2 hb02
  go_enter Try.func6, Try.ntmps6
  go_upto_region 1 with fail
  rw [← HW.out.1, ← HW.out.2.1, ← HW.out.2.2.1, ← HW.out.2.2.2]
  clear HW
  go_wp2_with fail
  refine c0.mono ?_
  rintro e w3 ⟨rfl, hb3⟩
  clear c0 H0
  have HB3 := Lib.hid hb3
  clear hb3
  have hp3 := (HL.out w3 HB3.out).1
  go_wp2_with (refine wpList_load_row rfl 38 (.tmp 2) rfl p rfl 38 ca (0, 0) _ hp3 Try.underlying38 rfl hcaS ?_)
  refine (CA.out w3 HB3.out).mono ?_
  intro e w4 hE
  obtain ⟨⟨A4, c4, rfl, ho4⟩, hb4⟩ := hE
  have HB4 := Lib.hid (HB3.out.trans (Joins.below_le hb4 HB3.out.size))
  have HEnd := Lib.hid (HL.out w4 HB4.out).2.2.1
  clear hp3 hb4 HB3
  by_cases hok : kindB a.kind = true ∧ ¬ 8192 < a.by.length
  case neg =>
    clear ho4
    have hno : (a.out.1 = [] ∧ (a.out.2 = 1 ∨ a.out.2 = 40)) := by
      cases hk : kindB a.kind
      · rw [out_no hk]
        exact ⟨rfl, .inl rfl⟩
      · have h8 : 8192 < a.by.length := by
          by_cases h : 8192 < a.by.length
          · exact h
          · exact absurd ⟨hk, h⟩ hok
        rw [out_full hk h8]
        exact ⟨rfl, .inr rfl⟩
    obtain ⟨h1, h2⟩ := hno
    rw [h1]
    clear h1 hok
    rcases h2 with h2 | h2
    · rw [h2]
      clear h2
      go_wp2_with fail
      go_ret
      exact ⟨rfl, HEnd.out⟩
    · rw [h2]
      clear h2
      go_wp2_with fail
      go_ret
      exact ⟨rfl, HEnd.out⟩
  obtain ⟨hk, h8⟩ := hok
  rw [out_yes hk h8] at ho4 ⊢
  dsimp only at ho4 ⊢
  have hl8 : a.by.length ≤ 8192 := by omega
  have sa := small_of HF.out.1 HF.out.2.1 hl8
  have cD := dec_yes HF.out.1 sa hk hl8 (.slice A4 a.by.length c4) w4 (Rd.own ho4)
  have HA := Lib.hid (And.intro sa (And.intro hk hl8))
  have HO4 := Lib.hid ho4
  obtain ⟨la, hla⟩ : ∃ la, la = a.by := ⟨_, rfl⟩
  rw [← hla] at cD HO4 hl8 ⊢
  have HLA := Lib.hid hla
  have hln : ¬ (la.length : Int) > 8192 := by omega
  clear sa hk h8 ho4 hla
  go_wp2_with fail
  refine cD.mono ?_
  rintro e w5 ⟨xE, xL, xP, xX, rfl, hmo, hb5⟩
  clear cD
  obtain ⟨AE, cE, rfl, -, -⟩ := hmo.n.e.slice
  obtain ⟨AL, cL, rfl, -, -⟩ := hmo.n.l.slice
  obtain ⟨AP, cP, rfl, -, -⟩ := hmo.n.p.slice
  obtain ⟨AX, cX, rfl, -, -⟩ := hmo.n.x.slice
  obtain ⟨cx, hcx⟩ : ∃ cx, cx = a.cells (.slice AE a.entries.length cE) (.slice AL a.list.length cL) (.slice AP a.pairs.length cP) (.slice AX a.lasts.length cX) := ⟨_, rfl⟩
  rw [← hcx]
  have hcx33 : cx.size = 33 := by rw [hcx]; rfl
  have hcxS : (Try.prog.info? 38).map (·.size) = some cx.size := by rw [hcx33]; exact msg_size
  have hcxo : cx.all (·.oneCell') = true := by rw [hcx]; exact cells_one _ _ _ _ _ _ _ _ _ _ _ _ _
  have hZx : Z.size = cx.size := by rw [hZ33, hcx33]
  obtain ⟨w6, hw6⟩ : ∃ x, x = w5.alloc (.cells Z 38) := ⟨_, rfl⟩
  have hb6 : Below w5.heap.size w5 w6 := by rw [hw6]; exact (Below.refl _ _).alloc (Nat.le_refl _) _
  obtain ⟨r, hr⟩ : ∃ r, r = w5.heap.size := ⟨_, rfl⟩
  have hr6 : w6.heap[r]? = some (.cells Z 38 (0, 0)) := by rw [hw6, hr]; exact heap_alloc_new w5 _
  obtain ⟨y, hy⟩ : ∃ y, y = w6.setRow r cx := ⟨_, rfl⟩
  have hry : y.heap[r]? = some (.cells cx 38 (0, 0)) := by rw [hy]; exact setRow_heap w6 r Z cx _ _ hr6
  have hby : Below w5.heap.size w5 y := by rw [hy]; exact below_setRow hb6 (Nat.le_of_eq hr.symm) _
  have hB4y : Below w4.heap.size w4 y := hb5.trans (Joins.below_le hby hb5.size)
  have hBy : Below w2.heap.size w2 y := HB4.out.trans (Joins.below_le hB4y HB4.out.size)
  have hpy := (HL.out y hBy).1
  have cS := CS.out y _ _ _ _ hBy (hmo.n.grow hby)
  rw [← hcx] at cS
  have HBy := Lib.hid hBy
  have HOy := Lib.hid (own_down HO4.out hB4y)
  have HWy := Lib.hid (And.intro hw6 (And.intro hr hy))
  clear hw6 hb6 hr hy hby hB4y hBy hmo hb5 hcx HO4 HB4 HEnd
  go_upto_region 7 with (rw [← HWy.out.1, ← HWy.out.2.1]; refine wpList_store_row rfl 38 (.tmp 7) (.tmp 33) rfl r cx rfl rfl 38 Z hr6 hcxS hZx hcxo ?_)
  rw [← HWy.out.2.2]
  clear HWy hr6
  go_wp2_with (first
    | (refine wpList_load_row_if rfl rfl rfl 38 (.tmp 7) rfl r rfl 38 cx (0, 0) _ hry Try.underlying38 rfl hcxS ?_)
    | (refine wpList_load_row_if rfl rfl rfl 38 (.tmp 2) rfl p rfl 38 ca (0, 0) _ hpy Try.underlying38 rfl hcaS ?_))
  refine cS.mono ?_
  rintro e w7 ⟨rfl, hb7⟩
  clear cS hry hpy
  have HB7 := Lib.hid (HBy.out.trans (Joins.below_le hb7 HBy.out.size))
  have HO7 := Lib.hid (own_down HOy.out hb7)
  have hq7 := (HL.out w7 HB7.out).2.1
  clear hb7 HBy HOy
  go_wp2_with (refine wpList_load_row rfl 38 (.tmp 3) rfl q rfl 38 cb (0, 0) _ hq7 Try.underlying38 rfl hcbS ?_)
  refine (CB.out w7 HB7.out).mono ?_
  intro e w8 hE
  obtain ⟨⟨A8, c8, rfl, ho8⟩, hb8⟩ := hE
  have HB8 := Lib.hid (HB7.out.trans (Joins.below_le hb8 HB7.out.size))
  have HO8 := Lib.hid (own_down HO7.out hb8)
  clear hb8 HO7 HB7 hq7
  by_cases hk2 : b.out.2 = 0
  case neg =>
    have HEnd := Lib.hid (HL.out w8 HB8.out).2.2.1.drew
    have hne : (b.out.2 != 0) = true := by simpa using hk2
    obtain ⟨k2, hk2'⟩ : ∃ k, k = b.out.2 := ⟨_, rfl⟩
    rw [← hk2'] at hk2 hne ⊢
    obtain ⟨l2, hl2'⟩ : ∃ l, l = b.out.1 := ⟨_, rfl⟩
    rw [← hl2']
    clear hk2' hl2' ho8
    go_upto_region 10 with fail
    go_quiet (fail)
    have HG := Lib.hid ((HL.out w8 HB8.out).2.2.1.trans (⟨rfl, rfl, rfl, Nat.le_refl _, fun _ _ => rfl⟩ : Below w.heap.size w8 (w8.drewN nq)))
    go_wp2_with fail
    go_ret
    exact ⟨rfl, HG.out⟩
  have hokb : kindB b.kind = true ∧ ¬ 8192 < b.by.length := by
    cases hkb : kindB b.kind
    · rw [out_no hkb] at hk2; cases hk2
    · refine ⟨rfl, fun h => ?_⟩
      rw [out_full hkb h] at hk2
      cases hk2
  rw [out_yes hokb.1 hokb.2] at ho8 ⊢
  dsimp only at ho8 ⊢
  have sb := small_of HF.out.2.2.1 HF.out.2.2.2 (by omega)
  have heb := by_same HF.out.1 HF.out.2.2.1 HA.out.1 sb
  obtain ⟨lb, hlb⟩ : ∃ lb, lb = b.by := ⟨_, rfl⟩
  rw [← hlb] at ho8 heb ⊢
  rw [← HLA.out] at heb
  obtain ⟨z, hz⟩ : ∃ z, z = a.same b := ⟨_, rfl⟩
  have cT := CT.out w8.drew HB8.out.drew
  rw [← hz] at heb cT
  have heb2 : (la == lb) = z := by rw [ByteArray.toList_eq, ByteArray.toList_eq] at heb; exact heb
  have hS : BkS p q ca cb (.slice A4 la.length c4) (.slice A8 lb.length c8) la lb w8 := ⟨(HL.out w8 HB8.out).1, (HL.out w8 HB8.out).2.1, Rd.own HO8.out, Rd.own ho8⟩
  have hsd : BkS p q ca cb (.slice A4 la.length c4) (.slice A8 lb.length c8) la lb w8.drew := hS.below (Below.refl _ _).drew
  have HEnd := Lib.hid (HL.out w8 HB8.out).2.2.1.drew
  clear hS ho8 sb hlb hz hk2 hokb HO8
  go_upto_region 10 with fail
  refine wp_region_held_drew (S := BkS p q ca cb (.slice A4 la.length c4) (.slice A8 lb.length c8) la lb) (by kernel_rfl) hsd (fun hHeld => ?_)
  refine takeD (i := 0) (d := 53) (v := .int .i64 0) rfl rfl (by kernel_rfl) (by kernel_rfl) (by kernel_rfl) (fun _ _ _ h => h) (.inl ⟨by rfl, fun w hSw => by unfold BkS at hSw; clear hSw; go_simp; (try with_reducible rfl)⟩) (by assumption) ?_
  simp only [Act.put, List.setIfInBounds_toArray, List.set_cons_zero, List.set_cons_succ]
  refine takeD (i := 1) (d := 54) (v := .bool false) rfl rfl (by kernel_rfl) (by kernel_rfl) (by kernel_rfl) (fun _ _ _ h => h) (.inl ⟨by rfl, fun w hSw => by unfold BkS at hSw; clear hSw; go_simp; (try with_reducible rfl)⟩) (by assumption) ?_
  simp only [Act.put, List.setIfInBounds_toArray, List.set_cons_zero, List.set_cons_succ]
  refine takeD (i := 2) (d := 55) (v := .bool false) rfl rfl (by kernel_rfl) (by kernel_rfl) (by kernel_rfl) (fun _ _ _ h => h) (.inl ⟨by rfl, fun w hSw => by unfold BkS at hSw; clear hSw; go_simp; (try with_reducible rfl)⟩) (by assumption) ?_
  simp only [Act.put, List.setIfInBounds_toArray, List.set_cons_zero, List.set_cons_succ]
  refine takeD (i := 3) (d := 56) (v := .slice A4 la.length c4) rfl rfl (by kernel_rfl) (by kernel_rfl) (by kernel_rfl) (fun _ _ _ h => h) (.inl ⟨by rfl, fun w hSw => by unfold BkS at hSw; clear hSw; go_simp; (try with_reducible rfl)⟩) (by assumption) ?_
  simp only [Act.put, List.setIfInBounds_toArray, List.set_cons_zero, List.set_cons_succ]
  refine takeD (i := 4) (d := 57) (v := .string ⟨la.toArray⟩) rfl rfl (by kernel_rfl) (by kernel_rfl) (by kernel_rfl) (fun _ _ _ h => h) (.inl ⟨by rfl, fun w hSw => by have h1 := conv_rd hSw.2.2.1; clear hSw; go_simp; (try with_reducible rfl)⟩) (by assumption) ?_
  simp only [Act.put, List.setIfInBounds_toArray, List.set_cons_zero, List.set_cons_succ]
  refine takeD (i := 5) (d := 58) (v := .slice A8 lb.length c8) rfl rfl (by kernel_rfl) (by kernel_rfl) (by kernel_rfl) (fun _ _ _ h => h) (.inl ⟨by rfl, fun w hSw => by unfold BkS at hSw; clear hSw; go_simp; (try with_reducible rfl)⟩) (by assumption) ?_
  simp only [Act.put, List.setIfInBounds_toArray, List.set_cons_zero, List.set_cons_succ]
  refine takeD (i := 6) (d := 59) (v := .string ⟨lb.toArray⟩) rfl rfl (by kernel_rfl) (by kernel_rfl) (by kernel_rfl) (fun _ _ _ h => h) (.inl ⟨by rfl, fun w hSw => by have h1 := conv_rd hSw.2.2.2; clear hSw; go_simp; (try with_reducible rfl)⟩) (by assumption) ?_
  simp only [Act.put, List.setIfInBounds_toArray, List.set_cons_zero, List.set_cons_succ]
  refine takeD (i := 7) (d := 60) (v := .bool z) rfl rfl (by kernel_rfl) (by kernel_rfl) (by kernel_rfl) (fun _ _ _ h => h) (.inl ⟨by rfl, fun w hSw => by unfold BkS at hSw; clear hSw; go_simp; (try with_reducible rfl); (try exact heb2)⟩) (by assumption) ?_
  simp only [Act.put, List.setIfInBounds_toArray, List.set_cons_zero, List.set_cons_succ]
  refine takeD (i := 8) (d := 61) (v := .agg ca) rfl rfl (by kernel_rfl) (by kernel_rfl) (by kernel_rfl) (fun _ _ _ h => h) (.inl ⟨by rfl, fun w hSw => by exact ex_load rfl rfl (ld_Msg p ca w hSw.1 hca33)⟩) (by assumption) ?_
  simp only [Act.put, List.setIfInBounds_toArray, List.set_cons_zero, List.set_cons_succ]
  refine takeD (i := 9) (d := 62) (v := .agg cb) rfl rfl (by kernel_rfl) (by kernel_rfl) (by kernel_rfl) (fun _ _ _ h => h) (.inl ⟨by rfl, fun w hSw => by exact ex_load rfl rfl (ld_Msg q cb w hSw.2.1 hcb33)⟩) (by assumption) ?_
  simp only [Act.put, List.setIfInBounds_toArray, List.set_cons_zero, List.set_cons_succ]
  refine wpAnyH_ready (rs := [10]) (by kernel_rfl) (by simp) ?_
  refine AllReadyH.cons rfl (fun K1 hK1 => ?_) AllReadyH.nil
  rw [if_pos (by rfl)]
  go_simp
  go_at_call 22
  refine cT.mono ?_
  rintro e w9 ⟨rfl, hb9⟩
  have hs9 := hsd.below hb9
  have HG := Lib.hid (HEnd.out.trans (Joins.below_le hb9 HEnd.out.size))
  have hzz2 : (z == z) = true := by simp
  dsimp only
  refine hK1.out _ _ hs9 (fun hHeld2 => ?_)
  try simp only [Act.put, List.setIfInBounds_toArray, List.set_cons_zero, List.set_cons_succ]
  refine takeD (i := 11) (d := 64) (v := .bool true) rfl rfl (by kernel_rfl) (by kernel_rfl) (by kernel_rfl) (fun _ _ _ h => h) (.inl ⟨by rfl, fun w hSw => by unfold BkS at hSw; clear hSw; go_simp; (try with_reducible rfl)⟩) (by assumption) ?_
  simp only [Act.put, List.setIfInBounds_toArray, List.set_cons_zero, List.set_cons_succ]
  refine takeD (i := 12) (d := 65) (v := .bool true) rfl rfl (by kernel_rfl) (by kernel_rfl) (by kernel_rfl) (fun _ _ _ h => h) (.inl ⟨by rfl, fun w hSw => by unfold BkS at hSw; clear hSw; go_simp; (try with_reducible rfl)⟩) (by assumption) ?_
  simp only [Act.put, List.setIfInBounds_toArray, List.set_cons_zero, List.set_cons_succ]
  refine takeD (i := 13) (d := 4) (v := .bool true) rfl rfl (by kernel_rfl) (by kernel_rfl) (by kernel_rfl) (fun _ _ _ h => h) (.inl ⟨by rfl, fun w hSw => by unfold BkS at hSw; clear hSw; go_simp; (try with_reducible rfl)⟩) (by assumption) ?_
  simp only [Act.put, List.setIfInBounds_toArray, List.set_cons_zero, List.set_cons_succ]
  refine wpAnyH_done (by kernel_rfl) ?_ _
  clear hsd hs9 hHeld hHeld2 hb9 cT
  go_wp2_with fail
  go_ret
  exact ⟨rfl, HG.out⟩
end Go.Proofs.Ytblbcoknefgcaaa
