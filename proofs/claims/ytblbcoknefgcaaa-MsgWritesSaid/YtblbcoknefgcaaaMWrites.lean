/-
  MsgWrites walked. No statement is proved here. No condition.
-/
import Derived.Test.YtblbcoknefgcaaaMWrEq
import Derived.Test.YtblbcoknefgcaaaMLaw
namespace Go.Proofs.Ytblbcoknefgcaaa
open Go.RowKit

theorem wpList_load_row_if {P : Program} {ops : Array Oper} {rest : List Oper} {o : Oper} {a : Act} {w : World} {Q : Exit → Act → World → Prop} {gi gs : Nat} {b : Bool} (hgd : o.guard = some (gi, b)) (hgs : (ops[gi]?).bind (·.dst) = some gs) (hgt : a.tmps[gs]? = some (.bool b)) (ty : TypeId) (x : Operand) (ho : o.op = .load ty x)
    (g : Nat) (hx : a.eval x = .pointer (some ⟨g, 0, none⟩)) (t : TypeId) (cs : Array Value) (fr : Nat × Nat) (d : TypeDesc) (hg : w.heap[g]? = some (.cells cs t fr))
    (hu : P.underlying ty = some d) (hd : (match d with | .struct _ | .array _ _ => true | _ => false) = true) (hi : (P.info? ty).map (·.size) = some cs.size)
    (h : wpList P ops Q rest (a.put o.dst (.agg cs)) w) : wpList P ops Q (o :: rest) a w :=
  wpList_step fun K hK => by
    rw [if_pos (by rw [wanted_g hgd hgs hgt]; simp)]
    exact wp_load_row ty x ho g hx t cs fr d hg hu hd hi (hK _ _ h)
theorem own_down {w w' : World} {B : Nat} {v : Value} {l : List UInt8} {vs : List Value} (h : w.ownsRow B 5 1 v l.length vs) (hb : Below w.heap.size w w') : w'.ownsRow B 5 1 v l.length vs := row_same h fun n hn => hb.block n (h.lt n hn).2
set_option maxHeartbeats 8000000 in
set_option maxRecDepth 1000000 in
theorem writes_walk (m : MG) (vE vL vP vX : Value) (w : World) (h : MsgL w Any m vE vL vP vX) (hs : MsgS m) (hf : m.fit) (ht : m.texts) :
    Calls Try.prog 4 #[.agg (m.cells vE vL vP vX)] w fun e w' => e = .returned (.bool true) ∧ Below w.heap.size w w' := by
  obtain ⟨cm, hcm⟩ : ∃ cm, cm = m.cells vE vL vP vX := ⟨_, rfl⟩
  have hcm33 : cm.size = 33 := by rw [hcm]; rfl
  have hcmS : (Try.prog.info? 38).map (·.size) = some cm.size := by rw [hcm33]; exact msg_size
  obtain ⟨w1, hw1⟩ : ∃ w1, w1 = w.alloc (.cells cm 38) := ⟨_, rfl⟩
  have hb1 : Below w.heap.size w w1 := by rw [hw1]; exact (Below.refl _ _).alloc (Nat.le_refl _) _
  obtain ⟨p, hp⟩ : ∃ p, p = w.heap.size := ⟨_, rfl⟩
  have hx1 : w1.heap[p]? = some (.cells cm 38 (0, 0)) := by rw [hw1, hp]; exact heap_alloc_new w _
  have cT := rtwin_any m vE vL vP vX w1 (h.grow hb1) hs
  rw [← hcm] at cT ⊢
  have CP : Hid (∀ W vE vL vP vX, MsgL W Any m vE vL vP vX → Calls Try.prog 15 #[.agg (m.cells vE vL vP vX)] W fun e w' => EncA W w' m.out.1 m.out.2 e) := Lib.hid fun W vE vL vP vX h => enc_prog m vE vL vP vX W h hf
  have CD : Hid (∀ W, Below w.heap.size w W → Calls Try.prog 18 #[.agg cm] W fun e w' => EncA W w' m.out.1 m.out.2 e) := Lib.hid fun W hb => by rw [hcm]; exact enc_doc m vE vL vP vX W (h.grow hb) hs ht hf
  have hlen := out_len m
  obtain ⟨l, hl⟩ : ∃ l, l = m.out.1 := ⟨_, rfl⟩
  obtain ⟨k, hk⟩ : ∃ k, k = m.out.2 := ⟨_, rfl⟩
  rw [← hl, ← hk] at CP CD
  rw [← hl] at hlen
  have CS : Hid (∀ W vE2 vL2 vP2 vX2, Below w.heap.size w W → MsgL W Any m vE2 vL2 vP2 vX2 → Calls Try.prog 19 #[.agg (m.cells vE2 vL2 vP2 vX2), .agg cm] W fun e w' => e = .returned (.bool true) ∧ Below W.heap.size W w') := Lib.hid fun W vE2 vL2 vP2 vX2 hb h2 => by
    have := rsame_any m m vE2 vL2 vP2 vX2 vE vL vP vX W h2 (h.grow hb)
    rw [MG.refl, ← hcm] at this
    exact this
  have HW1 := Lib.hid hw1
  have HP := Lib.hid hp
  have HB1 := Lib.hid (And.intro hb1 hx1)
  have hzz := zero_msg
  obtain ⟨Z, hZ⟩ : ∃ Z, Z = zC := ⟨_, rfl⟩
  rw [← hZ] at hzz
  have hZ33 : Z.size = 33 := by rw [hZ]; rfl
  clear h hs hf ht hw1 hb1 hp hcm hl hk hZ
  go_enter Try.func4, Try.ntmps4
  go_upto_region 1 with fail
  rw [← HW1.out, ← HP.out]
  go_wp2_with (refine wpList_load_row rfl 38 (.tmp 1) rfl p rfl 38 cm (0, 0) _ hx1 Try.underlying38 rfl hcmS ?_)
  refine cT.mono ?_
  rintro e w2 ⟨vE3, vL3, vP3, vX3, rfl, hm2, hb2⟩
  clear cT hx1
  obtain ⟨A1, c1, rfl, -, -⟩ := hm2.e.slice
  obtain ⟨A2, c2, rfl, -, -⟩ := hm2.l.slice
  obtain ⟨A3, c3, rfl, -, -⟩ := hm2.p.slice
  obtain ⟨A4, c4, rfl, -, -⟩ := hm2.x.slice
  have hco := cells_one m A1 A2 A3 A4 m.entries.length m.list.length m.pairs.length m.lasts.length c1 c2 c3 c4
  obtain ⟨vE3, hE3⟩ : ∃ v, v = Value.slice A1 m.entries.length c1 := ⟨_, rfl⟩
  obtain ⟨vL3, hL3⟩ : ∃ v, v = Value.slice A2 m.list.length c2 := ⟨_, rfl⟩
  obtain ⟨vP3, hP3⟩ : ∃ v, v = Value.slice A3 m.pairs.length c3 := ⟨_, rfl⟩
  obtain ⟨vX3, hX3⟩ : ∃ v, v = Value.slice A4 m.lasts.length c4 := ⟨_, rfl⟩
  rw [← hE3, ← hL3, ← hP3, ← hX3] at hco hm2 ⊢
  clear hE3 hL3 hP3 hX3
  obtain ⟨ci, hci⟩ : ∃ ci, ci = m.cells vE3 vL3 vP3 vX3 := ⟨_, rfl⟩
  rw [← hci] at hco ⊢
  have hci33 : ci.size = 33 := by rw [hci]; rfl
  have hciS : (Try.prog.info? 38).map (·.size) = some ci.size := by rw [hci33]; exact msg_size
  have hZi : Z.size = ci.size := by rw [hZ33, hci33]
  obtain ⟨w3, hw3⟩ : ∃ w3, w3 = w2.alloc (.cells Z 38) := ⟨_, rfl⟩
  have hb3 : Below w2.heap.size w2 w3 := by rw [hw3]; exact (Below.refl _ _).alloc (Nat.le_refl _) _
  obtain ⟨q, hq⟩ : ∃ q, q = w2.heap.size := ⟨_, rfl⟩
  have hq3 : w3.heap[q]? = some (.cells Z 38 (0, 0)) := by rw [hw3, hq]; exact heap_alloc_new w2 _
  obtain ⟨x, hx⟩ : ∃ x, x = w3.setRow q ci := ⟨_, rfl⟩
  have hb4 : Below w2.heap.size w2 x := by rw [hx]; exact below_setRow hb3 (Nat.le_of_eq hq.symm) _
  have hqx : x.heap[q]? = some (.cells ci 38 (0, 0)) := by rw [hx]; exact setRow_heap w3 q Z ci _ _ hq3
  have hb24 : Below w.heap.size w x := (HB1.out.1.trans (Joins.below_le hb2 HB1.out.1.size)).trans (Joins.below_le hb4 (Nat.le_trans HB1.out.1.size hb2.size))
  have hp2 := (hb2.block p (Array.getElem?_eq_some_iff.1 HB1.out.2).1).trans HB1.out.2
  have hpx := (hb4.block p (Array.getElem?_eq_some_iff.1 hp2).1).trans hp2
  have hmx := hm2.grow hb4
  -- what every later world has
  have HL : Hid (∀ W, Below x.heap.size x W → W.heap[p]? = some (.cells cm 38 (0, 0)) ∧ W.heap[q]? = some (.cells ci 38 (0, 0)) ∧ Below w.heap.size w W ∧ MsgL W Any m vE3 vL3 vP3 vX3) := Lib.hid fun W hW =>
    ⟨(hW.block p (Array.getElem?_eq_some_iff.1 hpx).1).trans hpx, (hW.block q (Array.getElem?_eq_some_iff.1 hqx).1).trans hqx, hb24.trans (Joins.below_le hW hb24.size), hmx.grow hW⟩
  have CI : Hid (∀ W, Below x.heap.size x W → Calls Try.prog 15 #[.agg ci] W fun e w' => EncA W w' l k e) := Lib.hid fun W hW => by rw [hci]; exact CP.out W _ _ _ _ (HL.out W hW).2.2.2
  have CJ : Hid (∀ W, Below x.heap.size x W → Calls Try.prog 19 #[.agg ci, .agg cm] W fun e w' => e = .returned (.bool true) ∧ Below W.heap.size W w') := Lib.hid fun W hW => by rw [hci]; exact CS.out W _ _ _ _ (HL.out W hW).2.2.1 (HL.out W hW).2.2.2
  have HX0 : Hid (Below x.heap.size x x) := Lib.hid (Below.refl _ _)
  have HW3 := Lib.hid hw3
  have HQ := Lib.hid hq
  have HXX := Lib.hid hx
  clear hw3 hb3 hq hx hb4 hqx hb24 hp2 hpx hmx hm2 hb2 hci HB1 CP CS HW1 HP
  go_upto_region 2 with (rw [← HW3.out, ← HQ.out]; refine wpList_store_row rfl 38 (.tmp 3) (.tmp 11) rfl q ci rfl rfl 38 Z hq3 hciS hZi hco ?_)
  rw [← HXX.out]
  clear HW3 HXX hq3
  go_wp2_with fail
  go_loopw [4, 5, 6, 7, 8, 9] (fun s4 _ _ _ _ _ wr => ∃ r : Nat, s4 = .int .i64 (r : Int) ∧ r ≤ 2 ∧ Hid (Below x.heap.size x wr)) (fun s4 _ _ _ _ _ _ => 2 - (RowKit.intOf s4).toNat)
  case atStart => exact ⟨0, rfl, by omega, HX0⟩
  case round =>
    clear HX0
    obtain ⟨r, rfl, hr, hR⟩ := hrel
    obtain ⟨wz, hwz⟩ : ∃ wz : World, wz = wr := ⟨_, rfl⟩
    subst hwz
    by_cases hr2 : r < 2
    · have a1 : (r : Int) < 2 := by omega
      have hqz := (HL.out wz hR.out).2.1
      go_wp2_with (refine wpList_load_row rfl 38 (.tmp 3) rfl q rfl 38 ci (0, 0) _ hqz Try.underlying38 rfl hciS ?_)
      refine (CI.out wz hR.out).mono ?_
      intro e w5 hE
      obtain ⟨⟨A5, c5, rfl, ho5⟩, hb5⟩ := hE
      have hR5 : Below x.heap.size x w5 := hR.out.trans (Joins.below_le hb5 hR.out.size)
      have HR5 := Lib.hid hR5
      have HO5 := Lib.hid ho5
      have hpz := (HL.out w5 hR5).1
      clear hqz hR5 hb5 ho5
      go_wp2_with (refine wpList_load_row rfl 38 (.tmp 1) rfl p rfl 38 cm (0, 0) _ hpz Try.underlying38 rfl hcmS ?_)
      refine (CD.out w5 (HL.out w5 HR5.out).2.2.1).mono ?_
      intro e w6 hE
      obtain ⟨⟨A6, c6, rfl, ho6⟩, hb6⟩ := hE
      have hR6 : Below x.heap.size x w6 := HR5.out.trans (Joins.below_le hb6 HR5.out.size)
      have hpz := (HL.out w6 hR6).1
      have hqz := (HL.out w6 hR6).2.1
      have ho5 := own_down HO5.out hb6
      have q1 := run_str (P := Try.prog) 23 5 9 Try.underlying23 Try.underlying5 Try.underlying9 (Rd.own ho5)
      have q2 := run_str (P := Try.prog) 23 5 9 Try.underlying23 Try.underlying5 Try.underlying9 (Rd.own ho6)
      have HR6 := Lib.hid hR6
      have HO6 := Lib.hid ho5
      have k1 : (k != k) = false := by simp
      clear hR6 ho6 hb6 ho5 HO5 HR5
      go_wp2_with (first
        | (refine wpList_load_row_if rfl rfl rfl 38 (.tmp 3) rfl q rfl 38 ci (0, 0) _ hqz Try.underlying38 rfl hciS ?_)
        | (refine wpList_load_row_if rfl rfl rfl 38 (.tmp 1) rfl p rfl 38 cm (0, 0) _ hpz Try.underlying38 rfl hcmS ?_))
      refine (CJ.out w6 HR6.out).mono ?_
      rintro e w7 ⟨rfl, hb7⟩
      have hR7 : Below x.heap.size x w7 := HR6.out.trans (Joins.below_le hb7 HR6.out.size)
      have ho7 := own_down HO6.out hb7
      have hz7 : x.heap.size ≤ wz.heap.size := hR.out.size
      have HX7 : Hid (∃ L : List Value, w7.ownsRow wz.heap.size 5 1 (.slice A5 l.length c5) l.length L ∧ Below x.heap.size x w7) := Lib.hid ⟨_, ho7, hR7⟩
      have HZ := Lib.hid hz7
      clear hpz hqz q1 q2 hb7 hR7 ho7 HR6 HO6 hz7 hR
      go_wp2_with fail
      go_loopw [9] (fun s9 wr => ∃ i : Nat, s9 = .int .i64 (i : Int) ∧ i ≤ l.length ∧ Hid (∃ L : List Value, wr.ownsRow wz.heap.size 5 1 (.slice A5 l.length c5) l.length L ∧ Below x.heap.size x wr)) (fun s9 _ => l.length - (RowKit.intOf s9).toNat)
      case atStart => exact ⟨0, rfl, Nat.zero_le _, HX7⟩
      case round =>
        clear HX7
        obtain ⟨i, rfl, hi, hX⟩ := hrel
        obtain ⟨wy, hwy⟩ : ∃ wy : World, wy = wr := ⟨_, rfl⟩
        subst hwy
        by_cases hil : i < l.length
        · have b1 : (i : Int) < (l.length : Int) := by omega
          have b0 : (0 : Int) ≤ (i : Int) := by omega
          obtain ⟨L, hox, hB⟩ := hX.out
          obtain ⟨g, cap, hform, hg1, hg2⟩ := hox.form (by omega)
          injection hform with e1 e2 e3
          subst e1
          subst e3
          clear e2
          have hlx : L.length = l.length := by simpa using hox.1
          obtain ⟨y, hcg⟩ : ∃ y, wy.cell? ⟨g, i, none⟩ = some y := ⟨L[i]'(by omega), by rw [hox.cellAt i (by omega)]; exact List.getElem?_eq_getElem (by omega)⟩
          have hfg : wy.frozen? ⟨g, i, none⟩ = false := hox.frozenAt i
          have hst2 := hox.stored i (.int .u8 9)
          have HN : Hid (∃ L : List Value, (wy.setCell ⟨g, i, none⟩ (.int .u8 9)).ownsRow wz.heap.size 5 1 (.slice (some ⟨g, 0, none⟩) l.length c5) l.length L ∧ Below x.heap.size x (wy.setCell ⟨g, i, none⟩ (.int .u8 9))) := Lib.hid ⟨_, hst2.1, hB.setCell (Nat.le_trans HZ.out hg1) _⟩
          clear hX hox hB hlx hst2 hg1 hg2
          go_wp2_with fail
          exact ⟨⟨i + 1, by go_num, by omega, HN⟩, by simp [RowKit.intOf]; omega⟩
        · have b1 : ¬ (i : Int) < (l.length : Int) := by omega
          have HN : Hid (Below x.heap.size x wy) := Lib.hid (by obtain ⟨L, -, hB⟩ := hX.out; exact hB)
          clear hX
          go_wp2_with fail
          exact ⟨⟨r + 1, by go_num, by omega, HN⟩, by simp [RowKit.intOf]; omega⟩
    · have a1 : ¬ (r : Int) < 2 := by omega
      have HF := Lib.hid (HL.out wz hR.out).2.2.1
      clear hR
      go_wp2_with fail
      go_ret
      exact ⟨rfl, HF.out⟩
end Go.Proofs.Ytblbcoknefgcaaa
