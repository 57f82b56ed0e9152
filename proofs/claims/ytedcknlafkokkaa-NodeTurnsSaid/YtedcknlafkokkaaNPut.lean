/-
  append to what is owned, and where the result lies; the program's put, putCell. No statement is proved here. No condition.
-/
import Derived.Test.YtedcknlafkokkaaNSizeN
import Derived.Maps.AppendAt
namespace Go.Proofs.Ytedcknlafkokkaa
open Go.RowKit

theorem own_slice {w : World} {base : Nat} {e : TypeId} {size : Nat} {v : Value} {n : Nat} {xs : List Value} (h : w.ownsRow base e size v n xs) : ∃ A c, v = .slice A n c := by
  rcases h.2 with ⟨rfl, h0⟩ | ⟨g, cap, cur, rfl, _⟩
  · subst h0; exact ⟨none, 0, rfl⟩
  · exact ⟨_, cap, rfl⟩

section
variable {P : Program} {w : World}
theorem run_appAt (base : Nat) (t ty e : TypeId) (i : TypeInfo) (z : Value) (size bytes : Nat) (ht : P.underlying t = some (.slice e)) (hi : P.info? e = some i) (hz : i.zero = some z) (hsize : i.size = size) (hby : i.bytes = bytes) (hzs : z.cells.size = size) (hsz : 0 < size)
    (v x : Value) (n : Nat) (xs : List Value) (hown : w.ownsRow base e size v n xs) (m : Nat) (ys : List Value) (hx : RowAt w x m size ys) (h1 : ∀ u ∈ ys, u.oneCell' = true) (h63 : n + m ≤ maxLen) (hbytes : (n + m) * bytes ≤ 140737488355328) (hbase : base ≤ w.heap.size) :
    ∃ A c w', (Builtin.append_ #[t, t] ty #[v, x]).run P w = .ok (.slice A (n + m) c) w' ∧ w'.ownsRow base e size (.slice A (n + m) c) (n + m) (xs ++ ys) ∧ w.grownBy w' v.ownBlock ∧ ((Value.slice A (n + m) c).ownBlock = v.ownBlock ∨ (Value.slice A (n + m) c).ownBlock = some w.heap.size) := by
  obtain ⟨A, c, rfl, hl, hmc, hcm, h3, h4⟩ := hx
  cases A with
  | none =>
    have hc := h3 rfl
    have hm : m = 0 := by omega
    subst hm
    subst hc
    have hys : ys = [] := List.eq_nil_of_length_eq_zero (by omega)
    subst hys
    obtain ⟨A0, c0, rfl⟩ := own_slice hown
    exact ⟨A0, c0, w, run_append_owned_none w base t ty e i size ht hi _ n xs hown, by simpa using hown, ⟨rfl, rfl, rfl, Nat.le_refl _, fun _ _ _ => rfl⟩, .inl rfl⟩
  | some ad =>
    obtain ⟨v', w', hr, k2, k3, _, k5⟩ := run_append_own_at (P := P) w base t ty e i z size bytes ht hi hz hsize hby hzs hsz v n xs hown ad m c ys hl
      (fun j u hj => by
        obtain ⟨b, o, hA, hc⟩ := h4 (by
          rcases Nat.eq_zero_or_pos m with h0 | h0
          · subst h0
            have : ys = [] := List.eq_nil_of_length_eq_zero (by omega)
            subst this
            simp at hj
          · exact h0)
        injection hA with hA
        subst hA
        rw [plus_zero]
        exact hc j u hj) h1 h63 hbytes hbase
    obtain ⟨A0, c0, rfl⟩ := own_slice k2
    exact ⟨A0, c0, w', hr, k2, k3, k5⟩
theorem wpList_appAt {ops : Array Oper} {rest : List Oper} {o : Oper} {a : Act} {Q : Exit → Act → World → Prop} (hgd : o.guard = none) (s x : Operand) (t : TypeId)
    (ho : o.op = .call { callee := .builtin .append, args := #[s, x], argTypes := #[t, t] })
    (base : Nat) (e : TypeId) (i : TypeInfo) (z : Value) (size bytes : Nat) (ht : P.underlying t = some (.slice e)) (hi : P.info? e = some i) (hz : i.zero = some z) (hsize : i.size = size) (hby : i.bytes = bytes) (hzs : z.cells.size = size) (hsz : 0 < size)
    (v y : Value) (n : Nat) (xs : List Value) (m : Nat) (ys : List Value) (hs : a.eval s = v) (hy : a.eval x = y) (hown : w.ownsRow base e size v n xs) (hx : RowAt w y m size ys) (h1 : ∀ u ∈ ys, u.oneCell' = true)
    (h63 : n + m ≤ maxLen) (hbytes : (n + m) * bytes ≤ 140737488355328) (hbase : base ≤ w.heap.size)
    (h : ∀ A c w', w'.ownsRow base e size (.slice A (n + m) c) (n + m) (xs ++ ys) → w.grownBy w' v.ownBlock → ((Value.slice A (n + m) c).ownBlock = v.ownBlock ∨ (Value.slice A (n + m) c).ownBlock = some w.heap.size) → wpList P ops Q rest (a.put o.dst (.slice A (n + m) c)) w') : wpList P ops Q (o :: rest) a w := by
  refine wpList_plain hgd fun K hK => ?_
  obtain ⟨A, c, w', hr, h2, h3, h4⟩ := run_appAt (P := P) (w := w) base t o.type e i z size bytes ht hi hz hsize hby hzs hsz v y n xs hown m ys hx h1 h63 hbytes hbase
  unfold Oper.wp execOp
  simp only [ho, resolve, invoke, builtin, Sem.run_bind, Sem.run_pure, Result.andThen_ok, List.map_toArray, List.map_cons, List.map_nil, hs, hy, hr]
  exact hK _ _ (h A c w' h2 h3 h4)
end
/-- bytes, in blocks of N -/
def BN (w : World) (N : Nat → Prop) (v : Value) (l : List UInt8) : Prop := RowN w N v l.length 1 (BS l)
theorem BN.rd {w : World} {N : Nat → Prop} {v : Value} {l : List UInt8} (h : BN w N v l) : Rd w w.heap.size v l := by
  obtain ⟨A, c, rfl, h1, h2, h3, h4, h5⟩ := h
  refine ⟨A, c, rfl, h2, h3, h4, fun hn => ?_⟩
  obtain ⟨b, o, rfl, -, hs, hc⟩ := h5 (List.length_pos_iff.2 hn)
  refine ⟨b, o, rfl, hs, fun i x hx => hc i _ ?_⟩
  unfold BS
  rw [List.getElem?_map, hx]
  rfl
theorem Rd.toBN {w : World} {B : Nat} {v : Value} {l : List UInt8} (h : Rd w B v l) (hB : B ≤ w.heap.size) : BN w (fun b => b < B) v l := by
  obtain ⟨A, c, rfl, h1, h2, h3, h4⟩ := h
  refine ⟨A, c, rfl, by rw [BS_length, Nat.mul_one], h1, h2, h3, fun hn => ?_⟩
  obtain ⟨b, o, rfl, hb, hc⟩ := h4 (by intro e; rw [e] at hn; exact absurd hn (by simp))
  refine ⟨b, o, rfl, hb, by omega, fun j u hu => ?_⟩
  obtain ⟨x, hx, rfl⟩ := BS_get hu
  exact hc j x hx
theorem info_U8 : (Try.prog.info? 5).map (fun i => (i.zero, i.size, i.bytes)) = some (some (.int .u8 0), 1, 1) := info_u8
def flat (ps : List (Value × List UInt8)) : List UInt8 := ps.flatMap Prod.snd
theorem flat_snoc {ps : List (Value × List UInt8)} {i : Nat} {p : Value × List UInt8} (h : ps[i]? = some p) : flat (ps.take (i + 1)) = flat (ps.take i) ++ p.2 := by
  unfold flat
  rw [List.take_add_one, h, List.flatMap_append]
  simp
theorem flat_take (ps : List (Value × List UInt8)) (i : Nat) : (flat (ps.take i)).length ≤ (flat ps).length := by
  have : flat ps = flat (ps.take i) ++ flat (ps.drop i) := by
    unfold flat
    rw [← List.flatMap_append, List.take_append_drop]
  rw [this, List.length_append]
  omega

/-- what an append to v may touch: v's own block, and what is new -/
def Puts (w w' : World) (v v' : Value) : Prop := w.grownBy w' v.ownBlock ∧ ∀ b, v'.ownBlock = some b → v.ownBlock = some b ∨ w.heap.size ≤ b
theorem Puts.trans {w w1 w2 : World} {v v1 v2 : Value} (h : Puts w w1 v v1) (k : Puts w1 w2 v1 v2) : Puts w w2 v v2 := by
  have hs := h.1.size
  refine ⟨⟨k.1.os.trans h.1.os, k.1.tape.trans h.1.tape, k.1.output.trans h.1.output, Nat.le_trans hs k.1.size, fun b hb hn => (k.1.block b (by omega) (fun e => (h.2 b e.symm).elim (fun e' => hn e'.symm) (fun e' => by omega))).trans (h.1.block b hb hn)⟩, fun b hb => ?_⟩
  rcases k.2 b hb with e | e
  · exact h.2 b e
  · right; omega
theorem Puts.after {w w1 w2 : World} {v v2 : Value} (h : Below w.heap.size w w1) (k : Puts w1 w2 v v2) : Puts w w2 v v2 := by
  have hs := h.size
  refine ⟨⟨k.1.os.trans h.os, k.1.tape.trans h.tape, k.1.output.trans h.output, Nat.le_trans hs k.1.size, fun b hb hn => (k.1.block b (by omega) hn).trans (h.block b hb)⟩, fun b hb => ?_⟩
  rcases k.2 b hb with e | e
  · exact .inl e
  · right; omega
theorem Puts.below {w w' : World} {v v' : Value} {base : Nat} (h : Puts w w' v v') (hb : base ≤ w.heap.size) (hv : ∀ b, v.ownBlock = some b → base ≤ b) : Below base w w' :=
  ⟨h.1.os, h.1.tape, h.1.output, h.1.size, fun b hb' => h.1.block b (by omega) (fun e => by have := hv b e.symm; omega)⟩
theorem Puts.block {w w' : World} {v v' : Value} (h : Puts w w' v v') {b : Nat} (hb : b < w.heap.size) (hn : v.ownBlock ≠ some b) : w'.heap[b]? = w.heap[b]? := h.1.block b hb (fun e => hn e.symm)

set_option maxRecDepth 100000 in
theorem nput_any (l : List UInt8) (v : Value) (base g : Nat) (w : World) (T : TypeId) (ps : List (Value × List UInt8)) (hown : w.ownsRow base 5 1 v l.length (BS l)) (hbase : base ≤ w.heap.size) (hg : w.heap[g]? = some (.cells (ps.map Prod.fst).toArray T (0, 0)))
    (hgv : v.ownBlock ≠ some g) (hps : ∀ p ∈ ps, BN w (fun b => v.ownBlock ≠ some b) p.1 p.2) (htot : l.length + (flat ps).length ≤ 1000000000) (hpl : ps.length ≤ 1000) :
    Calls Try.prog 31 #[v, .slice (some ⟨g, 0, none⟩) ps.length ps.length] w fun e w' => ∃ v', e = .returned v' ∧ w'.ownsRow base 5 1 v' (l ++ flat ps).length (BS (l ++ flat ps)) ∧ Puts w w' v v' := by
  obtain ⟨iu, hiu, z0, z1, z2⟩ := info_parts info_U8
  have hgl : g < w.heap.size := (Array.getElem?_eq_some_iff.1 hg).1
  have HOWN : Hid (w.ownsRow base 5 1 v (l ++ flat (ps.take 0)).length (BS (l ++ flat (ps.take 0)))) := Lib.hid (by simpa [flat] using hown)
  have HG := Lib.hid hg
  have HPS := Lib.hid hps
  have hvb : ∀ b, v.ownBlock = some b → base ≤ b ∧ b < w.heap.size := fun b hb => hown.lt b hb
  have HVB := Lib.hid hvb
  obtain ⟨vo, hvo⟩ : ∃ vo, vo = v.ownBlock := ⟨_, rfl⟩
  rw [← hvo] at hgv
  have HVO := Lib.hid hvo
  have hgv' : ∀ b, b = g → vo ≠ some b := fun b hb => by rw [hb]; exact hgv
  have HGV := Lib.hid hgv'
  clear hown hg hps hvb hvo hgv hgv'
  go_enter Try.func31, Try.ntmps31
  go_wp2_with fail
  go_loopw [0, 6, 9] (fun s0 _ s9 wr => ∃ i : Nat, s9 = .int .i64 (i : Int) ∧ i ≤ ps.length ∧ Hid (wr.ownsRow base 5 1 s0 (l ++ flat (ps.take i)).length (BS (l ++ flat (ps.take i)))) ∧ Hid (w.grownBy wr vo) ∧ Hid (∀ b, s0.ownBlock = some b → vo = some b ∨ w.heap.size ≤ b)) (fun _ _ s9 _ => ps.length - (intOf s9).toNat)
  case atStart => exact ⟨0, rfl, Nat.zero_le _, HOWN, Lib.hid ⟨rfl, rfl, rfl, Nat.le_refl _, fun _ _ _ => rfl⟩, Lib.hid (fun b hb => .inl (HVO.out.trans hb))⟩
  case round =>
    clear HOWN
    obtain ⟨i, rfl, hi, ho, hgr, hat⟩ := hrel
    obtain ⟨wz, hwz⟩ : ∃ wz : World, wz = wr := ⟨_, rfl⟩
    subst hwz
    have hsz := hgr.out.size
    by_cases hil : i < ps.length
    · have a1 : (i : Int) < (ps.length : Int) := by omega
      have a0 : (0 : Int) ≤ (i : Int) := by omega
      obtain ⟨p, hpi⟩ : ∃ p, ps[i]? = some p := ⟨_, List.getElem?_eq_getElem hil⟩
      have hpm := List.mem_of_getElem? hpi
      have hgz : wz.heap[g]? = some (.cells (ps.map Prod.fst).toArray T (0, 0)) := (hgr.out.block g hgl (fun e => HGV.out g rfl e.symm)).trans HG.out
      have c0 : wz.cell? ⟨g, i, none⟩ = some p.1 := by
        rw [(row_cells hgz).1 i, List.getElem?_toArray, List.getElem?_map, hpi]
        rfl
      have hrw := HPS.out p hpm
      have hbn : BN wz (fun b => ¬ (vo = some b) ∧ b < w.heap.size) p.1 p.2 := RowN.kept hrw (fun b h hl => ⟨fun e => h (HVO.out.symm.trans e), hl⟩) hsz (fun b h hl => hgr.out.block b hl (fun e => h (HVO.out.symm.trans e.symm)))
      have hra := RowN.at hbn
      have hsn := flat_snoc hpi
      have hft := flat_take ps (i + 1)
      rw [hsn, List.length_append] at hft
      obtain ⟨m, hm⟩ : ∃ m, m = p.2.length := ⟨_, rfl⟩
      obtain ⟨t, ht⟩ : ∃ t, t = (flat (ps.take i)).length := ⟨_, rfl⟩
      rw [← hm, ← ht] at hft
      have HRA := Lib.hid hra
      have HSN := Lib.hid hsn
      have HM := Lib.hid hm
      have HT := Lib.hid ht
      clear hrw hbn hra hsn hm ht hgz hpm
      obtain ⟨pv, pl⟩ := p
      dsimp only at c0 HRA HSN HM
      have hlt : (l ++ flat (ps.take i)).length = l.length + t := by rw [List.length_append, HT.out]
      have HLT := Lib.hid hlt
      clear hlt
      go_wp2_with (at_builtin; go_must (refine wpList_appAt rfl (.tmp 13) (.tmp 14) 26 rfl base 5 iu _ 1 1 Try.underlying26 hiu z0 z1 z2 rfl (by decide) _ _ (l ++ flat (ps.take i)).length (BS (l ++ flat (ps.take i))) pl.length (BS pl) rfl rfl ho.out HRA.out (BS_one _) (by unfold maxLen; have := HM.out; have := HLT.out; omega) (by have := HM.out; have := HLT.out; omega) (by omega) ?_; intro A7 c7 w7 ho7 hg7 hat7; generalize Value.slice A7 _ c7 = v7 at ho7 hat7 ⊢))
      have hon : w7.ownsRow base 5 1 v7 (l ++ flat (ps.take (i + 1))).length (BS (l ++ flat (ps.take (i + 1)))) := by
        have e1 : (l ++ flat (ps.take (i + 1))).length = (l ++ flat (ps.take i)).length + pl.length := by rw [HSN.out, List.length_append, List.length_append, List.length_append]; omega
        rw [e1, HSN.out, ← List.append_assoc, BS_append]
        exact ho7
      have hgn : w.grownBy w7 vo := ⟨hg7.os.trans hgr.out.os, hg7.tape.trans hgr.out.tape, hg7.output.trans hgr.out.output, Nat.le_trans hsz hg7.size, fun b hb hn => (hg7.block b (by omega) (fun e => (hat.out b e.symm).elim (fun h => hn h.symm) (fun h => by omega))).trans (hgr.out.block b hb hn)⟩
      have han : ∀ b, v7.ownBlock = some b → vo = some b ∨ w.heap.size ≤ b := fun b hb => by
        rcases hat7 with h | h
        · exact hat.out b (h.symm.trans hb)
        · rw [h] at hb
          injection hb with hb
          right
          omega
      have HON := Lib.hid hon
      have HGN := Lib.hid hgn
      have HAN := Lib.hid han
      clear ho7 hg7 hat7 hon hgn han
      go_wp2_with fail
      exact ⟨⟨i + 1, by go_num, hil, HON, HGN, HAN⟩, by simp [intOf]; omega⟩
    · have a1 : ¬ (i : Int) < (ps.length : Int) := by omega
      have hie : i = ps.length := by omega
      have hbe : ∀ v', (∀ b, v'.ownBlock = some b → vo = some b ∨ w.heap.size ≤ b) → Puts w wz v v' := fun v' h => ⟨by rw [← HVO.out]; exact hgr.out, fun b hb => by rw [← HVO.out]; exact h b hb⟩
      have hfi := ho.out
      rw [hie, List.take_length, List.length_append] at hfi
      have HFI := Lib.hid hfi
      clear hfi hie ho
      go_wp2_with fail
      go_ret
      exact ⟨_, rfl, HFI.out, hbe _ hat.out⟩
theorem tx_tv {s : ByteArray} (h : s.size ≤ 10000) : tv s.data.toList = tx s := by
  unfold tv tx
  rw [cnt_nat (by omega), show s.data.toList.length = s.size by simp]
theorem cStr (s : ByteArray) (w : World) (h : s.size ≤ 10000) :
    Calls Try.prog 66 #[.slice none 0 0, .string s] w fun e w' => ∃ A m c, e = .returned (.slice A m c) ∧ BN w' (fun b => w.heap.size ≤ b) (.slice A m c) (tx s) ∧ Below w.heap.size w w' := by
  refine (str_any [] (.slice none 0 0) s w (Rd.nil _ _) (by omega) (by simp; omega)).mono ?_
  rintro e w' ⟨v', rfl, ho, hb⟩
  rw [List.nil_append, tx_tv h] at ho
  obtain ⟨A, c, rfl⟩ := own_slice ho
  exact ⟨A, _, c, rfl, RowN.of_own ho (fun b hb => (ho.lt b hb).1), hb⟩
theorem cCount (n : Int) (w : World) :
    Calls Try.prog 33 #[.slice none 0 0, .int .i64 n] w fun e w' => ∃ A m c, e = .returned (.slice A m c) ∧ BN w' (fun b => w.heap.size ≤ b) (.slice A m c) (cnt n) ∧ Below w.heap.size w w' := by
  refine (count_cnt [] (.slice none 0 0) n w (Rd.nil _ _) (by simp)).mono ?_
  rintro e w' ⟨v', rfl, ho, hb⟩
  rw [List.nil_append] at ho
  obtain ⟨A, c, rfl⟩ := own_slice ho
  exact ⟨A, _, c, rfl, RowN.of_own ho (fun b hb => (ho.lt b hb).1), hb⟩
theorem cFlag (t : Bool) (w : World) :
    Calls Try.prog 32 #[.slice none 0 0, .bool t] w fun e w' => ∃ A m c, e = .returned (.slice A m c) ∧ BN w' (fun b => w.heap.size ≤ b) (.slice A m c) (fv t) ∧ Below w.heap.size w w' := by
  refine (flag_any [] (.slice none 0 0) t w (Rd.nil _ _) (by simp)).mono ?_
  rintro e w' ⟨v', rfl, ho, hb⟩
  rw [List.nil_append] at ho
  obtain ⟨A, c, rfl⟩ := own_slice ho
  exact ⟨A, _, c, rfl, RowN.of_own ho (fun b hb => (ho.lt b hb).1), hb⟩
/-- put of parts that were laid just now -/
theorem put_one (l : List UInt8) (v : Value) (base : Nat) (w : World) (v1 : Value) (l1 : List UInt8) (hown : w.ownsRow base 5 1 v l.length (BS l)) (hbase : base ≤ w.heap.size) (h1 : BN w (fun b => v.ownBlock ≠ some b) v1 l1) (htot : l.length + l1.length ≤ 1000000000) :
    Calls Try.prog 31 #[v, .slice (some ⟨w.heap.size, 0, none⟩) 1 1] (w.alloc (.cells #[v1] 26)) fun e w' => ∃ v', e = .returned v' ∧ w'.ownsRow base 5 1 v' (l ++ l1).length (BS (l ++ l1)) ∧ Puts w w' v v' := by
  have hb : Below w.heap.size w (w.alloc (.cells #[v1] 26)) := (Below.refl _ _).alloc (Nat.le_refl _) _
  have ho := row_same hown (w' := w.alloc (.cells #[v1] 26)) fun p hp => hb.block p (hown.lt p hp).2
  have h := nput_any l v base w.heap.size (w.alloc (.cells #[v1] 26)) 26 [(v1, l1)] ho (by have := hb.size; omega) (heap_alloc_new w _) (fun e => by have := (hown.lt _ e).2; omega) (fun p hp => by
    simp at hp
    subst hp
    exact h1.grow hb) (by simpa [flat] using htot) (by simp)
  simp only [flat, List.flatMap_cons, List.flatMap_nil, List.append_nil, List.length_cons, List.length_nil, Nat.zero_add] at h
  refine h.mono ?_
  rintro e w' ⟨v', he, ho', hp⟩
  exact ⟨v', he, ho', Puts.after hb hp⟩
theorem put_two (l : List UInt8) (v : Value) (base : Nat) (w : World) (v1 v2 : Value) (l1 l2 : List UInt8) (hown : w.ownsRow base 5 1 v l.length (BS l)) (hbase : base ≤ w.heap.size) (h1 : BN w (fun b => v.ownBlock ≠ some b) v1 l1) (h2 : BN w (fun b => v.ownBlock ≠ some b) v2 l2) (htot : l.length + (l1.length + l2.length) ≤ 1000000000) :
    Calls Try.prog 31 #[v, .slice (some ⟨w.heap.size, 0, none⟩) 2 2] (w.alloc (.cells #[v1, v2] 26)) fun e w' => ∃ v', e = .returned v' ∧ w'.ownsRow base 5 1 v' (l ++ (l1 ++ l2)).length (BS (l ++ (l1 ++ l2))) ∧ Puts w w' v v' := by
  have hb : Below w.heap.size w (w.alloc (.cells #[v1, v2] 26)) := (Below.refl _ _).alloc (Nat.le_refl _) _
  have ho := row_same hown (w' := w.alloc (.cells #[v1, v2] 26)) fun p hp => hb.block p (hown.lt p hp).2
  have h := nput_any l v base w.heap.size (w.alloc (.cells #[v1, v2] 26)) 26 [(v1, l1), (v2, l2)] ho (by have := hb.size; omega) (heap_alloc_new w _) (fun e => by have := (hown.lt _ e).2; omega) (fun p hp => by
    simp at hp
    rcases hp with rfl | rfl
    · exact h1.grow hb
    · exact h2.grow hb) (by simpa [flat] using htot) (by simp)
  simp only [flat, List.flatMap_cons, List.flatMap_nil, List.append_nil, List.length_cons, List.length_nil, Nat.zero_add, Nat.reduceAdd] at h
  refine h.mono ?_
  rintro e w' ⟨v', he, ho', hp⟩
  exact ⟨v', he, ho', Puts.after hb hp⟩
end Go.Proofs.Ytedcknlafkokkaa
