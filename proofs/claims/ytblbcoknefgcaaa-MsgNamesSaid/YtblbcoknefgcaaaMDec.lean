/-
  The message of bytes: the program's. No statement is proved here. No condition.
-/
import Derived.Test.YtblbcoknefgcaaaMRdZ
import Derived.Test.YtblbcoknefgcaaaMLaw
import Derived.Laws.ResultCell
namespace Go.Proofs.Ytblbcoknefgcaaa
open Go.RowKit

theorem results_row_tmp {P : Program} {fn : Func} {p u : Tmp} {ty : TypeId} (h : fn.results = #[.cell p ty, .tmp u]) (tmps : Array Value) (w : World) (g : Nat) (t : TypeId) (cs : Array Value) (fr : Nat × Nat) (d : TypeDesc) (x : Value)
    (hp : tmps.getD p undef = .pointer (some ⟨g, 0, none⟩)) (hx : tmps.getD u undef = x) (hg : w.heap[g]? = some (.cells cs t fr))
    (hu : P.underlying ty = some d) (hd : (match d with | .struct _ | .array _ _ => true | _ => false) = true) (hi : (P.info? ty).map (·.size) = some cs.size) :
    (results fn tmps).run P w = .ok (.tuple #[.agg cs, x]) w := by
  rw [results_cell_tmp h, hp, hx]
  simp [asAddr, run_loadVar_row w g t ty cs fr d hg hu hd hi]
/-- a message of noughts -/
def zMG : MG := ⟨0, 0, 0, 0, 0, 0, 0, ⟨0, ⟨#[]⟩, ⟨#[]⟩, ⟨#[]⟩, false⟩, 0, ⟨0, false, ⟨#[]⟩⟩, 0, 0, 0, 0, 0, false, [], [], ⟨#[]⟩, 0, false, [], [], ⟨0, 0, 0, 0⟩⟩
theorem zC_is : zC = zMG.cells (.slice none 0 0) (.slice none 0 0) (.slice none 0 0) (.slice none 0 0) := rfl
theorem zC_one : zC.all (·.oneCell') = true := by rw [zC_is]; exact cells_one zMG none none none none 0 0 0 0 0 0 0 0
/-- what Decode answers -/
structure DecP (w w' : World) (l : List UInt8) (e : Ending) : Prop where
  bel : Below w.heap.size w w'
  long : 8192 < l.length → e = .returned (.tuple #[.agg zC, .int .i64 4])
  ex : l.length ≤ 8192 → ∃ m st', RdMsg (some l) m st' ∧ (¬ (st' = some [] ∧ kindB m.kind = true) → e = .returned (.tuple #[.agg zC, .int .i64 4]))
    ∧ (st' = some [] → kindB m.kind = true → ∃ vE vL vP vX, e = .returned (.tuple #[.agg (m.cells vE vL vP vX), .int .i64 0]) ∧ MsgO w' w.heap.size m vE vL vP vX)
theorem RdMsg.kind {st st' : RS} {m : MG} (h : RdMsg st m st') : 0 ≤ m.kind ∧ m.kind ≤ 255 := by
  obtain ⟨t0, t1, t2, t3, t4, t5, t6, t7, t8, t9, t10, t11, t12, t13, t14, t15, t16, t17, t18, t19, t20, t21, t22, t23, h0, -⟩ := h.ex
  have := rK_range st
  rw [h0] at this
  exact this
theorem set_msg {w w' : World} {b R : Nat} {m : MG} {vE vL vP vX : Value} {cs : Array Value} {T : TypeId} (hs : SetTo w w' b R 0 (m.cells vE vL vP vX).toList) (hc : w.heap[b]? = some (.cells cs T (0, 0))) (hsz : cs.size = 33) : w'.heap[b]? = some (.cells (m.cells vE vL vP vX) T (0, 0)) := by
  obtain ⟨c1, a1, a2, a3, a4⟩ := hs.blk cs T hc
  rw [a1]
  have e : c1 = m.cells vE vL vP vX := by
    apply Array.ext_getElem?
    intro j
    by_cases hj : j < 33
    · have h1 : (m.cells vE vL vP vX).toList[j]? = some ((m.cells vE vL vP vX).toList[j]'(by rw [Array.length_toList]; exact hj)) := List.getElem?_eq_getElem _
      have := a4 (by rw [Array.length_toList, hsz]; exact Nat.le_refl _) j _ h1
      rw [Nat.zero_add] at this
      rw [this, ← h1, Array.getElem?_toList]
    · rw [Array.getElem?_eq_none (by omega), Array.getElem?_eq_none (by show 33 ≤ j; omega)]
  rw [e]
set_option maxHeartbeats 8000000 in
set_option maxRecDepth 100000 in
theorem decode_any (l : List UInt8) (v : Value) (w : World) (h : Rd w w.heap.size v l) (hl : l.length ≤ 140737488355328) :
    Calls Try.prog 16 #[v] w fun e w' => DecP w w' l e := by
  obtain ⟨Av, cv', rfl, q1, q2, q3, q4⟩ := h
  have h : Rd w w.heap.size (.slice Av l.length cv') l := ⟨Av, cv', rfl, q1, q2, q3, q4⟩
  have hzz := zero_msg
  obtain ⟨Z, hZ⟩ : ∃ Z, Z = zC := ⟨_, rfl⟩
  rw [← hZ] at hzz
  have hZ33 : Z.size = 33 := by rw [hZ]; rfl
  have hZS : (Try.prog.info? 38).map (·.size) = some Z.size := by rw [hZ33]; exact msg_size
  have hZo : Z.all (·.oneCell') = true := by rw [hZ]; exact zC_one
  obtain ⟨a1, ha1⟩ : ∃ x, x = w.alloc (.cells Z 38) := ⟨_, rfl⟩
  have hba : Below w.heap.size w a1 := by rw [ha1]; exact (Below.refl _ _).alloc (Nat.le_refl _) _
  obtain ⟨p, hp⟩ : ∃ p, p = w.heap.size := ⟨_, rfl⟩
  have hpa : a1.heap[p]? = some (.cells Z 38 (0, 0)) := by rw [ha1, hp]; exact heap_alloc_new w _
  have HA := Lib.hid (And.intro ha1 hp)
  have HZ := Lib.hid hZ
  by_cases hlong : 8192 < l.length
  · have b1 : (l.length : Int) > 8192 := by omega
    have hset := setRow_heap a1 p Z Z _ _ hpa
    have HF : Hid (DecP w (a1.setRow p Z) l (.returned (.tuple #[.agg Z, .int .i64 4]))) := Lib.hid ⟨below_setRow hba (Nat.le_of_eq hp.symm) _, (fun _ => by rw [hZ]), fun h => by omega⟩
    clear h q1 q2 q3 q4 ha1 hba hp hZ hlong hl
    go_enter Try.func16, Try.ntmps16
    go_upto_region 1 with fail
    rw [← HA.out.1, ← HA.out.2]
    go_wp2_with (refine wpList_store_row rfl 38 (.tmp 2) (.tmp 9) rfl p Z rfl rfl 38 Z hpa hZS rfl hZo ?_)
    refine bodyPost_ret (v := .tuple #[.agg Z, .int .i64 4]) ?_ rfl HF.out
    exact results_row_tmp rfl _ _ p 38 Z (0, 0) _ _ rfl rfl hset Try.underlying38 rfl hZS
  have b1 : ¬ (l.length : Int) > 8192 := by omega
  have c1 := New_any l (.slice Av l.length cv') a1 (h.below hba hba.size) hl
  have HB := Lib.hid hba
  have hlen : l.length ≤ 8192 := by omega
  have HL := Lib.hid hlen
  clear h q1 q2 q3 q4 ha1 hba hp hZ hlong hl hlen
  go_enter Try.func16, Try.ntmps16
  go_upto_region 1 with fail
  rw [← HA.out.1, ← HA.out.2]
  go_wp2_with fail
  refine c1.mono ?_
  rintro e w2 ⟨R, rfl, hRw, hr, hb2⟩
  clear c1
  obtain ⟨a3, ha3⟩ : ∃ x, x = w2.alloc (.cells #[.pointer (some ⟨R, 0, none⟩)] 77) := ⟨_, rfl⟩
  have hb3 : Below w2.heap.size w2 a3 := by rw [ha3]; exact (Below.refl _ _).alloc (Nat.le_refl _) _
  obtain ⟨u, hu⟩ : ∃ u, u = w2.heap.size := ⟨_, rfl⟩
  have hu3 : a3.heap[u]? = some (.cells #[.pointer (some ⟨R, 0, none⟩)] 77 (0, 0)) := by rw [ha3, hu]; exact heap_alloc_new w2 _
  obtain ⟨a4, ha4⟩ : ∃ x, x = a3.alloc (.cells Z 38) := ⟨_, rfl⟩
  have hb4 : Below a3.heap.size a3 a4 := by rw [ha4]; exact (Below.refl _ _).alloc (Nat.le_refl _) _
  obtain ⟨b, hb⟩ : ∃ b, b = a3.heap.size := ⟨_, rfl⟩
  have hb4k : a4.heap[b]? = some (.cells Z 38 (0, 0)) := by rw [ha4, hb]; exact heap_alloc_new a3 _
  have hRl := hr.lt
  have s23 := hb3.size
  have hul := lt_of_heap hu3
  have hRb : R < b := by omega
  have hub : u < b := by omega
  have huR : u ≠ R := by omega
  have hpl := lt_of_heap hpa
  have hpb : p < b := by have := hb2.size; omega
  have hpR : p ≠ R := by omega
  have hr4 : Rdr 151 a4 R (some l) := (hr.grow hb3).grow hb4
  have hu4 : a4.heap[u]? = _ := (hb4.block u hul).trans hu3
  have hp4 : a4.heap[p]? = _ := (hb4.block p (by omega)).trans ((hb3.block p (by have := hb2.size; omega)).trans ((hb2.block p hpl).trans hpa))
  have hbel4 : Below w.heap.size w a4 := (HB.out.trans (Joins.below_le hb2 HB.out.size)).trans (Joins.below_le (hb3.trans (Joins.below_le hb4 hb3.size)) (by have := HB.out.size; have := hb2.size; omega))
  have hwb : w.heap.size ≤ b := by have := HB.out.size; have := hb2.size; omega
  have hwR : w.heap.size ≤ R := Nat.le_trans HB.out.size hRw
  have hwp : w.heap.size ≤ p := Nat.le_of_eq HA.out.2.symm
  have cM := r_message R b 0 (some l) a4 hr4 ⟨hRb, Z, _, hb4k, by omega⟩ (fun j v hv => by rw [Nat.zero_add, (blk_cells hb4k).1 j, HZ.out]; exact hv)
  have u4 := (blk_cells hu4).1 0
  have HX := Lib.hid (And.intro hb4k (And.intro hu4 (And.intro hp4 (And.intro hbel4 (And.intro hwb (And.intro hwR hwp))))))
  have HN := Lib.hid (And.intro hub (And.intro huR (And.intro hpb hpR)))
  have HW := Lib.hid (And.intro ha3 (And.intro hu (And.intro ha4 hb)))
  clear hRw hr hb2 ha3 hb3 hu hu3 ha4 hb4 hb hb4k hRl s23 hul hRb hub huR hpl hpb hpR hr4 hu4 hp4 hbel4 hwb hwR hwp hpa
  go_upto_region 4 with fail
  rw [← HW.out.1, ← HW.out.2.1]
  go_upto_region 5 with fail
  rw [← HW.out.2.2.1, ← HW.out.2.2.2]
  go_wp2_with fail
  refine cM.mono ?_
  intro e w5 hz
  obtain ⟨rfl, m, st', vE, vL, vP, vX, hrd, hto⟩ := hz.out
  clear cM hz u4
  obtain ⟨AE, cE, rfl, -, -⟩ := hto.own.n.e.slice
  obtain ⟨AL, cL, rfl, -, -⟩ := hto.own.n.l.slice
  obtain ⟨AP, cP, rfl, -, -⟩ := hto.own.n.p.slice
  obtain ⟨AX, cX, rfl, -, -⟩ := hto.own.n.x.slice
  obtain ⟨cm, hcm⟩ : ∃ cm, cm = m.cells (.slice AE m.entries.length cE) (.slice AL m.list.length cL) (.slice AP m.pairs.length cP) (.slice AX m.lasts.length cX) := ⟨_, rfl⟩
  have hb5 : w5.heap[b]? = some (.cells cm 38 (0, 0)) := by rw [hcm]; exact set_msg hto.sto.set HX.out.1 hZ33
  have hu5 := (hto.sto.set.block u (lt_of_heap HX.out.2.1) (by have := HN.out.1; omega) HN.out.2.1).trans HX.out.2.1
  have hp5 := (hto.sto.set.block p (lt_of_heap HX.out.2.2.1) (by have := HN.out.2.2.1; omega) HN.out.2.2.2).trans HX.out.2.2.1
  have hbel5 : Below w.heap.size w w5 := HX.out.2.2.2.1.trans ⟨hto.sto.set.os, hto.sto.set.tape, hto.sto.set.output, hto.sto.set.size, fun n hn => hto.sto.set.block n (Nat.lt_of_lt_of_le hn HX.out.2.2.2.1.size) (by have := HX.out.2.2.2.2.1; omega) (by have := HX.out.2.2.2.2.2.1; omega)⟩
  have hmo := hto.own
  have c6 := done_any R st' w5 hto.sto.rd
  have u5 := (blk_cells hu5).1 0
  have k5 : w5.cell? ⟨b, 0, none⟩ = some (.int .u8 m.kind) := by rw [(blk_cells hb5).1 0, hcm]; rfl
  have hkr := hrd.kind
  have HM := Lib.hid (And.intro hrd (And.intro hmo (And.intro hcm (And.intro hb5 (And.intro hp5 hbel5)))))
  have cK := iskind_any m.kind hkr w5
  obtain ⟨dn, hdn⟩ : ∃ dn, dn = (st' == some ([] : List UInt8)) := ⟨_, rfl⟩
  obtain ⟨kb, hkb⟩ : ∃ kb, kb = kindB m.kind := ⟨_, rfl⟩
  rw [← hdn] at c6
  rw [← hkb] at cK
  have HQ := Lib.hid (And.intro hdn hkb)
  have hset := setRow_heap w5 p Z Z _ _ hp5
  have hno : Hid (¬ (dn = true ∧ kb = true) → DecP w (w5.setRow p Z) l (.returned (.tuple #[.agg Z, .int .i64 4]))) := Lib.hid fun hn => by
    refine ⟨below_setRow HM.out.2.2.2.2.2 HX.out.2.2.2.2.2.2 _, (fun h => by have := HL.out; omega), fun _ => ⟨m, st', HM.out.1, fun _ => by rw [HZ.out], fun h1 h2 => ?_⟩⟩
    exact absurd ⟨by rw [HQ.out.1, h1]; rfl, by rw [HQ.out.2, h2]⟩ hn
  clear hto hrd hcm hu5 hbel5 hmo hkr hdn hkb hb5
  cases dn with
  | false =>
    have HF := Lib.hid (hno.out (by simp))
    clear hno cK k5
    go_wp2_with fail
    refine c6.mono ?_
    rintro e w6 ⟨rfl, rfl⟩
    clear c6
    go_wp2_with (refine wpList_store_row rfl 38 (.tmp 2) (.tmp 26) rfl p Z rfl rfl 38 Z hp5 hZS rfl hZo ?_)
    refine bodyPost_ret (v := .tuple #[.agg Z, .int .i64 4]) ?_ rfl HF.out
    exact results_row_tmp rfl _ _ p 38 Z (0, 0) _ _ rfl rfl hset Try.underlying38 rfl hZS
  | true =>
    cases kb with
    | false =>
      have HF := Lib.hid (hno.out (by simp))
      clear hno
      go_wp2_with fail
      refine c6.mono ?_
      rintro e w6 ⟨rfl, rfl⟩
      clear c6
      go_wp2_with fail
      refine cK.mono ?_
      rintro e w6 ⟨rfl, rfl⟩
      clear cK
      go_wp2_with (refine wpList_store_row rfl 38 (.tmp 2) (.tmp 26) rfl p Z rfl rfl 38 Z hp5 hZS rfl hZo ?_)
      refine bodyPost_ret (v := .tuple #[.agg Z, .int .i64 4]) ?_ rfl HF.out
      exact results_row_tmp rfl _ _ p 38 Z (0, 0) _ _ rfl rfl hset Try.underlying38 rfl hZS
    | true =>
      have hcm33 : cm.size = 33 := by rw [HM.out.2.2.1]; rfl
      have hcmS : (Try.prog.info? 38).map (·.size) = some cm.size := by rw [hcm33]; exact msg_size
      have hcmo : cm.all (·.oneCell') = true := by rw [HM.out.2.2.1]; exact cells_one _ _ _ _ _ _ _ _ _ _ _ _ _
      have hZc : Z.size = cm.size := by rw [hZ33, hcm33]
      have hb5 := HM.out.2.2.2.1
      have hset2 := setRow_heap w5 p Z cm _ _ hp5
      have hfar : ∀ n, n ≠ p → (w5.setRow p cm).heap[n]? = w5.heap[n]? := fun n hn => setRow_other w5 p n _ hn
      have HF : Hid (DecP w (w5.setRow p cm) l (.returned (.tuple #[.agg cm, .int .i64 0]))) := Lib.hid (by
        refine ⟨below_setRow HM.out.2.2.2.2.2 HX.out.2.2.2.2.2.2 _, (fun h => by have := HL.out; omega), fun _ => ⟨m, st', HM.out.1, fun hn => ?_, fun _ _ => ⟨_, _, _, _, by rw [HM.out.2.2.1], ?_⟩⟩⟩
        · refine absurd ⟨?_, HQ.out.2.symm⟩ hn
          exact eq_of_beq HQ.out.1.symm
        · obtain ⟨rs, he⟩ := HM.out.2.1.e
          have hbase : w.heap.size ≤ a4.heap.size := HX.out.2.2.2.1.size
          refine ⟨⟨rs, ?_⟩, ?_, ?_, ?_⟩
          · exact (ent_base he hbase).set hp5 hfar
          · exact own_set (own_base HM.out.2.1.l hbase) hp5 (by decide) hfar
          · exact own_set (own_base HM.out.2.1.p hbase) hp5 (by decide) hfar
          · exact own_set (own_base HM.out.2.1.x hbase) hp5 (by decide) hfar)
      clear hno hfar
      go_wp2_with fail
      refine c6.mono ?_
      rintro e w6 ⟨rfl, rfl⟩
      clear c6
      go_wp2_with fail
      refine cK.mono ?_
      rintro e w6 ⟨rfl, rfl⟩
      clear cK
      go_wp2_with (first
        | (refine wpList_load_row rfl 38 (.tmp 5) rfl b rfl 38 cm (0, 0) _ hb5 Try.underlying38 rfl hcmS ?_)
        | (refine wpList_store_row rfl 38 (.tmp 2) (.tmp 27) rfl p cm rfl rfl 38 Z hp5 hcmS hZc hcmo ?_))
      refine bodyPost_ret (v := .tuple #[.agg cm, .int .i64 0]) ?_ rfl HF.out
      exact results_row_tmp rfl _ _ p 38 cm (0, 0) _ _ rfl rfl hset2 Try.underlying38 rfl hcmS
end Go.Proofs.Ytblbcoknefgcaaa
