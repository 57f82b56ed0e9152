/-
  The program's calls: New, Ask, Look, Tell. No statement is proved here. No condition.
-/
import Derived.Test.YtclfhidapkoiiabUCalls
namespace Go.Proofs.Ytclfhidapkoiiab
open Go.RowKit Go.Maps

set_option maxRecDepth 100000 in
theorem pnew_yes (life : Int) (w : World) (h1 : 1 ≤ life) (h2 : life ≤ 2047) :
    Calls Try.prog 4 #[.int .i64 life] w fun e w' => e = .returned (.tuple #[.pointer (some ⟨w.heap.size + 1, 0, none⟩), .int .i64 0]) ∧ SC w' (w.heap.size + 1) w.heap.size life 0 [] ∧ Below w.heap.size w w' := by
  have hz := zero_calls
  have hmm := run_makeMap (P := Try.prog) 54 w
  have a1 : ¬ life < 1 := by omega
  have a2 : ¬ (2047 : Int) < life := by omega
  have hb : Below w.heap.size w ((w.alloc (.map #[] 0)).alloc (.cells #[.int .i64 life, .int .i64 0, .map (some w.heap.size)] 56)) := ((Below.refl _ _).alloc (Nat.le_refl _) _).alloc (by simp) _
  have hx : ((w.alloc (.map #[] 0)).alloc (.cells #[.int .i64 life, .int .i64 0, .map (some w.heap.size)] 56)).heap[w.heap.size + 1]? = some (.cells #[.int .i64 life, .int .i64 0, .map (some w.heap.size)] 56 (0, 0)) := by
    simpa using heap_alloc_new (w.alloc (.map #[] 0)) (.cells #[.int .i64 life, .int .i64 0, .map (some w.heap.size)] 56)
  have hm : MapI ptrK ((w.alloc (.map #[] 0)).alloc (.cells #[.int .i64 life, .int .i64 0, .map (some w.heap.size)] 56)) w.heap.size 0 [] := (MapI.made w).same (Below.heap_alloc _ _ _ (by simp))
  have hs : SC ((w.alloc (.map #[] 0)).alloc (.cells #[.int .i64 life, .int .i64 0, .map (some w.heap.size)] 56)) (w.heap.size + 1) w.heap.size life 0 [] :=
    ⟨hx, hm, by simp, by simp, by simp, by simp, ⟨h1, h2⟩, by omega, by simp⟩
  have HS := Lib.hid hs
  have HB := Lib.hid hb
  clear hs hb hx hm h1 h2
  go_enter Try.func4, Try.ntmps4
  go_wp2_with fail
  go_ret2
  exact ⟨rfl, HS.out, HB.out⟩
set_option maxRecDepth 100000 in
theorem pnew_no (life : Int) (w : World) (h : life < 1 ∨ 2047 < life) :
    Calls Try.prog 4 #[.int .i64 life] w fun e w' => e = .returned (.tuple #[.pointer none, .int .i64 1]) ∧ w' = w := by
  by_cases h1 : life < 1
  · clear h
    go_enter Try.func4, Try.ntmps4
    go_wp2_with fail
    go_ret2
    exact ⟨rfl, rfl⟩
  · have h2 : (2047 : Int) < life := by omega
    clear h
    go_enter Try.func4, Try.ntmps4
    go_wp2_with fail
    go_ret2
    exact ⟨rfl, rfl⟩
section
variable {w : World} {p b : Nat} {life given : Int} {M : List (Nat × WT)}
/-- one wait more -/
theorem SC.push {w' : World} (h : SC w p b life given M) {q : Nat} {x : WT} (hx : x.req = life * 1048576 + given + 1) (hg : given < 1048575) (hf : M.length < 64) (hq : w.heap.size ≤ q) (ho : w'.heap[p]? = some (.cells #[.int .i64 life, .int .i64 (given + 1), .map (some b)] 56 (0, 0)))
    (hm : MapI ptrK w' b (given.toNat + 1) (iput (pairsOf M) x.req (some q))) (hw : w'.heap[q]? = some (.cells x.cells 37 (0, 0))) (hk : ∀ n, n < w.heap.size → n ≠ p → n ≠ b → w'.heap[n]? = w.heap[n]?) : SC w' p b life (given + 1) (M ++ [(q, x)]) := by
  have hnf : ifind (pairsOf M) x.req = none := h.find_not fun m hm' => by have := h.num m hm'; omega
  have e : iput (pairsOf M) x.req (some q) = pairsOf (M ++ [(q, x)]) := by
    unfold iput
    rw [hnf]
    simp [pairsOf]
  have eg : given.toNat + 1 = (given + 1).toNat := by have := h.giv; omega
  rw [e, eg] at hm
  refine ⟨ho, hm, fun m hm' => ?_, ?_, ?_, fun m hm' => ?_, h.lif, by have := h.giv; omega, by simp; omega⟩
  · rcases List.mem_append.1 hm' with hm' | hm'
    · exact (hk m.1 (h.ltm hm') (h.mp hm') (h.mb hm')).trans (h.here m hm')
    · rw [List.mem_singleton.1 hm']; exact hw
  · rw [List.map_append, List.nodup_append]
    refine ⟨h.nod, by simp, fun a ha c hc => ?_⟩
    obtain ⟨m, hm', rfl⟩ := List.mem_map.1 ha
    have := h.ltm hm'
    simp at hc
    omega
  · rw [List.map_append, List.pairwise_append]
    refine ⟨h.rise, by simp, fun a ha c hc => ?_⟩
    obtain ⟨m, hm', rfl⟩ := List.mem_map.1 ha
    have := h.num m hm'
    simp at hc
    rw [hc]
    omega
  · rcases List.mem_append.1 hm' with hm' | hm'
    · have := h.num m hm'; omega
    · rw [List.mem_singleton.1 hm']
      show life * 1048576 < x.req ∧ x.req ≤ life * 1048576 + (given + 1)
      have := h.giv
      omega
set_option maxHeartbeats 1000000 in
set_option maxRecDepth 100000 in
theorem pask_yes (h : SC w p b life given M) (key : ByteArray) (client id now : Int) (hn : 0 ≤ now) (hf : M.length < 64) (hg : given < 1048575) :
    Calls Try.prog 6 #[.pointer (some ⟨p, 0, none⟩), .string key, .int .i64 client, .int .i64 id, .int .i64 now] w fun e w' => e = .returned (.tuple #[.int .i64 (life * 1048576 + given + 1), .int .i64 0]) ∧ ∃ q, w.heap.size ≤ q ∧ SC w' p b life (given + 1) (M ++ [(q, ⟨life * 1048576 + given + 1, key, client, id, now, now, false⟩)]) ∧ Kept w w' (fun n => n = p ∨ n = b) := by
  have hz := zero_wt
  have hnm : (binOp .eql 54 (.map (some b)) (.map none)).run Try.prog w = .ok (.bool false) w := run_eql_map_nil (P := Try.prog) w 54 3 57 (some b) Try.underlying54
  have hlf := h.lif
  have hgv := h.giv
  have a1 : ¬ now < 0 := by omega
  have a2 : ¬ (64 : Int) ≤ (M.length : Int) := by omega
  have a3 : ¬ (1048575 : Int) ≤ given := by omega
  have b1 : wrap64 (given + 1) = given + 1 := by unfold wrap64; omega
  have b2 : IntKind.i64.wrap (given + 1) = given + 1 := by rw [IntKind.wrap_i64]; omega
  have b3 : wrap64 (life * 1048576) = life * 1048576 := by unfold wrap64; omega
  have b4 : IntKind.i64.wrap (life * 1048576) = life * 1048576 := by rw [IntKind.wrap_i64]; omega
  have b5 : wrap64 (life * 1048576 + (given + 1)) = life * 1048576 + given + 1 := by unfold wrap64; omega
  have b6 : IntKind.i64.wrap (life * 1048576 + (given + 1)) = life * 1048576 + given + 1 := by rw [IntKind.wrap_i64]; omega
  have hlen := h.map.len 3
  rw [pairs_length] at hlen
  have hlen : (Builtin.len_ #[54] 3 #[.map (some b)]).run Try.prog w = .ok (.int .i64 (M.length : Int)) w := hlen
  obtain ⟨c0, c1, c2⟩ : w.cell? ⟨p, 0, none⟩ = some (.int .i64 life) ∧ w.cell? ⟨p, 1, none⟩ = some (.int .i64 given) ∧ w.cell? ⟨p, 2, none⟩ = some (.map (some b)) := ⟨(blk_cells h.obj).1 0, (blk_cells h.obj).1 1, (blk_cells h.obj).1 2⟩
  have f1 : w.frozen? ⟨p, 1, none⟩ = false := (blk_cells h.obj).2 1
  obtain ⟨w1, hw1⟩ : ∃ w1, w1 = w.setCell ⟨p, 1, none⟩ (.int .i64 (given + 1)) := ⟨_, rfl⟩
  have ho1 : w1.heap[p]? = some (.cells #[.int .i64 life, .int .i64 (given + 1), .map (some b)] 56 (0, 0)) := by
    rw [hw1, Joins.block_setCell h.obj _]
    rfl
  have hk1 : ∀ n, n ≠ p → w1.heap[n]? = w.heap[n]? := fun n hn => by rw [hw1]; exact set_far hn
  have hs1 : w1.heap.size = w.heap.size := by rw [hw1]; simp [World.setCell]
  have hK1 : Kept w w1 (fun n => n = p ∨ n = b) := by rw [hw1]; exact Kept.setCell _ _ _ _ (.inl rfl)
  obtain ⟨d0, d1, d2⟩ : w1.cell? ⟨p, 0, none⟩ = some (.int .i64 life) ∧ w1.cell? ⟨p, 1, none⟩ = some (.int .i64 (given + 1)) ∧ w1.cell? ⟨p, 2, none⟩ = some (.map (some b)) := ⟨(blk_cells ho1).1 0, (blk_cells ho1).1 1, (blk_cells ho1).1 2⟩
  have H := Lib.hid h
  have HW1 := Lib.hid hw1
  have HO1 := Lib.hid ho1
  have HKK := Lib.hid hk1
  have HS1 := Lib.hid hs1
  have HK1 := Lib.hid hK1
  have HG := Lib.hid hg
  have HF := Lib.hid hf
  clear h hw1 ho1 hk1 hs1 hK1 hg hf hlf hgv
  go_enter Try.func6, Try.ntmps6
  go_upto_region 12 with fail
  rw [← HW1.out]
  go_quiet (fail)
  obtain ⟨w2, hw2⟩ : ∃ w2, w2 = w1.drewN nq := ⟨_, rfl⟩
  rw [← hw2]
  obtain ⟨w3, hw3⟩ : ∃ w3, w3 = w2.alloc (.cells #[.int .i64 (life * 1048576 + given + 1), .string key, .int .i64 client, .int .i64 id, .int .i64 now, .int .i64 now, .bool false] 37) := ⟨_, rfl⟩
  have hce : ∀ r, w2.cell? r = w1.cell? r := fun r => by rw [hw2]; rfl
  rw [← hce] at d0 d1 d2
  have hh2 : w2.heap = w1.heap := by rw [hw2]; rfl
  have hsz2 : w2.heap.size = w.heap.size := by rw [hh2]; exact HS1.out
  have hx3 : w3.heap[w.heap.size]? = some (.cells (⟨life * 1048576 + given + 1, key, client, id, now, now, false⟩ : WT).cells 37 (0, 0)) := by rw [hw3, ← hsz2]; exact heap_alloc_new w2 _
  have hlow3 : ∀ n, n < w.heap.size → w3.heap[n]? = w1.heap[n]? := fun n hn => by rw [hw3]; exact (Below.heap_alloc _ _ _ (by omega)).trans (by rw [hh2])
  have hpb := H.out.pb
  have hm3 : MapI ptrK w3 b given.toNat (pairsOf M) := H.out.map.same ((hlow3 b H.out.ltb).trans (HKK.out b hpb.symm))
  have hwf : I6 (life * 1048576 + given + 1) := i6_of (by have := H.out.lif; have := H.out.giv; omega) (by have := H.out.lif; have := H.out.giv; omega)
  obtain ⟨w4, hput, hm4, ht⟩ := hm3.put hwf (by have := H.out.giv; unfold maxLen; omega) (some w.heap.size)
  have hg4 := ht.grown
  have hk4 : ∀ n, n < w3.heap.size → n ≠ b → w4.heap[n]? = w3.heap[n]? := fun n hn hne => hg4.block n hn (fun e => hne (by injection e))
  have hs3 : w3.heap.size = w.heap.size + 1 := by rw [hw3]; simp [hsz2]
  have hlb := H.out.ltb
  have hlp := H.out.ltp
  have hSC : SC w4 p b life (given + 1) (M ++ [(w.heap.size, ⟨life * 1048576 + given + 1, key, client, id, now, now, false⟩)]) :=
    H.out.push rfl HG.out HF.out (Nat.le_refl _) ((hk4 p (by omega) hpb).trans ((hlow3 p hlp).trans HO1.out)) hm4 ((hk4 w.heap.size (by omega) (by omega)).trans hx3) fun n hn hp hb => (hk4 n (by omega) hb).trans ((hlow3 n hn).trans (HKK.out n hp))
  have hKf : Kept w w4 (fun n => n = p ∨ n = b) := ((HK1.out.trans (by rw [hw2]; exact Kept.drewN w1 nq _ : Kept w1 w2 (fun n => n = p ∨ n = b)) fun n hn => .inl hn).trans (by rw [hw3]; exact Kept.alloc w2 _ _ : Kept w2 w3 (fun n => n = p ∨ n = b)) fun n hn => .inl hn).trans (Kept.grown hg4 fun g hg => by injection hg with hg; exact .inr hg.symm) fun n hn => .inl hn
  have HSC := Lib.hid hSC
  have HKF := Lib.hid hKf
  have hput : (Instr.mapUpdate 54 (.map (some b)) (.int .i64 (life * 1048576 + given + 1)) (.pointer (some ⟨w2.heap.size, 0, none⟩))).run Try.prog w3 = .ok () w4 := by rw [hsz2]; exact hput
  rw [hw3] at hput
  clear hSC hKf hg4 hk4 ht hm4 hm3 hlow3 hx3 hce hh2 hw2 hw3 c0 c1 c2 f1 hlen hs3 hlb hlp hpb hwf hsz2
  go_wp2_with fail
  go_ret2
  exact ⟨rfl, w.heap.size, Nat.le_refl _, HSC.out, HKF.out⟩
set_option maxRecDepth 100000 in
theorem pask_no (h : SC w p b life given M) (key : ByteArray) (client id now : Int) (hn : now < 0 ∨ 64 ≤ M.length ∨ 1048575 ≤ given) :
    Calls Try.prog 6 #[.pointer (some ⟨p, 0, none⟩), .string key, .int .i64 client, .int .i64 id, .int .i64 now] w fun e w' => e = .returned (.tuple #[.int .i64 0, .int .i64 (if now < 0 then 1 else if 64 ≤ M.length then 3 else 70)]) ∧ w' = w := by
  have hlen := h.map.len 3
  rw [pairs_length] at hlen
  have hlen : (Builtin.len_ #[54] 3 #[.map (some b)]).run Try.prog w = .ok (.int .i64 (M.length : Int)) w := hlen
  obtain ⟨c0, c1, c2⟩ : w.cell? ⟨p, 0, none⟩ = some (.int .i64 life) ∧ w.cell? ⟨p, 1, none⟩ = some (.int .i64 given) ∧ w.cell? ⟨p, 2, none⟩ = some (.map (some b)) := ⟨(blk_cells h.obj).1 0, (blk_cells h.obj).1 1, (blk_cells h.obj).1 2⟩
  clear h
  by_cases h1 : now < 0
  · rw [if_pos h1]
    clear hn
    go_enter Try.func6, Try.ntmps6
    go_wp2_with fail
    go_ret2
    exact ⟨rfl, rfl⟩
  · rw [if_neg h1]
    by_cases h2 : 64 ≤ M.length
    · rw [if_pos h2]
      have h3 : (64 : Int) ≤ (M.length : Int) := by omega
      clear hn
      go_enter Try.func6, Try.ntmps6
      go_wp2_with fail
      go_ret2
      exact ⟨rfl, rfl⟩
    · rw [if_neg h2]
      have h3 : ¬ (64 : Int) ≤ (M.length : Int) := by omega
      have h4 : (1048575 : Int) ≤ given := by omega
      clear hn
      go_enter Try.func6, Try.ntmps6
      go_wp2_with fail
      go_ret2
      exact ⟨rfl, rfl⟩
set_option maxHeartbeats 1000000 in
set_option maxRecDepth 100000 in
theorem plook_yes (h : SC w p b life given M) {q : Nat} {x : WT} (hm : (q, x) ∈ M) :
    Calls Try.prog 10 #[.pointer (some ⟨p, 0, none⟩), .int .i64 x.req] w fun e w' => e = .returned (.tuple #[x.agg, .bool true]) ∧ Below w.heap.size w w' := by
  have hz := zero_wt
  obtain ⟨z, hzz⟩ : ∃ z, z = w.heap.size := ⟨_, rfl⟩
  obtain ⟨w1, hw1⟩ : ∃ w1, w1 = w.alloc (.cells #[.int .i64 0, .string ⟨#[]⟩, .int .i64 0, .int .i64 0, .int .i64 0, .int .i64 0, .bool false] 37) := ⟨_, rfl⟩
  have hb1 : Below z w w1 := by rw [hw1, hzz]; exact (Below.refl _ _).alloc (Nat.le_refl _) _
  have hx1 : w1.heap[z]? = some (.cells #[.int .i64 0, .string ⟨#[]⟩, .int .i64 0, .int .i64 0, .int .i64 0, .int .i64 0, .bool false] 37 (0, 0)) := by rw [hw1, hzz]; exact heap_alloc_new w _
  have h1 := h.below (by rw [← hzz]; exact hb1)
  obtain ⟨r0, r1, r2, r3, r4, r5, r6⟩ : w1.cell? ⟨z, 0, none⟩ = some (.int .i64 0) ∧ w1.cell? ⟨z, 1, none⟩ = some (.string ⟨#[]⟩) ∧ w1.cell? ⟨z, 2, none⟩ = some (.int .i64 0) ∧ w1.cell? ⟨z, 3, none⟩ = some (.int .i64 0) ∧ w1.cell? ⟨z, 4, none⟩ = some (.int .i64 0) ∧ w1.cell? ⟨z, 5, none⟩ = some (.int .i64 0) ∧ w1.cell? ⟨z, 6, none⟩ = some (.bool false) := ⟨(blk_cells hx1).1 0, (blk_cells hx1).1 1, (blk_cells hx1).1 2, (blk_cells hx1).1 3, (blk_cells hx1).1 4, (blk_cells hx1).1 5, (blk_cells hx1).1 6⟩
  obtain ⟨g0, g1, g2, g3, g4, g5, g6⟩ : w1.frozen? ⟨z, 0, none⟩ = false ∧ w1.frozen? ⟨z, 1, none⟩ = false ∧ w1.frozen? ⟨z, 2, none⟩ = false ∧ w1.frozen? ⟨z, 3, none⟩ = false ∧ w1.frozen? ⟨z, 4, none⟩ = false ∧ w1.frozen? ⟨z, 5, none⟩ = false ∧ w1.frozen? ⟨z, 6, none⟩ = false := ⟨(blk_cells hx1).2 0, (blk_cells hx1).2 1, (blk_cells hx1).2 2, (blk_cells hx1).2 3, (blk_cells hx1).2 4, (blk_cells hx1).2 5, (blk_cells hx1).2 6⟩
  have c2 : w1.cell? ⟨p, 2, none⟩ = some (.map (some b)) := (blk_cells h1.obj).1 2
  have hlook := h1.map.look (h1.wf hm)
  rw [h1.find hm] at hlook
  have hlook : (Instr.lookup 54 (.map (some b)) (.int .i64 x.req) false).run Try.prog w1 = .ok (.pointer (some ⟨q, 0, none⟩)) w1 := hlook
  obtain ⟨⟨y0, y1, y2, y3⟩, y4, y5, y6⟩ := at_cells (h1.here _ hm)
  obtain ⟨wf, hwf⟩ : ∃ wf, wf = ((((((w1.setCell ⟨z, 0, none⟩ (.int .i64 x.req)).setCell ⟨z, 1, none⟩ (.string x.key)).setCell ⟨z, 2, none⟩ (.int .i64 x.client)).setCell ⟨z, 3, none⟩ (.int .i64 x.id)).setCell ⟨z, 4, none⟩ (.int .i64 x.first)).setCell ⟨z, 5, none⟩ (.int .i64 x.last)).setCell ⟨z, 6, none⟩ (.bool x.marked) := ⟨_, rfl⟩
  have hxf : wf.heap[z]? = some (.cells #[.int .i64 x.req, .string x.key, .int .i64 x.client, .int .i64 x.id, .int .i64 x.first, .int .i64 x.last, .bool x.marked] 37 (0, 0)) := by
    rw [hwf, Joins.block_setCell (Joins.block_setCell (Joins.block_setCell (Joins.block_setCell (Joins.block_setCell (Joins.block_setCell (Joins.block_setCell hx1 _) _) _) _) _) _) _]
    simp
  obtain ⟨u0, u1, u2, u3, u4, u5, u6⟩ : wf.cell? ⟨z, 0, none⟩ = some (.int .i64 x.req) ∧ wf.cell? ⟨z, 1, none⟩ = some (.string x.key) ∧ wf.cell? ⟨z, 2, none⟩ = some (.int .i64 x.client) ∧ wf.cell? ⟨z, 3, none⟩ = some (.int .i64 x.id) ∧ wf.cell? ⟨z, 4, none⟩ = some (.int .i64 x.first) ∧ wf.cell? ⟨z, 5, none⟩ = some (.int .i64 x.last) ∧ wf.cell? ⟨z, 6, none⟩ = some (.bool x.marked) := ⟨(blk_cells hxf).1 0, (blk_cells hxf).1 1, (blk_cells hxf).1 2, (blk_cells hxf).1 3, (blk_cells hxf).1 4, (blk_cells hxf).1 5, (blk_cells hxf).1 6⟩
  have hbf : Below z w wf := by rw [hwf]; exact Below.setCell (p := ⟨z, 6, none⟩) (Below.setCell (p := ⟨z, 5, none⟩) (Below.setCell (p := ⟨z, 4, none⟩) (Below.setCell (p := ⟨z, 3, none⟩) (Below.setCell (p := ⟨z, 2, none⟩) (Below.setCell (p := ⟨z, 1, none⟩) (Below.setCell (p := ⟨z, 0, none⟩) hb1 (Nat.le_refl _) _) (Nat.le_refl _) _) (Nat.le_refl _) _) (Nat.le_refl _) _) (Nat.le_refl _) _) (Nat.le_refl _) _) (Nat.le_refl _) _
  have HBF := Lib.hid hbf
  have HW1 := Lib.hid hw1
  have HWF := Lib.hid hwf
  have HZ := Lib.hid hzz
  clear h h1 hw1 hb1 hx1 hwf hxf hbf
  go_enter Try.func10, Try.ntmps10
  go_upto_region 1 with fail
  rw [← HW1.out, ← HZ.out]
  clear hzz
  go_wp2_with fail
  rw [← HWF.out]
  refine bodyPost_ret (v := .tuple #[x.agg, .bool true]) (by clear r0 r1 r2 r3 r4 r5 r6 g0 g1 g2 g3 g4 g5 g6 y0 y1 y2 y3 y4 y5 y6 hlook c2; unfold WT.agg; rw [results_ct rfl]; go_simp; try rfl) rfl ?_
  exact ⟨rfl, by rw [← HZ.out]; exact HBF.out⟩
set_option maxHeartbeats 1000000 in
set_option maxRecDepth 100000 in
theorem plook_no (h : SC w p b life given M) (r : Int) (hr : ∀ m ∈ M, m.2.req ≠ r) (hi : I6 r) :
    Calls Try.prog 10 #[.pointer (some ⟨p, 0, none⟩), .int .i64 r] w fun e w' => e = .returned (.tuple #[zW.agg, .bool false]) ∧ Below w.heap.size w w' := by
  have hz := zero_wt
  obtain ⟨z, hzz⟩ : ∃ z, z = w.heap.size := ⟨_, rfl⟩
  obtain ⟨w1, hw1⟩ : ∃ w1, w1 = w.alloc (.cells #[.int .i64 0, .string ⟨#[]⟩, .int .i64 0, .int .i64 0, .int .i64 0, .int .i64 0, .bool false] 37) := ⟨_, rfl⟩
  have hb1 : Below z w w1 := by rw [hw1, hzz]; exact (Below.refl _ _).alloc (Nat.le_refl _) _
  have hx1 : w1.heap[z]? = some (.cells #[.int .i64 0, .string ⟨#[]⟩, .int .i64 0, .int .i64 0, .int .i64 0, .int .i64 0, .bool false] 37 (0, 0)) := by rw [hw1, hzz]; exact heap_alloc_new w _
  have h1 := h.below (by rw [← hzz]; exact hb1)
  obtain ⟨r0, r1, r2, r3, r4, r5, r6⟩ : w1.cell? ⟨z, 0, none⟩ = some (.int .i64 0) ∧ w1.cell? ⟨z, 1, none⟩ = some (.string ⟨#[]⟩) ∧ w1.cell? ⟨z, 2, none⟩ = some (.int .i64 0) ∧ w1.cell? ⟨z, 3, none⟩ = some (.int .i64 0) ∧ w1.cell? ⟨z, 4, none⟩ = some (.int .i64 0) ∧ w1.cell? ⟨z, 5, none⟩ = some (.int .i64 0) ∧ w1.cell? ⟨z, 6, none⟩ = some (.bool false) := ⟨(blk_cells hx1).1 0, (blk_cells hx1).1 1, (blk_cells hx1).1 2, (blk_cells hx1).1 3, (blk_cells hx1).1 4, (blk_cells hx1).1 5, (blk_cells hx1).1 6⟩
  obtain ⟨g0, g1, g2, g3, g4, g5, g6⟩ : w1.frozen? ⟨z, 0, none⟩ = false ∧ w1.frozen? ⟨z, 1, none⟩ = false ∧ w1.frozen? ⟨z, 2, none⟩ = false ∧ w1.frozen? ⟨z, 3, none⟩ = false ∧ w1.frozen? ⟨z, 4, none⟩ = false ∧ w1.frozen? ⟨z, 5, none⟩ = false ∧ w1.frozen? ⟨z, 6, none⟩ = false := ⟨(blk_cells hx1).2 0, (blk_cells hx1).2 1, (blk_cells hx1).2 2, (blk_cells hx1).2 3, (blk_cells hx1).2 4, (blk_cells hx1).2 5, (blk_cells hx1).2 6⟩
  have c2 : w1.cell? ⟨p, 2, none⟩ = some (.map (some b)) := (blk_cells h1.obj).1 2
  have hlook := h1.map.look hi
  rw [h1.find_not hr] at hlook
  have hlook : (Instr.lookup 54 (.map (some b)) (.int .i64 r) false).run Try.prog w1 = .ok (.pointer none) w1 := hlook
  obtain ⟨wf, hwf⟩ : ∃ wf, wf = ((((((w1.setCell ⟨z, 0, none⟩ (.int .i64 0)).setCell ⟨z, 1, none⟩ (.string ⟨#[]⟩)).setCell ⟨z, 2, none⟩ (.int .i64 0)).setCell ⟨z, 3, none⟩ (.int .i64 0)).setCell ⟨z, 4, none⟩ (.int .i64 0)).setCell ⟨z, 5, none⟩ (.int .i64 0)).setCell ⟨z, 6, none⟩ (.bool false) := ⟨_, rfl⟩
  have hxf : wf.heap[z]? = some (.cells #[.int .i64 0, .string ⟨#[]⟩, .int .i64 0, .int .i64 0, .int .i64 0, .int .i64 0, .bool false] 37 (0, 0)) := by
    rw [hwf, Joins.block_setCell (Joins.block_setCell (Joins.block_setCell (Joins.block_setCell (Joins.block_setCell (Joins.block_setCell (Joins.block_setCell hx1 _) _) _) _) _) _) _]
    simp
  obtain ⟨u0, u1, u2, u3, u4, u5, u6⟩ : wf.cell? ⟨z, 0, none⟩ = some (.int .i64 0) ∧ wf.cell? ⟨z, 1, none⟩ = some (.string ⟨#[]⟩) ∧ wf.cell? ⟨z, 2, none⟩ = some (.int .i64 0) ∧ wf.cell? ⟨z, 3, none⟩ = some (.int .i64 0) ∧ wf.cell? ⟨z, 4, none⟩ = some (.int .i64 0) ∧ wf.cell? ⟨z, 5, none⟩ = some (.int .i64 0) ∧ wf.cell? ⟨z, 6, none⟩ = some (.bool false) := ⟨(blk_cells hxf).1 0, (blk_cells hxf).1 1, (blk_cells hxf).1 2, (blk_cells hxf).1 3, (blk_cells hxf).1 4, (blk_cells hxf).1 5, (blk_cells hxf).1 6⟩
  have hbf : Below z w wf := by rw [hwf]; exact Below.setCell (p := ⟨z, 6, none⟩) (Below.setCell (p := ⟨z, 5, none⟩) (Below.setCell (p := ⟨z, 4, none⟩) (Below.setCell (p := ⟨z, 3, none⟩) (Below.setCell (p := ⟨z, 2, none⟩) (Below.setCell (p := ⟨z, 1, none⟩) (Below.setCell (p := ⟨z, 0, none⟩) hb1 (Nat.le_refl _) _) (Nat.le_refl _) _) (Nat.le_refl _) _) (Nat.le_refl _) _) (Nat.le_refl _) _) (Nat.le_refl _) _) (Nat.le_refl _) _
  have HBF := Lib.hid hbf
  have HW1 := Lib.hid hw1
  have HWF := Lib.hid hwf
  have HZ := Lib.hid hzz
  clear h h1 hw1 hb1 hx1 hwf hxf hbf
  go_enter Try.func10, Try.ntmps10
  go_upto_region 1 with fail
  rw [← HW1.out, ← HZ.out]
  clear hzz
  go_wp2_with fail
  rw [← HWF.out]
  refine bodyPost_ret (v := .tuple #[zW.agg, .bool false]) (by clear r0 r1 r2 r3 r4 r5 r6 g0 g1 g2 g3 g4 g5 g6 hlook c2; unfold WT.agg zW; rw [results_ct rfl]; go_simp; try rfl) rfl ?_
  exact ⟨rfl, by rw [← HZ.out]; exact HBF.out⟩
set_option maxHeartbeats 2000000 in
set_option maxRecDepth 100000 in
theorem ptell_yes {pre post : List (Nat × WT)} {q : Nat} {x : WT} (h : SC w p b life given (pre ++ (q, x) :: post)) :
    Calls Try.prog 8 #[.pointer (some ⟨p, 0, none⟩), .int .i64 x.req] w fun e w' => e = .returned (.tuple #[x.agg, .bool true]) ∧ SC w' p b life given (pre ++ post) ∧ Kept w w' (fun n => n = b) := by
  have hz := zero_wt
  obtain ⟨z, hzz⟩ : ∃ z, z = w.heap.size := ⟨_, rfl⟩
  obtain ⟨w1, hw1⟩ : ∃ w1, w1 = w.alloc (.cells #[.int .i64 0, .string ⟨#[]⟩, .int .i64 0, .int .i64 0, .int .i64 0, .int .i64 0, .bool false] 37) := ⟨_, rfl⟩
  have hb1 : Below z w w1 := by rw [hw1, hzz]; exact (Below.refl _ _).alloc (Nat.le_refl _) _
  have hx1 : w1.heap[z]? = some (.cells #[.int .i64 0, .string ⟨#[]⟩, .int .i64 0, .int .i64 0, .int .i64 0, .int .i64 0, .bool false] 37 (0, 0)) := by rw [hw1, hzz]; exact heap_alloc_new w _
  have h1 := h.below (by rw [← hzz]; exact hb1)
  have cL := plook_yes (q := q) (x := x) h1 (by simp)
  have HB1 := Lib.hid hb1
  have HX1 := Lib.hid hx1
  have HW1 := Lib.hid hw1
  have HZ := Lib.hid hzz
  have H := Lib.hid h
  have H1 := Lib.hid h1
  clear hb1 hx1 hw1 h h1
  go_enter Try.func8, Try.ntmps8
  go_upto_region 1 with fail
  rw [← HW1.out, ← HZ.out]
  clear hzz
  go_wp2_with fail
  refine cL.mono ?_
  rintro e w2 ⟨he, hb2⟩
  have he : e = .returned (.tuple #[.agg #[.int .i64 x.req, .string x.key, .int .i64 x.client, .int .i64 x.id, .int .i64 x.first, .int .i64 x.last, .bool x.marked], .bool true]) := he
  subst he
  clear cL
  obtain ⟨y, hy⟩ : ∃ y, y = w2.heap.size := ⟨_, rfl⟩
  obtain ⟨w3, hw3⟩ : ∃ w3, w3 = w2.alloc (.cells #[.int .i64 x.req, .string x.key, .int .i64 x.client, .int .i64 x.id, .int .i64 x.first, .int .i64 x.last, .bool x.marked] 37) := ⟨_, rfl⟩
  have hx3 : w3.heap[y]? = some (.cells #[.int .i64 x.req, .string x.key, .int .i64 x.client, .int .i64 x.id, .int .i64 x.first, .int .i64 x.last, .bool x.marked] 37 (0, 0)) := by rw [hw3, hy]; exact heap_alloc_new w2 _
  have hb3 : Below y w2 w3 := by rw [hw3, hy]; exact (Below.refl _ _).alloc (Nat.le_refl _) _
  have hzl : z < w1.heap.size := lt_of_heap HX1.out
  have hyz : w1.heap.size ≤ y := by rw [hy]; exact hb2.size
  have hb13 : Below w1.heap.size w1 w3 := hb2.trans (Joins.below_le hb3 hyz)
  have hz3 : w3.heap[z]? = some (.cells #[.int .i64 0, .string ⟨#[]⟩, .int .i64 0, .int .i64 0, .int .i64 0, .int .i64 0, .bool false] 37 (0, 0)) := (hb13.block z hzl).trans HX1.out
  have h3 := H1.out.below hb13
  obtain ⟨w4, hdel, hm4, ht⟩ := MapI.del h3.map (h3.wf (m := (q, x)) (by simp)) 0
  have hdel : (Builtin.delete_ #[54, 3] 0 #[.map (some b), .int .i64 x.req]).run Try.prog w3 = .ok (.tuple #[]) w4 := hdel
  have hg := ht.grown
  have hk4 : ∀ n, n < w3.heap.size → n ≠ b → w4.heap[n]? = w3.heap[n]? := fun n hn hne => hg.block n hn (fun e => hne (by injection e))
  have h4 := h3.gone (q := q) (x := x) hm4 hk4
  have hbz : b < z := by have := H.out.ltb; rw [HZ.out]; exact this
  have hx4 : w4.heap[y]? = some (.cells #[.int .i64 x.req, .string x.key, .int .i64 x.client, .int .i64 x.id, .int .i64 x.first, .int .i64 x.last, .bool x.marked] 37 (0, 0)) := (hk4 y (lt_of_heap hx3) (by omega)).trans hx3
  have hz4 : w4.heap[z]? = some (.cells #[.int .i64 0, .string ⟨#[]⟩, .int .i64 0, .int .i64 0, .int .i64 0, .int .i64 0, .bool false] 37 (0, 0)) := (hk4 z (lt_of_heap hz3) (by omega)).trans hz3
  have c2 : w3.cell? ⟨p, 2, none⟩ = some (.map (some b)) := (blk_cells h3.obj).1 2
  obtain ⟨s0, s1, s2, s3, s4, s5, s6⟩ : w4.cell? ⟨y, 0, none⟩ = some (.int .i64 x.req) ∧ w4.cell? ⟨y, 1, none⟩ = some (.string x.key) ∧ w4.cell? ⟨y, 2, none⟩ = some (.int .i64 x.client) ∧ w4.cell? ⟨y, 3, none⟩ = some (.int .i64 x.id) ∧ w4.cell? ⟨y, 4, none⟩ = some (.int .i64 x.first) ∧ w4.cell? ⟨y, 5, none⟩ = some (.int .i64 x.last) ∧ w4.cell? ⟨y, 6, none⟩ = some (.bool x.marked) := ⟨(blk_cells hx4).1 0, (blk_cells hx4).1 1, (blk_cells hx4).1 2, (blk_cells hx4).1 3, (blk_cells hx4).1 4, (blk_cells hx4).1 5, (blk_cells hx4).1 6⟩
  obtain ⟨j0, j1, j2, j3, j4, j5, j6⟩ : w4.cell? ⟨z, 0, none⟩ = some (.int .i64 0) ∧ w4.cell? ⟨z, 1, none⟩ = some (.string ⟨#[]⟩) ∧ w4.cell? ⟨z, 2, none⟩ = some (.int .i64 0) ∧ w4.cell? ⟨z, 3, none⟩ = some (.int .i64 0) ∧ w4.cell? ⟨z, 4, none⟩ = some (.int .i64 0) ∧ w4.cell? ⟨z, 5, none⟩ = some (.int .i64 0) ∧ w4.cell? ⟨z, 6, none⟩ = some (.bool false) := ⟨(blk_cells hz4).1 0, (blk_cells hz4).1 1, (blk_cells hz4).1 2, (blk_cells hz4).1 3, (blk_cells hz4).1 4, (blk_cells hz4).1 5, (blk_cells hz4).1 6⟩
  obtain ⟨k0, k1, k2, k3, k4, k5, k6⟩ : w4.frozen? ⟨z, 0, none⟩ = false ∧ w4.frozen? ⟨z, 1, none⟩ = false ∧ w4.frozen? ⟨z, 2, none⟩ = false ∧ w4.frozen? ⟨z, 3, none⟩ = false ∧ w4.frozen? ⟨z, 4, none⟩ = false ∧ w4.frozen? ⟨z, 5, none⟩ = false ∧ w4.frozen? ⟨z, 6, none⟩ = false := ⟨(blk_cells hz4).2 0, (blk_cells hz4).2 1, (blk_cells hz4).2 2, (blk_cells hz4).2 3, (blk_cells hz4).2 4, (blk_cells hz4).2 5, (blk_cells hz4).2 6⟩
  obtain ⟨wf, hwf⟩ : ∃ wf, wf = ((((((w4.setCell ⟨z, 0, none⟩ (.int .i64 x.req)).setCell ⟨z, 1, none⟩ (.string x.key)).setCell ⟨z, 2, none⟩ (.int .i64 x.client)).setCell ⟨z, 3, none⟩ (.int .i64 x.id)).setCell ⟨z, 4, none⟩ (.int .i64 x.first)).setCell ⟨z, 5, none⟩ (.int .i64 x.last)).setCell ⟨z, 6, none⟩ (.bool x.marked) := ⟨_, rfl⟩
  have hxf : wf.heap[z]? = some (.cells #[.int .i64 x.req, .string x.key, .int .i64 x.client, .int .i64 x.id, .int .i64 x.first, .int .i64 x.last, .bool x.marked] 37 (0, 0)) := by
    rw [hwf, Joins.block_setCell (Joins.block_setCell (Joins.block_setCell (Joins.block_setCell (Joins.block_setCell (Joins.block_setCell (Joins.block_setCell hz4 _) _) _) _) _) _) _]
    simp
  have hbf : Below z w4 wf := by rw [hwf]; exact Below.setCell (p := ⟨z, 6, none⟩) (Below.setCell (p := ⟨z, 5, none⟩) (Below.setCell (p := ⟨z, 4, none⟩) (Below.setCell (p := ⟨z, 3, none⟩) (Below.setCell (p := ⟨z, 2, none⟩) (Below.setCell (p := ⟨z, 1, none⟩) (Below.setCell (p := ⟨z, 0, none⟩) (Below.refl _ _) (Nat.le_refl _) _) (Nat.le_refl _) _) (Nat.le_refl _) _) (Nat.le_refl _) _) (Nat.le_refl _) _) (Nat.le_refl _) _) (Nat.le_refl _) _
  obtain ⟨u0, u1, u2, u3, u4, u5, u6⟩ : wf.cell? ⟨z, 0, none⟩ = some (.int .i64 x.req) ∧ wf.cell? ⟨z, 1, none⟩ = some (.string x.key) ∧ wf.cell? ⟨z, 2, none⟩ = some (.int .i64 x.client) ∧ wf.cell? ⟨z, 3, none⟩ = some (.int .i64 x.id) ∧ wf.cell? ⟨z, 4, none⟩ = some (.int .i64 x.first) ∧ wf.cell? ⟨z, 5, none⟩ = some (.int .i64 x.last) ∧ wf.cell? ⟨z, 6, none⟩ = some (.bool x.marked) := ⟨(blk_cells hxf).1 0, (blk_cells hxf).1 1, (blk_cells hxf).1 2, (blk_cells hxf).1 3, (blk_cells hxf).1 4, (blk_cells hxf).1 5, (blk_cells hxf).1 6⟩
  have hpz : p < z := by have := H.out.ltp; rw [HZ.out]; exact this
  have hfin : SC wf p b life given (pre ++ post) := h4.same (hbf.block p hpz) (hbf.block b hbz) fun m hm => hbf.block m.1 (by
    have : m ∈ pre ++ (q, x) :: post := by
      rcases List.mem_append.1 hm with hm | hm
      · exact List.mem_append_left _ hm
      · exact List.mem_append_right _ (List.mem_cons_of_mem _ hm)
    have := H.out.ltm this
    rw [HZ.out]; exact this)
  have hK : Kept w wf (fun n => n = b) := by
    have k1 : Kept w w3 (fun n => n = b) := by
      have := HB1.out.trans (Joins.below_le hb13 (Nat.le_of_lt hzl))
      exact ⟨this.os, this.tape, this.output, this.size, fun n hn _ => this.block n (by rw [HZ.out]; exact hn)⟩
    refine (k1.trans (Kept.grown hg fun g hg => by injection hg with hg; exact hg.symm : Kept w3 w4 (fun n => n = b)) fun n hn => .inl hn).trans (Kept.of_below hbf) fun n hn => .inr (by rw [← HZ.out]; exact hn)
  have HF := Lib.hid (And.intro hfin hK)
  have HW3 := Lib.hid hw3
  have HWF := Lib.hid hwf
  have HY := Lib.hid hy
  clear hfin hK hw3 hwf hx3 hb3 hb2 hzl hyz hb13 hz3 h3 hm4 ht hg hk4 h4 hbz hx4 hz4 hxf hbf hpz
  go_upto_region 2 with fail
  rw [← HW3.out, ← HY.out]
  clear hy
  go_wp2_with fail
  rw [← HWF.out]
  refine bodyPost_ret (v := .tuple #[x.agg, .bool true]) (by clear s0 s1 s2 s3 s4 s5 s6 k0 k1 k2 k3 k4 k5 k6 j0 j1 j2 j3 j4 j5 j6 hdel c2; unfold WT.agg; rw [results_ct rfl]; go_simp; try rfl) rfl ?_
  exact ⟨rfl, HF.out.1, HF.out.2⟩
set_option maxHeartbeats 2000000 in
set_option maxRecDepth 100000 in
theorem ptell_no (h : SC w p b life given M) (r : Int) (hr : ∀ m ∈ M, m.2.req ≠ r) (hi : I6 r) :
    Calls Try.prog 8 #[.pointer (some ⟨p, 0, none⟩), .int .i64 r] w fun e w' => e = .returned (.tuple #[zW.agg, .bool false]) ∧ Below w.heap.size w w' := by
  have hz := zero_wt
  obtain ⟨z, hzz⟩ : ∃ z, z = w.heap.size := ⟨_, rfl⟩
  obtain ⟨w1, hw1⟩ : ∃ w1, w1 = w.alloc (.cells #[.int .i64 0, .string ⟨#[]⟩, .int .i64 0, .int .i64 0, .int .i64 0, .int .i64 0, .bool false] 37) := ⟨_, rfl⟩
  have hb1 : Below z w w1 := by rw [hw1, hzz]; exact (Below.refl _ _).alloc (Nat.le_refl _) _
  have hx1 : w1.heap[z]? = some (.cells #[.int .i64 0, .string ⟨#[]⟩, .int .i64 0, .int .i64 0, .int .i64 0, .int .i64 0, .bool false] 37 (0, 0)) := by rw [hw1, hzz]; exact heap_alloc_new w _
  have h1 := h.below (by rw [← hzz]; exact hb1)
  have cL := plook_no h1 r hr hi
  have HB1 := Lib.hid hb1
  have HX1 := Lib.hid hx1
  have HW1 := Lib.hid hw1
  have HZ := Lib.hid hzz
  have H := Lib.hid h
  have H1 := Lib.hid h1
  clear hb1 hx1 hw1 h h1
  go_enter Try.func8, Try.ntmps8
  go_upto_region 1 with fail
  rw [← HW1.out, ← HZ.out]
  clear hzz
  go_wp2_with fail
  refine cL.mono ?_
  rintro e w2 ⟨he, hb2⟩
  have he : e = .returned (.tuple #[.agg #[.int .i64 0, .string ⟨#[]⟩, .int .i64 0, .int .i64 0, .int .i64 0, .int .i64 0, .bool false], .bool false]) := he
  subst he
  clear cL
  obtain ⟨y, hy⟩ : ∃ y, y = w2.heap.size := ⟨_, rfl⟩
  obtain ⟨w3, hw3⟩ : ∃ w3, w3 = w2.alloc (.cells #[.int .i64 0, .string ⟨#[]⟩, .int .i64 0, .int .i64 0, .int .i64 0, .int .i64 0, .bool false] 37) := ⟨_, rfl⟩
  have hx3 : w3.heap[y]? = some (.cells #[.int .i64 0, .string ⟨#[]⟩, .int .i64 0, .int .i64 0, .int .i64 0, .int .i64 0, .bool false] 37 (0, 0)) := by rw [hw3, hy]; exact heap_alloc_new w2 _
  have hb3 : Below y w2 w3 := by rw [hw3, hy]; exact (Below.refl _ _).alloc (Nat.le_refl _) _
  have hzl : z < w1.heap.size := lt_of_heap HX1.out
  have hyz : w1.heap.size ≤ y := by rw [hy]; exact hb2.size
  have hb13 : Below w1.heap.size w1 w3 := hb2.trans (Joins.below_le hb3 hyz)
  have hz3 : w3.heap[z]? = some (.cells #[.int .i64 0, .string ⟨#[]⟩, .int .i64 0, .int .i64 0, .int .i64 0, .int .i64 0, .bool false] 37 (0, 0)) := (hb13.block z hzl).trans HX1.out
  have hx4 := hx3
  have hz4 := hz3
  obtain ⟨s0, s1, s2, s3, s4, s5, s6⟩ : w3.cell? ⟨y, 0, none⟩ = some (.int .i64 0) ∧ w3.cell? ⟨y, 1, none⟩ = some (.string ⟨#[]⟩) ∧ w3.cell? ⟨y, 2, none⟩ = some (.int .i64 0) ∧ w3.cell? ⟨y, 3, none⟩ = some (.int .i64 0) ∧ w3.cell? ⟨y, 4, none⟩ = some (.int .i64 0) ∧ w3.cell? ⟨y, 5, none⟩ = some (.int .i64 0) ∧ w3.cell? ⟨y, 6, none⟩ = some (.bool false) := ⟨(blk_cells hx4).1 0, (blk_cells hx4).1 1, (blk_cells hx4).1 2, (blk_cells hx4).1 3, (blk_cells hx4).1 4, (blk_cells hx4).1 5, (blk_cells hx4).1 6⟩
  obtain ⟨j0, j1, j2, j3, j4, j5, j6⟩ : w3.cell? ⟨z, 0, none⟩ = some (.int .i64 0) ∧ w3.cell? ⟨z, 1, none⟩ = some (.string ⟨#[]⟩) ∧ w3.cell? ⟨z, 2, none⟩ = some (.int .i64 0) ∧ w3.cell? ⟨z, 3, none⟩ = some (.int .i64 0) ∧ w3.cell? ⟨z, 4, none⟩ = some (.int .i64 0) ∧ w3.cell? ⟨z, 5, none⟩ = some (.int .i64 0) ∧ w3.cell? ⟨z, 6, none⟩ = some (.bool false) := ⟨(blk_cells hz4).1 0, (blk_cells hz4).1 1, (blk_cells hz4).1 2, (blk_cells hz4).1 3, (blk_cells hz4).1 4, (blk_cells hz4).1 5, (blk_cells hz4).1 6⟩
  obtain ⟨k0, k1, k2, k3, k4, k5, k6⟩ : w3.frozen? ⟨z, 0, none⟩ = false ∧ w3.frozen? ⟨z, 1, none⟩ = false ∧ w3.frozen? ⟨z, 2, none⟩ = false ∧ w3.frozen? ⟨z, 3, none⟩ = false ∧ w3.frozen? ⟨z, 4, none⟩ = false ∧ w3.frozen? ⟨z, 5, none⟩ = false ∧ w3.frozen? ⟨z, 6, none⟩ = false := ⟨(blk_cells hz4).2 0, (blk_cells hz4).2 1, (blk_cells hz4).2 2, (blk_cells hz4).2 3, (blk_cells hz4).2 4, (blk_cells hz4).2 5, (blk_cells hz4).2 6⟩
  obtain ⟨wf, hwf⟩ : ∃ wf, wf = ((((((w3.setCell ⟨z, 0, none⟩ (.int .i64 0)).setCell ⟨z, 1, none⟩ (.string ⟨#[]⟩)).setCell ⟨z, 2, none⟩ (.int .i64 0)).setCell ⟨z, 3, none⟩ (.int .i64 0)).setCell ⟨z, 4, none⟩ (.int .i64 0)).setCell ⟨z, 5, none⟩ (.int .i64 0)).setCell ⟨z, 6, none⟩ (.bool false) := ⟨_, rfl⟩
  have hxf : wf.heap[z]? = some (.cells #[.int .i64 0, .string ⟨#[]⟩, .int .i64 0, .int .i64 0, .int .i64 0, .int .i64 0, .bool false] 37 (0, 0)) := by
    rw [hwf, Joins.block_setCell (Joins.block_setCell (Joins.block_setCell (Joins.block_setCell (Joins.block_setCell (Joins.block_setCell (Joins.block_setCell hz4 _) _) _) _) _) _) _]
    simp
  have hbf : Below z w3 wf := by rw [hwf]; exact Below.setCell (p := ⟨z, 6, none⟩) (Below.setCell (p := ⟨z, 5, none⟩) (Below.setCell (p := ⟨z, 4, none⟩) (Below.setCell (p := ⟨z, 3, none⟩) (Below.setCell (p := ⟨z, 2, none⟩) (Below.setCell (p := ⟨z, 1, none⟩) (Below.setCell (p := ⟨z, 0, none⟩) (Below.refl _ _) (Nat.le_refl _) _) (Nat.le_refl _) _) (Nat.le_refl _) _) (Nat.le_refl _) _) (Nat.le_refl _) _) (Nat.le_refl _) _) (Nat.le_refl _) _
  obtain ⟨u0, u1, u2, u3, u4, u5, u6⟩ : wf.cell? ⟨z, 0, none⟩ = some (.int .i64 0) ∧ wf.cell? ⟨z, 1, none⟩ = some (.string ⟨#[]⟩) ∧ wf.cell? ⟨z, 2, none⟩ = some (.int .i64 0) ∧ wf.cell? ⟨z, 3, none⟩ = some (.int .i64 0) ∧ wf.cell? ⟨z, 4, none⟩ = some (.int .i64 0) ∧ wf.cell? ⟨z, 5, none⟩ = some (.int .i64 0) ∧ wf.cell? ⟨z, 6, none⟩ = some (.bool false) := ⟨(blk_cells hxf).1 0, (blk_cells hxf).1 1, (blk_cells hxf).1 2, (blk_cells hxf).1 3, (blk_cells hxf).1 4, (blk_cells hxf).1 5, (blk_cells hxf).1 6⟩
  have hB : Below z w wf := (HB1.out.trans (Joins.below_le hb13 (Nat.le_of_lt hzl))).trans hbf
  have HF := Lib.hid hB
  have HW3 := Lib.hid hw3
  have HWF := Lib.hid hwf
  have HY := Lib.hid hy
  clear hB hw3 hwf hx3 hb3 hb2 hzl hyz hb13 hz3 hx4 hz4 hxf hbf
  go_upto_region 2 with fail
  rw [← HW3.out, ← HY.out]
  clear hy
  go_wp2_with fail
  rw [← HWF.out]
  refine bodyPost_ret (v := .tuple #[zW.agg, .bool false]) (by clear s0 s1 s2 s3 s4 s5 s6 k0 k1 k2 k3 k4 k5 k6 j0 j1 j2 j3 j4 j5 j6; unfold WT.agg zW; rw [results_ct rfl]; go_simp; try rfl) rfl ?_
  exact ⟨rfl, by rw [← HZ.out]; exact HF.out⟩
end
end Go.Proofs.Ytclfhidapkoiiab
