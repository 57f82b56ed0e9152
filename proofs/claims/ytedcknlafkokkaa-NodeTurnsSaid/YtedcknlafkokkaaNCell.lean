/-
  A cell behind what is there: the program's putCell. No statement is proved here. No condition.
-/
import Derived.Test.YtedcknlafkokkaaNPut
namespace Go.Proofs.Ytedcknlafkokkaa
open Go.RowKit

theorem tx_le {s : ByteArray} (h : s.size ≤ 10000) : (tx s).length ≤ 10010 := by
  have := cnt_length (s.size : Int)
  rw [tx_length]
  omega
set_option maxRecDepth 100000 in
theorem putcell_any (l : List UInt8) (v : Value) (base : Nat) (c : PC) (leaf : Bool) (w : World) (hown : w.ownsRow base 5 1 v l.length (BS l)) (hbase : base ≤ w.heap.size) (hs : c.small) (htot : l.length ≤ 500000000) :
    Calls Try.prog 34 #[v, c.agg, .bool leaf] w fun e w' => ∃ v', e = .returned v' ∧ w'.ownsRow base 5 1 v' (l ++ c.by leaf).length (BS (l ++ c.by leaf)) ∧ Puts w w' v v' := by
  obtain ⟨key, val, long, size⟩ := c
  obtain ⟨h1, h2⟩ := hs
  dsimp only at h1 h2
  have t1 := tx_le h1
  have t2 := tx_le h2
  have t3 := cnt_length long
  have t4 := cnt_length size
  have t5 := cnt_length 0
  have HOWN := Lib.hid hown
  have hvl : ∀ b, v.ownBlock = some b → b < w.heap.size := fun b hb => (hown.lt b hb).2
  have HVL := Lib.hid hvl
  clear hown hvl
  unfold PC.agg
  obtain ⟨w1, hw1⟩ : ∃ w1, w1 = w.alloc (.cells #[.string key, .string val, .int .i64 long, .int .i64 size] 59) := ⟨_, rfl⟩
  have hb1 : Below w.heap.size w w1 := by rw [hw1]; exact (Below.refl _ _).alloc (Nat.le_refl _) _
  have hx1 : w1.heap[w.heap.size]? = some (.cells #[.string key, .string val, .int .i64 long, .int .i64 size] 59 (0, 0)) := by rw [hw1]; exact heap_alloc_new w _
  go_enter Try.func34, Try.ntmps34
  go_wp2_with fail
  refine (cStr key _ h1).mono ?_
  rintro e w2 ⟨A1, m1, d1, rfl, hbn, hb2⟩
  rw [← hw1] at hb2 hbn
  have hs12 := hb2.size
  have hs1 := hb1.size
  have hb02 : Below w.heap.size w w2 := hb1.trans (Joins.below_le hb2 hs1)
  have hx2 := (hb2.block _ (boxed hx1)).trans hx1
  have cP := put_one l v base w2 _ (tx key) (row_same HOWN.out fun p hp => hb02.block p (HVL.out p hp)) (by omega) (RowN.mono hbn fun b h hl e => by have := HVL.out b e; omega) (by omega)
  have HX2 := Lib.hid hx2
  have HB02 := Lib.hid hb02
  have HLT := Lib.hid (boxed hx1)
  clear hbn hb2 hb02 hx2 hw1 hb1 hx1
  go_wp2_with fail
  refine cP.mono ?_
  rintro e w3 ⟨v3, rfl, ho3, hp3⟩
  have hx3 := (hp3.block (boxed HX2.out) (fun e => by have := HVL.out _ e; omega)).trans HX2.out
  have hp03 : Puts w w3 v v3 := Puts.after HB02.out hp3
  have hvl3 : ∀ b, v3.ownBlock = some b → b < w3.heap.size := fun b hb => (ho3.lt b hb).2
  have hs23 := hp3.1.size
  have hv3x : v3.ownBlock ≠ some w.heap.size := fun e => (hp3.2 _ e).elim (fun e => by have := HVL.out _ e; omega) (fun h => by have := boxed HX2.out; omega)
  have HV3X := Lib.hid hv3x
  have c1 : w3.cell? ⟨w.heap.size, 1, none⟩ = some (.string val) := (row_cells hx3).1 1
  have c2 : w3.cell? ⟨w.heap.size, 2, none⟩ = some (.int .i64 long) := (row_cells hx3).1 2
  have c3 : w3.cell? ⟨w.heap.size, 3, none⟩ = some (.int .i64 size) := (row_cells hx3).1 3
  have HO3 := Lib.hid ho3
  have HP03 := Lib.hid hp03
  have HX3 := Lib.hid hx3
  have HVL3 := Lib.hid hvl3
  clear cP hp3 ho3 hp03 hx3 hvl3 HX2 HOWN hv3x
  cases leaf with
  | false =>
    go_wp2_with fail
    go_ret
    refine ⟨v3, rfl, ?_, HP03.out⟩
    have := HO3.out
    simpa [PC.by] using this
  | true =>
    have hk : ∀ W, Below w3.heap.size w3 W → W.cell? ⟨w.heap.size, 1, none⟩ = some (.string val) ∧ W.cell? ⟨w.heap.size, 2, none⟩ = some (.int .i64 long) ∧ W.cell? ⟨w.heap.size, 3, none⟩ = some (.int .i64 size) := fun W hW => by
      have hl := boxed HX3.out
      exact ⟨(hW.cell (p := ⟨w.heap.size, 1, none⟩) hl).trans c1, (hW.cell (p := ⟨w.heap.size, 2, none⟩) hl).trans c2, (hW.cell (p := ⟨w.heap.size, 3, none⟩) hl).trans c3⟩
    have HK := Lib.hid hk
    have hst := hk _ (Below.refl _ _).drew
    have hbe : Below w3.heap.size w3 w3.drew := (Below.refl _ _).drew
    clear hk
    have hfin : ∀ (l2 : List UInt8) (wy : World), l2.length ≤ 20020 → Below w3.heap.size w3 wy → ∀ va vb la lb, la ++ lb = l2 → BN wy (fun b => w3.heap.size ≤ b) va la → BN wy (fun b => w3.heap.size ≤ b) vb lb → Calls Try.prog 31 #[v3, .slice (some ⟨wy.heap.size, 0, none⟩) 2 2] (wy.alloc (.cells #[va, vb] 26)) fun e w' => ∃ v', e = .returned v' ∧ w'.ownsRow base 5 1 v' (l ++ (tx key ++ l2)).length (BS (l ++ (tx key ++ l2))) ∧ Puts w w' v v' ∧ (w'.cell? ⟨w.heap.size, 1, none⟩ = some (.string val) ∧ w'.cell? ⟨w.heap.size, 2, none⟩ = some (.int .i64 long) ∧ w'.cell? ⟨w.heap.size, 3, none⟩ = some (.int .i64 size)) := by
      intro l2 wy hl2 hby va vb la lb hab ha hb
      subst hab
      rw [List.length_append] at hl2
      have hsy := hby.size
      have ho := row_same HO3.out (w' := wy) fun p hp => hby.block p (HVL3.out p hp)
      refine (put_two (l ++ tx key) v3 base wy va vb la lb ho (by omega) (RowN.mono ha fun b h hl e => by have := HVL3.out b e; omega) (RowN.mono hb fun b h hl e => by have := HVL3.out b e; omega) (by rw [List.length_append]; omega)).mono ?_
      rintro e w' ⟨v', he, ho', hp'⟩
      rw [List.append_assoc] at ho'
      have hxy := (hby.block _ (boxed HX3.out)).trans HX3.out
      have hxf := (hp'.block (boxed hxy) HV3X.out).trans hxy
      exact ⟨v', he, ho', HP03.out.trans (Puts.after hby hp'), (row_cells hxf).1 1, (row_cells hxf).1 2, (row_cells hxf).1 3⟩
    have HFIN := Lib.hid hfin
    clear hfin
    by_cases hl : long = 0
    · subst hl
      go_upto_region 5 with fail
      clear c1 c2 c3
      go_region_held3 (fun w' => w'.cell? ⟨w.heap.size, 1, none⟩ = some (.string val) ∧ w'.cell? ⟨w.heap.size, 2, none⟩ = some (.int .i64 0) ∧ w'.cell? ⟨w.heap.size, 3, none⟩ = some (.int .i64 size)) (first | exact hst | exact hsf | exact HK.out _ hbe | exact HK.out _ (hbe.alloc hbe.size _))
        (first
          | (go_at_call 33; refine (cCount 0 _).mono ?_; rintro e wy ⟨Aa, ma, da, rfl, hna, hby⟩; (try replace hnb := RowN.grow hnb hby); replace hna := RowN.mono hna (fun b h hl => Nat.le_trans hbe.size h); replace hbe := hbe.trans (Joins.below_le hby hbe.size))
          | (go_at_call 66; refine (cStr val _ h2).mono ?_; rintro e wy ⟨Ab, mb, db, rfl, hnb, hby⟩; (try replace hna := RowN.grow hna hby); replace hnb := RowN.mono hnb (fun b h hl => Nat.le_trans hbe.size h); replace hbe := hbe.trans (Joins.below_le hby hbe.size))
          | (go_at_call 31; refine (HFIN.out (cnt 0 ++ tx val) _ (by rw [List.length_append]; omega) hbe _ _ _ _ rfl hna hnb).mono ?_; rintro e wf ⟨v', rfl, hof, hpf, hsf⟩))
      all_goals
        clear hst hsf
        go_wp2_with fail
        go_ret
        refine ⟨v', rfl, ?_, hpf⟩
        have hpb : PC.by true ⟨key, val, 0, size⟩ = tx key ++ (cnt 0 ++ tx val) := by simp [PC.by]
        rw [hpb]
        exact hof
    · have hl' : ¬ long = 0 := hl
      go_upto_region 6 with fail
      clear c1 c2 c3
      go_region_held3 (fun w' => w'.cell? ⟨w.heap.size, 1, none⟩ = some (.string val) ∧ w'.cell? ⟨w.heap.size, 2, none⟩ = some (.int .i64 long) ∧ w'.cell? ⟨w.heap.size, 3, none⟩ = some (.int .i64 size)) (first | exact hst | exact hsf | exact HK.out _ hbe | exact HK.out _ (hbe.alloc hbe.size _))
        (first
          | (go_at_call 33; refine (cCount _ _).mono ?_; rintro e wy ⟨Aa, ma, da, rfl, hn0, hby⟩; (try replace hna := RowN.grow hna hby); (try replace hnb := RowN.grow hnb hby); replace hn0 := RowN.mono (N' := fun b => w3.heap.size ≤ b) hn0 (fun b h hl => Nat.le_trans hbe.size h); replace hbe := hbe.trans (Joins.below_le hby hbe.size); first | (have hna : RowN wy (fun b => w3.heap.size ≤ b) (.slice Aa ma da) (cnt long).length 1 (BS (cnt long)) := (by with_reducible exact hn0); clear hn0) | (have hnb : RowN wy (fun b => w3.heap.size ≤ b) (.slice Aa ma da) (cnt size).length 1 (BS (cnt size)) := (by with_reducible exact hn0); clear hn0))
          | (go_at_call 31; refine (HFIN.out (cnt long ++ cnt size) _ (by rw [List.length_append]; omega) hbe _ _ _ _ rfl hna hnb).mono ?_; rintro e wf ⟨v', rfl, hof, hpf, hsf⟩))
      all_goals
        clear hst hsf
        go_wp2_with fail
        go_ret
        refine ⟨v', rfl, ?_, hpf⟩
        have hpb : PC.by true ⟨key, val, long, size⟩ = tx key ++ (cnt long ++ cnt size) := by simp [PC.by, hl]
        rw [hpb]
        exact hof
end Go.Proofs.Ytedcknlafkokkaa
