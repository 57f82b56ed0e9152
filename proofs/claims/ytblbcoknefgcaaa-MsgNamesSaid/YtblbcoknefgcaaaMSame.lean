/-
  Two messages held against each other: the program's Same. No statement is proved here. No condition.
-/
import Derived.Test.YtblbcoknefgcaaaMSameF
namespace Go.Proofs.Ytblbcoknefgcaaa
open Go.RowKit

set_option maxHeartbeats 40000000 in
set_option maxRecDepth 1000000 in
theorem psame_any (a b : MG) (vE1 vL1 vP1 vX1 vE2 vL2 vP2 vX2 : Value) (w : World) (ha : MsgL w Any a vE1 vL1 vP1 vX1) (hb : MsgL w Any b vE2 vL2 vP2 vX2) :
    Calls Try.prog 22 #[.agg (a.cells vE1 vL1 vP1 vX1), .agg (b.cells vE2 vL2 vP2 vX2)] w fun e w' => e = .returned (.bool (a.same b)) ∧ Below w.heap.size w w' := by
  obtain ⟨ca, hca⟩ : ∃ ca, ca = a.cells vE1 vL1 vP1 vX1 := ⟨_, rfl⟩
  obtain ⟨cb, hcb⟩ : ∃ cb, cb = b.cells vE2 vL2 vP2 vX2 := ⟨_, rfl⟩
  rw [← hca, ← hcb]
  obtain ⟨w1, hw1⟩ : ∃ w1, w1 = w.alloc (.cells ca 38) := ⟨_, rfl⟩
  have hb1 : Below w.heap.size w w1 := by rw [hw1]; exact (Below.refl _ _).alloc (Nat.le_refl _) _
  have hx1 : w1.heap[w.heap.size]? = some (.cells ca 38 (0, 0)) := by rw [hw1]; exact heap_alloc_new w _
  obtain ⟨w2, hw2⟩ : ∃ w2, w2 = w1.alloc (.cells cb 38) := ⟨_, rfl⟩
  have hb2 : Below w1.heap.size w1 w2 := by rw [hw2]; exact (Below.refl _ _).alloc (Nat.le_refl _) _
  have hy2 : w2.heap[w1.heap.size]? = some (.cells cb 38 (0, 0)) := by rw [hw2]; exact heap_alloc_new w1 _
  have hx2 := (hb2.block _ (Array.getElem?_eq_some_iff.1 hx1).1).trans hx1
  have hB : Below w.heap.size w w2 := hb1.trans (Joins.below_le hb2 hb1.size)
  have ha2 := (ha.grow hb1).grow hb2
  have hb22 := (hb.grow hb1).grow hb2
  have hs1 : w1.heap.size = w.heap.size + 1 := by rw [hw1]; simp
  obtain ⟨p, hp⟩ : ∃ p, p = w.heap.size := ⟨_, rfl⟩
  obtain ⟨q, hq⟩ : ∃ q, q = w1.heap.size := ⟨_, rfl⟩
  have hq1 : q = w.heap.size + 1 := hq.trans hs1
  rw [← hp] at hx2
  rw [← hq] at hy2
  have hww : w2 = (w.alloc (.cells ca 38)).alloc (.cells cb 38) := by rw [hw2, hw1]
  have HW := Lib.hid hww
  have HP := Lib.hid hp
  have HQ := Lib.hid hq1
  have HBB := Lib.hid hB
  have HA2 := Lib.hid ha2
  have HB2 := Lib.hid hb22
  have HX2 := Lib.hid (And.intro hx2 hy2)
  have HCA := Lib.hid (And.intro hca hcb)
  clear ha hb hw1 hb1 hx1 hw2 hb2 hy2 hx2 hB hs1 hq hq1 hww hp ha2 hb22 hca hcb
  go_enter Try.func22, Try.ntmps22
  go_upto_region 1 with fail
  rw [← HW.out, ← HQ.out, ← HP.out]
  rename_i aK
  have HK := Lib.hid aK
  clear aK
  have hX := HX2.out.1
  have hY := HX2.out.2
  rw [HCA.out.1] at hX
  rw [HCA.out.2] at hY
  refine wp_region_list ?_
  refine wl_gen (n := 171) (x := 2) (y := 3) (pv := .pointer (some ⟨p, 0, none⟩)) (qv := .pointer (some ⟨q, 0, none⟩)) (by rfl) rfl (by rfl) (by rfl) ?_
  intro c0 hs0 hd0 h20 h30
  refine mv (k := 5) rfl rfl (by rw [hs0]; decide) (ex_fa rfl h20 (fa_0 p w2)) ?_
  intro ca fa ea
  have hsa := fa.size.trans hs0
  have h2a := (fa.keep 2 (by decide)).trans h20
  have h3a := (fa.keep 3 (by decide)).trans h30
  have hda := fa.defers.trans hd0
  refine mv (k := 6) rfl rfl (by rw [hsa]; decide) (ex_load rfl ea (u := .int .u8 a.kind) (ld_uint8 p 0 _ w2 (((blk_cells hX).1 0).trans (mc_0 _ _ _ _ _)))) ?_
  intro cb fb eb
  have hsb := fb.size.trans hsa
  have h2b := (fb.keep 2 (by decide)).trans h2a
  have h3b := (fb.keep 3 (by decide)).trans h3a
  have hdb := fb.defers.trans hda
  refine mv (k := 7) rfl rfl (by rw [hsb]; decide) (ex_fa rfl h3b (fa_0 q w2)) ?_
  intro cd fd ed
  have hsd := fd.size.trans hsb
  have h2d := (fd.keep 2 (by decide)).trans h2b
  have h3d := (fd.keep 3 (by decide)).trans h3b
  have hdd := fd.defers.trans hdb
  refine mv (k := 8) rfl rfl (by rw [hsd]; decide) (ex_load rfl ed (u := .int .u8 b.kind) (ld_uint8 q 0 _ w2 (((blk_cells hY).1 0).trans (mc_0 _ _ _ _ _)))) ?_
  intro cg fg eg
  have hsg := fg.size.trans hsd
  have h2g := (fg.keep 2 (by decide)).trans h2d
  have h3g := (fg.keep 3 (by decide)).trans h3d
  have hdg := fg.defers.trans hdd
  have eb2 := ((fg.keep 6 (by decide)).trans (fd.keep 6 (by decide))).trans eb
  refine mv (k := 9) rfl rfl (by rw [hsg]; decide) (ex_bin rfl eb2 eg (guard_uint8_eql _ _ _ _ w2) (bin_uint8_eql _ _ w2)) ?_
  intro ci fi ei
  have hsi := fi.size.trans hsg
  have h2i := (fi.keep 2 (by decide)).trans h2g
  have h3i := (fi.keep 3 (by decide)).trans h3g
  have hdi := fi.defers.trans hdg
  refine mv (k := 10) rfl rfl (by rw [hsi]; decide) (ex_move rfl ei) ?_
  intro cz0 fz0 ez0
  have hsz0 := fz0.size.trans hsi
  have h2z0 := (fz0.keep 2 (by decide)).trans h2i
  have h3z0 := (fz0.keep 3 (by decide)).trans h3i
  have hdz0 := fz0.defers.trans hdi
  have hB0 := HBB.out
  have hA0 := HA2.out
  have hC0 := HB2.out
  have hX0 := hX
  have hY0 := hY
  refine grp (gi := 5) (g := 10) (k := 11) (x := 2) (y := 3) (b := (a.kind == b.kind)) (r := a.shard == b.shard) (pol := true) (u1 := .int .i64 a.shard) (u3 := .int .i64 b.shard) (by kernel_rfl) rfl rfl rfl rfl rfl rfl rfl rfl rfl rfl rfl rfl (by rw [hsz0]; decide) (by decide) (by decide) ez0 h2z0 h3z0 (fun _ h => ex_fa rfl h (fa_1 p w2)) (fun _ h => ex_load rfl h (ld_int p 1 _ w2 (((blk_cells hX0).1 1).trans (mc_1 _ _ _ _ _)))) (fun _ h => ex_fa rfl h (fa_1 q w2)) (fun _ h => ex_load rfl h (ld_int q 1 _ w2 (((blk_cells hY0).1 1).trans (mc_1 _ _ _ _ _)))) (fun _ h k => ex_bin rfl h k (guard_int_eql _ _ _ _ w2) (bin_int_eql _ _ w2)) (fun _ _ h => ex_pickA rfl h) ?_
  intro cp1 fp1 ep1
  rw [and_z] at ep1
  have hsp1 := fp1.size.trans hsz0
  have h2p1 := (fp1.keep 2 (by decide)).trans h2z0
  have h3p1 := (fp1.keep 3 (by decide)).trans h3z0
  have hdp1 := fp1.defers.trans hdz0
  refine mv (k := 17) rfl rfl (by rw [hsp1]; decide) (ex_move rfl ep1) ?_
  intro cz1 fz1 ez1
  have hsz1 := fz1.size.trans hsp1
  have h2z1 := (fz1.keep 2 (by decide)).trans h2p1
  have h3z1 := (fz1.keep 3 (by decide)).trans h3p1
  have hdz1 := fz1.defers.trans hdp1
  clear ep1
  refine grp (gi := 12) (g := 17) (k := 18) (x := 2) (y := 3) (b := ((a.kind == b.kind) && (a.shard == b.shard))) (r := a.epoch == b.epoch) (pol := true) (u1 := .int .i64 a.epoch) (u3 := .int .i64 b.epoch) (by kernel_rfl) rfl rfl rfl rfl rfl rfl rfl rfl rfl rfl rfl rfl (by rw [hsz1]; decide) (by decide) (by decide) ez1 h2z1 h3z1 (fun _ h => ex_fa rfl h (fa_2 p w2)) (fun _ h => ex_load rfl h (ld_int p 2 _ w2 (((blk_cells hX0).1 2).trans (mc_2 _ _ _ _ _)))) (fun _ h => ex_fa rfl h (fa_2 q w2)) (fun _ h => ex_load rfl h (ld_int q 2 _ w2 (((blk_cells hY0).1 2).trans (mc_2 _ _ _ _ _)))) (fun _ h k => ex_bin rfl h k (guard_int_eql _ _ _ _ w2) (bin_int_eql _ _ w2)) (fun _ _ h => ex_pickA rfl h) ?_
  intro cp2 fp2 ep2
  rw [and_z] at ep2
  have hsp2 := fp2.size.trans hsz1
  have h2p2 := (fp2.keep 2 (by decide)).trans h2z1
  have h3p2 := (fp2.keep 3 (by decide)).trans h3z1
  have hdp2 := fp2.defers.trans hdz1
  refine mv (k := 24) rfl rfl (by rw [hsp2]; decide) (ex_move rfl ep2) ?_
  intro cz2 fz2 ez2
  have hsz2 := fz2.size.trans hsp2
  have h2z2 := (fz2.keep 2 (by decide)).trans h2p2
  have h3z2 := (fz2.keep 3 (by decide)).trans h3p2
  have hdz2 := fz2.defers.trans hdp2
  clear ep2
  refine grp (gi := 19) (g := 24) (k := 25) (x := 2) (y := 3) (b := (((a.kind == b.kind) && (a.shard == b.shard)) && (a.epoch == b.epoch))) (r := a.owner == b.owner) (pol := true) (u1 := .int .i64 a.owner) (u3 := .int .i64 b.owner) (by kernel_rfl) rfl rfl rfl rfl rfl rfl rfl rfl rfl rfl rfl rfl (by rw [hsz2]; decide) (by decide) (by decide) ez2 h2z2 h3z2 (fun _ h => ex_fa rfl h (fa_3 p w2)) (fun _ h => ex_load rfl h (ld_int p 3 _ w2 (((blk_cells hX0).1 3).trans (mc_3 _ _ _ _ _)))) (fun _ h => ex_fa rfl h (fa_3 q w2)) (fun _ h => ex_load rfl h (ld_int q 3 _ w2 (((blk_cells hY0).1 3).trans (mc_3 _ _ _ _ _)))) (fun _ h k => ex_bin rfl h k (guard_int_eql _ _ _ _ w2) (bin_int_eql _ _ w2)) (fun _ _ h => ex_pickA rfl h) ?_
  intro cp3 fp3 ep3
  rw [and_z] at ep3
  have hsp3 := fp3.size.trans hsz2
  have h2p3 := (fp3.keep 2 (by decide)).trans h2z2
  have h3p3 := (fp3.keep 3 (by decide)).trans h3z2
  have hdp3 := fp3.defers.trans hdz2
  refine mv (k := 31) rfl rfl (by rw [hsp3]; decide) (ex_move rfl ep3) ?_
  intro cz3 fz3 ez3
  have hsz3 := fz3.size.trans hsp3
  have h2z3 := (fz3.keep 2 (by decide)).trans h2p3
  have h3z3 := (fz3.keep 3 (by decide)).trans h3p3
  have hdz3 := fz3.defers.trans hdp3
  clear ep3
  refine grp (gi := 26) (g := 31) (k := 32) (x := 2) (y := 3) (b := ((((a.kind == b.kind) && (a.shard == b.shard)) && (a.epoch == b.epoch)) && (a.owner == b.owner))) (r := a.req == b.req) (pol := true) (u1 := .int .i64 a.req) (u3 := .int .i64 b.req) (by kernel_rfl) rfl rfl rfl rfl rfl rfl rfl rfl rfl rfl rfl rfl (by rw [hsz3]; decide) (by decide) (by decide) ez3 h2z3 h3z3 (fun _ h => ex_fa rfl h (fa_4 p w2)) (fun _ h => ex_load rfl h (ld_int p 4 _ w2 (((blk_cells hX0).1 4).trans (mc_4 _ _ _ _ _)))) (fun _ h => ex_fa rfl h (fa_4 q w2)) (fun _ h => ex_load rfl h (ld_int q 4 _ w2 (((blk_cells hY0).1 4).trans (mc_4 _ _ _ _ _)))) (fun _ h k => ex_bin rfl h k (guard_int_eql _ _ _ _ w2) (bin_int_eql _ _ w2)) (fun _ _ h => ex_pickA rfl h) ?_
  intro cp4 fp4 ep4
  rw [and_z] at ep4
  have hsp4 := fp4.size.trans hsz3
  have h2p4 := (fp4.keep 2 (by decide)).trans h2z3
  have h3p4 := (fp4.keep 3 (by decide)).trans h3z3
  have hdp4 := fp4.defers.trans hdz3
  refine mv (k := 38) rfl rfl (by rw [hsp4]; decide) (ex_move rfl ep4) ?_
  intro cz4 fz4 ez4
  have hsz4 := fz4.size.trans hsp4
  have h2z4 := (fz4.keep 2 (by decide)).trans h2p4
  have h3z4 := (fz4.keep 3 (by decide)).trans h3p4
  have hdz4 := fz4.defers.trans hdp4
  clear ep4
  refine grp (gi := 33) (g := 38) (k := 39) (x := 2) (y := 3) (b := (((((a.kind == b.kind) && (a.shard == b.shard)) && (a.epoch == b.epoch)) && (a.owner == b.owner)) && (a.req == b.req))) (r := a.client == b.client) (pol := true) (u1 := .int .i64 a.client) (u3 := .int .i64 b.client) (by kernel_rfl) rfl rfl rfl rfl rfl rfl rfl rfl rfl rfl rfl rfl (by rw [hsz4]; decide) (by decide) (by decide) ez4 h2z4 h3z4 (fun _ h => ex_fa rfl h (fa_5 p w2)) (fun _ h => ex_load rfl h (ld_int p 5 _ w2 (((blk_cells hX0).1 5).trans (mc_5 _ _ _ _ _)))) (fun _ h => ex_fa rfl h (fa_5 q w2)) (fun _ h => ex_load rfl h (ld_int q 5 _ w2 (((blk_cells hY0).1 5).trans (mc_5 _ _ _ _ _)))) (fun _ h k => ex_bin rfl h k (guard_int_eql _ _ _ _ w2) (bin_int_eql _ _ w2)) (fun _ _ h => ex_pickA rfl h) ?_
  intro cp5 fp5 ep5
  rw [and_z] at ep5
  have hsp5 := fp5.size.trans hsz4
  have h2p5 := (fp5.keep 2 (by decide)).trans h2z4
  have h3p5 := (fp5.keep 3 (by decide)).trans h3z4
  have hdp5 := fp5.defers.trans hdz4
  refine mv (k := 45) rfl rfl (by rw [hsp5]; decide) (ex_move rfl ep5) ?_
  intro cz5 fz5 ez5
  have hsz5 := fz5.size.trans hsp5
  have h2z5 := (fz5.keep 2 (by decide)).trans h2p5
  have h3z5 := (fz5.keep 3 (by decide)).trans h3p5
  have hdz5 := fz5.defers.trans hdp5
  clear ep5
  refine grp (gi := 40) (g := 45) (k := 46) (x := 2) (y := 3) (b := ((((((a.kind == b.kind) && (a.shard == b.shard)) && (a.epoch == b.epoch)) && (a.owner == b.owner)) && (a.req == b.req)) && (a.client == b.client))) (r := a.id == b.id) (pol := true) (u1 := .int .i64 a.id) (u3 := .int .i64 b.id) (by kernel_rfl) rfl rfl rfl rfl rfl rfl rfl rfl rfl rfl rfl rfl (by rw [hsz5]; decide) (by decide) (by decide) ez5 h2z5 h3z5 (fun _ h => ex_fa rfl h (fa_6 p w2)) (fun _ h => ex_load rfl h (ld_int p 6 _ w2 (((blk_cells hX0).1 6).trans (mc_6 _ _ _ _ _)))) (fun _ h => ex_fa rfl h (fa_6 q w2)) (fun _ h => ex_load rfl h (ld_int q 6 _ w2 (((blk_cells hY0).1 6).trans (mc_6 _ _ _ _ _)))) (fun _ h k => ex_bin rfl h k (guard_int_eql _ _ _ _ w2) (bin_int_eql _ _ w2)) (fun _ _ h => ex_pickA rfl h) ?_
  intro cp6 fp6 ep6
  rw [and_z] at ep6
  have hsp6 := fp6.size.trans hsz5
  have h2p6 := (fp6.keep 2 (by decide)).trans h2z5
  have h3p6 := (fp6.keep 3 (by decide)).trans h3z5
  have hdp6 := fp6.defers.trans hdz5
  refine mv (k := 52) rfl rfl (by rw [hsp6]; decide) (ex_move rfl ep6) ?_
  intro cz6 fz6 ez6
  have hsz6 := fz6.size.trans hsp6
  have h2z6 := (fz6.keep 2 (by decide)).trans h2p6
  have h3z6 := (fz6.keep 3 (by decide)).trans h3p6
  have hdz6 := fz6.defers.trans hdp6
  clear ep6
  refine grp (gi := 47) (g := 52) (k := 53) (x := 2) (y := 3) (b := (((((((a.kind == b.kind) && (a.shard == b.shard)) && (a.epoch == b.epoch)) && (a.owner == b.owner)) && (a.req == b.req)) && (a.client == b.client)) && (a.id == b.id))) (r := a.op.same b.op) (pol := true) (u1 := .agg #[.int .u8 a.op.kind, .string a.op.key, .string a.op.val, .string a.op.old, .bool a.op.had]) (u3 := .agg #[.int .u8 b.op.kind, .string b.op.key, .string b.op.val, .string b.op.old, .bool b.op.had]) (by kernel_rfl) rfl rfl rfl rfl rfl rfl rfl rfl rfl rfl rfl rfl (by rw [hsz6]; decide) (by decide) (by decide) ez6 h2z6 h3z6 (fun _ h => ex_fa rfl h (fa_7 p w2)) (fun _ h => ex_load rfl h (ld_api_Op p 7 _ _ _ _ _ w2 (((blk_cells hX0).1 7).trans (mc_7 _ _ _ _ _)) (((blk_cells hX0).1 8).trans (mc_8 _ _ _ _ _)) (((blk_cells hX0).1 9).trans (mc_9 _ _ _ _ _)) (((blk_cells hX0).1 10).trans (mc_10 _ _ _ _ _)) (((blk_cells hX0).1 11).trans (mc_11 _ _ _ _ _)))) (fun _ h => ex_fa rfl h (fa_7 q w2)) (fun _ h => ex_load rfl h (ld_api_Op q 7 _ _ _ _ _ w2 (((blk_cells hY0).1 7).trans (mc_7 _ _ _ _ _)) (((blk_cells hY0).1 8).trans (mc_8 _ _ _ _ _)) (((blk_cells hY0).1 9).trans (mc_9 _ _ _ _ _)) (((blk_cells hY0).1 10).trans (mc_10 _ _ _ _ _)) (((blk_cells hY0).1 11).trans (mc_11 _ _ _ _ _)))) (fun _ h k => ex_bin rfl h k (guard_api_Op_eql _ _ _ _ w2) (bin_api_Op_eql _ _ w2)) (fun _ _ h => ex_pickA rfl h) ?_
  intro cp7 fp7 ep7
  rw [and_z] at ep7
  have hsp7 := fp7.size.trans hsz6
  have h2p7 := (fp7.keep 2 (by decide)).trans h2z6
  have h3p7 := (fp7.keep 3 (by decide)).trans h3z6
  have hdp7 := fp7.defers.trans hdz6
  refine mv (k := 59) rfl rfl (by rw [hsp7]; decide) (ex_move rfl ep7) ?_
  intro cz7 fz7 ez7
  have hsz7 := fz7.size.trans hsp7
  have h2z7 := (fz7.keep 2 (by decide)).trans h2p7
  have h3z7 := (fz7.keep 3 (by decide)).trans h3p7
  have hdz7 := fz7.defers.trans hdp7
  clear ep7
  refine grp (gi := 54) (g := 59) (k := 60) (x := 2) (y := 3) (b := ((((((((a.kind == b.kind) && (a.shard == b.shard)) && (a.epoch == b.epoch)) && (a.owner == b.owner)) && (a.req == b.req)) && (a.client == b.client)) && (a.id == b.id)) && a.op.same b.op)) (r := a.code == b.code) (pol := true) (u1 := .int .i64 a.code) (u3 := .int .i64 b.code) (by kernel_rfl) rfl rfl rfl rfl rfl rfl rfl rfl rfl rfl rfl rfl (by rw [hsz7]; decide) (by decide) (by decide) ez7 h2z7 h3z7 (fun _ h => ex_fa rfl h (fa_8 p w2)) (fun _ h => ex_load rfl h (ld_api_Errno p 12 _ w2 (((blk_cells hX0).1 12).trans (mc_12 _ _ _ _ _)))) (fun _ h => ex_fa rfl h (fa_8 q w2)) (fun _ h => ex_load rfl h (ld_api_Errno q 12 _ w2 (((blk_cells hY0).1 12).trans (mc_12 _ _ _ _ _)))) (fun _ h k => ex_bin rfl h k (guard_api_Errno_eql _ _ _ _ w2) (bin_api_Errno_eql _ _ w2)) (fun _ _ h => ex_pickA rfl h) ?_
  intro cp8 fp8 ep8
  rw [and_z] at ep8
  have hsp8 := fp8.size.trans hsz7
  have h2p8 := (fp8.keep 2 (by decide)).trans h2z7
  have h3p8 := (fp8.keep 3 (by decide)).trans h3z7
  have hdp8 := fp8.defers.trans hdz7
  refine mv (k := 66) rfl rfl (by rw [hsp8]; decide) (ex_move rfl ep8) ?_
  intro cz8 fz8 ez8
  have hsz8 := fz8.size.trans hsp8
  have h2z8 := (fz8.keep 2 (by decide)).trans h2p8
  have h3z8 := (fz8.keep 3 (by decide)).trans h3p8
  have hdz8 := fz8.defers.trans hdp8
  clear ep8
  refine grp (gi := 61) (g := 66) (k := 67) (x := 2) (y := 3) (b := (((((((((a.kind == b.kind) && (a.shard == b.shard)) && (a.epoch == b.epoch)) && (a.owner == b.owner)) && (a.req == b.req)) && (a.client == b.client)) && (a.id == b.id)) && a.op.same b.op) && (a.code == b.code))) (r := a.res.same b.res) (pol := true) (u1 := .agg #[.int .u8 a.res.kind, .bool a.res.found, .string a.res.val]) (u3 := .agg #[.int .u8 b.res.kind, .bool b.res.found, .string b.res.val]) (by kernel_rfl) rfl rfl rfl rfl rfl rfl rfl rfl rfl rfl rfl rfl (by rw [hsz8]; decide) (by decide) (by decide) ez8 h2z8 h3z8 (fun _ h => ex_fa rfl h (fa_9 p w2)) (fun _ h => ex_load rfl h (ld_api_Result p 13 _ _ _ w2 (((blk_cells hX0).1 13).trans (mc_13 _ _ _ _ _)) (((blk_cells hX0).1 14).trans (mc_14 _ _ _ _ _)) (((blk_cells hX0).1 15).trans (mc_15 _ _ _ _ _)))) (fun _ h => ex_fa rfl h (fa_9 q w2)) (fun _ h => ex_load rfl h (ld_api_Result q 13 _ _ _ w2 (((blk_cells hY0).1 13).trans (mc_13 _ _ _ _ _)) (((blk_cells hY0).1 14).trans (mc_14 _ _ _ _ _)) (((blk_cells hY0).1 15).trans (mc_15 _ _ _ _ _)))) (fun _ h k => ex_bin rfl h k (guard_api_Result_eql _ _ _ _ w2) (bin_api_Result_eql _ _ w2)) (fun _ _ h => ex_pickA rfl h) ?_
  intro cp9 fp9 ep9
  rw [and_z] at ep9
  have hsp9 := fp9.size.trans hsz8
  have h2p9 := (fp9.keep 2 (by decide)).trans h2z8
  have h3p9 := (fp9.keep 3 (by decide)).trans h3z8
  have hdp9 := fp9.defers.trans hdz8
  refine mv (k := 73) rfl rfl (by rw [hsp9]; decide) (ex_move rfl ep9) ?_
  intro cz9 fz9 ez9
  have hsz9 := fz9.size.trans hsp9
  have h2z9 := (fz9.keep 2 (by decide)).trans h2p9
  have h3z9 := (fz9.keep 3 (by decide)).trans h3p9
  have hdz9 := fz9.defers.trans hdp9
  clear ep9
  refine grp (gi := 68) (g := 73) (k := 74) (x := 2) (y := 3) (b := ((((((((((a.kind == b.kind) && (a.shard == b.shard)) && (a.epoch == b.epoch)) && (a.owner == b.owner)) && (a.req == b.req)) && (a.client == b.client)) && (a.id == b.id)) && a.op.same b.op) && (a.code == b.code)) && a.res.same b.res)) (r := a.grant == b.grant) (pol := true) (u1 := .int .i64 a.grant) (u3 := .int .i64 b.grant) (by kernel_rfl) rfl rfl rfl rfl rfl rfl rfl rfl rfl rfl rfl rfl (by rw [hsz9]; decide) (by decide) (by decide) ez9 h2z9 h3z9 (fun _ h => ex_fa rfl h (fa_10 p w2)) (fun _ h => ex_load rfl h (ld_int p 16 _ w2 (((blk_cells hX0).1 16).trans (mc_16 _ _ _ _ _)))) (fun _ h => ex_fa rfl h (fa_10 q w2)) (fun _ h => ex_load rfl h (ld_int q 16 _ w2 (((blk_cells hY0).1 16).trans (mc_16 _ _ _ _ _)))) (fun _ h k => ex_bin rfl h k (guard_int_eql _ _ _ _ w2) (bin_int_eql _ _ w2)) (fun _ _ h => ex_pickA rfl h) ?_
  intro cp10 fp10 ep10
  rw [and_z] at ep10
  have hsp10 := fp10.size.trans hsz9
  have h2p10 := (fp10.keep 2 (by decide)).trans h2z9
  have h3p10 := (fp10.keep 3 (by decide)).trans h3z9
  have hdp10 := fp10.defers.trans hdz9
  refine mv (k := 80) rfl rfl (by rw [hsp10]; decide) (ex_move rfl ep10) ?_
  intro cz10 fz10 ez10
  have hsz10 := fz10.size.trans hsp10
  have h2z10 := (fz10.keep 2 (by decide)).trans h2p10
  have h3z10 := (fz10.keep 3 (by decide)).trans h3p10
  have hdz10 := fz10.defers.trans hdp10
  clear ep10
  refine grp (gi := 75) (g := 80) (k := 81) (x := 2) (y := 3) (b := (((((((((((a.kind == b.kind) && (a.shard == b.shard)) && (a.epoch == b.epoch)) && (a.owner == b.owner)) && (a.req == b.req)) && (a.client == b.client)) && (a.id == b.id)) && a.op.same b.op) && (a.code == b.code)) && a.res.same b.res) && (a.grant == b.grant))) (r := a.term == b.term) (pol := true) (u1 := .int .i64 a.term) (u3 := .int .i64 b.term) (by kernel_rfl) rfl rfl rfl rfl rfl rfl rfl rfl rfl rfl rfl rfl (by rw [hsz10]; decide) (by decide) (by decide) ez10 h2z10 h3z10 (fun _ h => ex_fa rfl h (fa_11 p w2)) (fun _ h => ex_load rfl h (ld_int p 17 _ w2 (((blk_cells hX0).1 17).trans (mc_17 _ _ _ _ _)))) (fun _ h => ex_fa rfl h (fa_11 q w2)) (fun _ h => ex_load rfl h (ld_int q 17 _ w2 (((blk_cells hY0).1 17).trans (mc_17 _ _ _ _ _)))) (fun _ h k => ex_bin rfl h k (guard_int_eql _ _ _ _ w2) (bin_int_eql _ _ w2)) (fun _ _ h => ex_pickA rfl h) ?_
  intro cp11 fp11 ep11
  rw [and_z] at ep11
  have hsp11 := fp11.size.trans hsz10
  have h2p11 := (fp11.keep 2 (by decide)).trans h2z10
  have h3p11 := (fp11.keep 3 (by decide)).trans h3z10
  have hdp11 := fp11.defers.trans hdz10
  refine mv (k := 87) rfl rfl (by rw [hsp11]; decide) (ex_move rfl ep11) ?_
  intro cz11 fz11 ez11
  have hsz11 := fz11.size.trans hsp11
  have h2z11 := (fz11.keep 2 (by decide)).trans h2p11
  have h3z11 := (fz11.keep 3 (by decide)).trans h3p11
  have hdz11 := fz11.defers.trans hdp11
  clear ep11
  refine grp (gi := 82) (g := 87) (k := 88) (x := 2) (y := 3) (b := ((((((((((((a.kind == b.kind) && (a.shard == b.shard)) && (a.epoch == b.epoch)) && (a.owner == b.owner)) && (a.req == b.req)) && (a.client == b.client)) && (a.id == b.id)) && a.op.same b.op) && (a.code == b.code)) && a.res.same b.res) && (a.grant == b.grant)) && (a.term == b.term))) (r := a.index == b.index) (pol := true) (u1 := .int .i64 a.index) (u3 := .int .i64 b.index) (by kernel_rfl) rfl rfl rfl rfl rfl rfl rfl rfl rfl rfl rfl rfl (by rw [hsz11]; decide) (by decide) (by decide) ez11 h2z11 h3z11 (fun _ h => ex_fa rfl h (fa_12 p w2)) (fun _ h => ex_load rfl h (ld_int p 18 _ w2 (((blk_cells hX0).1 18).trans (mc_18 _ _ _ _ _)))) (fun _ h => ex_fa rfl h (fa_12 q w2)) (fun _ h => ex_load rfl h (ld_int q 18 _ w2 (((blk_cells hY0).1 18).trans (mc_18 _ _ _ _ _)))) (fun _ h k => ex_bin rfl h k (guard_int_eql _ _ _ _ w2) (bin_int_eql _ _ w2)) (fun _ _ h => ex_pickA rfl h) ?_
  intro cp12 fp12 ep12
  rw [and_z] at ep12
  have hsp12 := fp12.size.trans hsz11
  have h2p12 := (fp12.keep 2 (by decide)).trans h2z11
  have h3p12 := (fp12.keep 3 (by decide)).trans h3z11
  have hdp12 := fp12.defers.trans hdz11
  refine mv (k := 94) rfl rfl (by rw [hsp12]; decide) (ex_move rfl ep12) ?_
  intro cz12 fz12 ez12
  have hsz12 := fz12.size.trans hsp12
  have h2z12 := (fz12.keep 2 (by decide)).trans h2p12
  have h3z12 := (fz12.keep 3 (by decide)).trans h3p12
  have hdz12 := fz12.defers.trans hdp12
  clear ep12
  refine grp (gi := 89) (g := 94) (k := 95) (x := 2) (y := 3) (b := (((((((((((((a.kind == b.kind) && (a.shard == b.shard)) && (a.epoch == b.epoch)) && (a.owner == b.owner)) && (a.req == b.req)) && (a.client == b.client)) && (a.id == b.id)) && a.op.same b.op) && (a.code == b.code)) && a.res.same b.res) && (a.grant == b.grant)) && (a.term == b.term)) && (a.index == b.index))) (r := a.prev == b.prev) (pol := true) (u1 := .int .i64 a.prev) (u3 := .int .i64 b.prev) (by kernel_rfl) rfl rfl rfl rfl rfl rfl rfl rfl rfl rfl rfl rfl (by rw [hsz12]; decide) (by decide) (by decide) ez12 h2z12 h3z12 (fun _ h => ex_fa rfl h (fa_13 p w2)) (fun _ h => ex_load rfl h (ld_int p 19 _ w2 (((blk_cells hX0).1 19).trans (mc_19 _ _ _ _ _)))) (fun _ h => ex_fa rfl h (fa_13 q w2)) (fun _ h => ex_load rfl h (ld_int q 19 _ w2 (((blk_cells hY0).1 19).trans (mc_19 _ _ _ _ _)))) (fun _ h k => ex_bin rfl h k (guard_int_eql _ _ _ _ w2) (bin_int_eql _ _ w2)) (fun _ _ h => ex_pickA rfl h) ?_
  intro cp13 fp13 ep13
  rw [and_z] at ep13
  have hsp13 := fp13.size.trans hsz12
  have h2p13 := (fp13.keep 2 (by decide)).trans h2z12
  have h3p13 := (fp13.keep 3 (by decide)).trans h3z12
  have hdp13 := fp13.defers.trans hdz12
  refine mv (k := 101) rfl rfl (by rw [hsp13]; decide) (ex_move rfl ep13) ?_
  intro cz13 fz13 ez13
  have hsz13 := fz13.size.trans hsp13
  have h2z13 := (fz13.keep 2 (by decide)).trans h2p13
  have h3z13 := (fz13.keep 3 (by decide)).trans h3p13
  have hdz13 := fz13.defers.trans hdp13
  clear ep13
  refine grp (gi := 96) (g := 101) (k := 102) (x := 2) (y := 3) (b := ((((((((((((((a.kind == b.kind) && (a.shard == b.shard)) && (a.epoch == b.epoch)) && (a.owner == b.owner)) && (a.req == b.req)) && (a.client == b.client)) && (a.id == b.id)) && a.op.same b.op) && (a.code == b.code)) && a.res.same b.res) && (a.grant == b.grant)) && (a.term == b.term)) && (a.index == b.index)) && (a.prev == b.prev))) (r := a.commit == b.commit) (pol := true) (u1 := .int .i64 a.commit) (u3 := .int .i64 b.commit) (by kernel_rfl) rfl rfl rfl rfl rfl rfl rfl rfl rfl rfl rfl rfl (by rw [hsz13]; decide) (by decide) (by decide) ez13 h2z13 h3z13 (fun _ h => ex_fa rfl h (fa_14 p w2)) (fun _ h => ex_load rfl h (ld_int p 20 _ w2 (((blk_cells hX0).1 20).trans (mc_20 _ _ _ _ _)))) (fun _ h => ex_fa rfl h (fa_14 q w2)) (fun _ h => ex_load rfl h (ld_int q 20 _ w2 (((blk_cells hY0).1 20).trans (mc_20 _ _ _ _ _)))) (fun _ h k => ex_bin rfl h k (guard_int_eql _ _ _ _ w2) (bin_int_eql _ _ w2)) (fun _ _ h => ex_pickA rfl h) ?_
  intro cp14 fp14 ep14
  rw [and_z] at ep14
  have hsp14 := fp14.size.trans hsz13
  have h2p14 := (fp14.keep 2 (by decide)).trans h2z13
  have h3p14 := (fp14.keep 3 (by decide)).trans h3z13
  have hdp14 := fp14.defers.trans hdz13
  refine mv (k := 108) rfl rfl (by rw [hsp14]; decide) (ex_move rfl ep14) ?_
  intro cz14 fz14 ez14
  have hsz14 := fz14.size.trans hsp14
  have h2z14 := (fz14.keep 2 (by decide)).trans h2p14
  have h3z14 := (fz14.keep 3 (by decide)).trans h3p14
  have hdz14 := fz14.defers.trans hdp14
  clear ep14
  refine grp (gi := 103) (g := 108) (k := 109) (x := 2) (y := 3) (b := (((((((((((((((a.kind == b.kind) && (a.shard == b.shard)) && (a.epoch == b.epoch)) && (a.owner == b.owner)) && (a.req == b.req)) && (a.client == b.client)) && (a.id == b.id)) && a.op.same b.op) && (a.code == b.code)) && a.res.same b.res) && (a.grant == b.grant)) && (a.term == b.term)) && (a.index == b.index)) && (a.prev == b.prev)) && (a.commit == b.commit))) (r := a.granted == b.granted) (pol := true) (u1 := .bool a.granted) (u3 := .bool b.granted) (by kernel_rfl) rfl rfl rfl rfl rfl rfl rfl rfl rfl rfl rfl rfl (by rw [hsz14]; decide) (by decide) (by decide) ez14 h2z14 h3z14 (fun _ h => ex_fa rfl h (fa_15 p w2)) (fun _ h => ex_load rfl h (ld_bool p 21 _ w2 (((blk_cells hX0).1 21).trans (mc_21 _ _ _ _ _)))) (fun _ h => ex_fa rfl h (fa_15 q w2)) (fun _ h => ex_load rfl h (ld_bool q 21 _ w2 (((blk_cells hY0).1 21).trans (mc_21 _ _ _ _ _)))) (fun _ h k => ex_bin rfl h k (guard_bool_eql _ _ _ _ w2) (bin_bool_eql _ _ w2)) (fun _ _ h => ex_pickA rfl h) ?_
  intro cp15 fp15 ep15
  rw [and_z] at ep15
  have hsp15 := fp15.size.trans hsz14
  have h2p15 := (fp15.keep 2 (by decide)).trans h2z14
  have h3p15 := (fp15.keep 3 (by decide)).trans h3z14
  have hdp15 := fp15.defers.trans hdz14
  refine mv (k := 115) rfl rfl (by rw [hsp15]; decide) (ex_move rfl ep15) ?_
  intro cz15 fz15 ez15
  have hsz15 := fz15.size.trans hsp15
  have h2z15 := (fz15.keep 2 (by decide)).trans h2p15
  have h3z15 := (fz15.keep 3 (by decide)).trans h3p15
  have hdz15 := fz15.defers.trans hdp15
  clear ep15
  refine grpc (gi := 110) (g := 115) (k := 116) (x := 2) (y := 3) (b := ((((((((((((((((a.kind == b.kind) && (a.shard == b.shard)) && (a.epoch == b.epoch)) && (a.owner == b.owner)) && (a.req == b.req)) && (a.client == b.client)) && (a.id == b.id)) && a.op.same b.op) && (a.code == b.code)) && a.res.same b.res) && (a.grant == b.grant)) && (a.term == b.term)) && (a.index == b.index)) && (a.prev == b.prev)) && (a.commit == b.commit)) && (a.granted == b.granted))) (r := sameL EN.same a.entries b.entries) (pol := true) (u1 := vE1) (u3 := vE2) (by kernel_rfl) rfl rfl rfl rfl rfl rfl rfl rfl rfl rfl rfl rfl (by rw [hsz15]; decide) (by decide) (by decide) ez15 h2z15 h3z15 (fun _ h => ex_fa rfl h (fa_16 p w2)) (fun _ h => ex_load rfl h (ld_Sapi_Entry p 22 _ w2 (((blk_cells hX0).1 22).trans (mc_22 _ _ _ _ _)))) (fun _ h => ex_fa rfl h (fa_16 q w2)) (fun _ h => ex_load rfl h (ld_Sapi_Entry q 22 _ w2 (((blk_cells hY0).1 22).trans (mc_22 _ _ _ _ _)))) (fun _ h k => ex_call2f rfl (run_enter Try.func61 (by kernel_rfl) (by kernel_rfl)) h k) (equalE_any _ _ _ _ w2 hA0.e hC0.e) (fun _ _ _ h => ex_pickA rfl h) ?_
  intro cp16 v16 fp16 hbp16 ep16
  have hXp16 := (hbp16.block p (Array.getElem?_eq_some_iff.1 hX0).1).trans hX0
  have hYp16 := (hbp16.block q (Array.getElem?_eq_some_iff.1 hY0).1).trans hY0
  have hAp16 := hA0.grow hbp16
  have hCp16 := hC0.grow hbp16
  have hBp16 := hB0.trans (Joins.below_le hbp16 hB0.size)
  rw [and_z] at ep16
  have hsp16 := fp16.size.trans hsz15
  have h2p16 := (fp16.keep 2 (by decide)).trans h2z15
  have h3p16 := (fp16.keep 3 (by decide)).trans h3z15
  have hdp16 := fp16.defers.trans hdz15
  refine mv (k := 122) rfl rfl (by rw [hsp16]; decide) (ex_move rfl ep16) ?_
  intro cz16 fz16 ez16
  have hsz16 := fz16.size.trans hsp16
  have h2z16 := (fz16.keep 2 (by decide)).trans h2p16
  have h3z16 := (fz16.keep 3 (by decide)).trans h3p16
  have hdz16 := fz16.defers.trans hdp16
  clear ep16
  refine grpc (gi := 117) (g := 122) (k := 123) (x := 2) (y := 3) (b := (((((((((((((((((a.kind == b.kind) && (a.shard == b.shard)) && (a.epoch == b.epoch)) && (a.owner == b.owner)) && (a.req == b.req)) && (a.client == b.client)) && (a.id == b.id)) && a.op.same b.op) && (a.code == b.code)) && a.res.same b.res) && (a.grant == b.grant)) && (a.term == b.term)) && (a.index == b.index)) && (a.prev == b.prev)) && (a.commit == b.commit)) && (a.granted == b.granted)) && sameL EN.same a.entries b.entries)) (r := sameL iSame a.list b.list) (pol := true) (u1 := vL1) (u3 := vL2) (by kernel_rfl) rfl rfl rfl rfl rfl rfl rfl rfl rfl rfl rfl rfl (by rw [hsz16]; decide) (by decide) (by decide) ez16 h2z16 h3z16 (fun _ h => ex_fa rfl h (fa_17 p v16)) (fun _ h => ex_load rfl h (ld_Sint p 23 _ v16 (((blk_cells hXp16).1 23).trans (mc_23 _ _ _ _ _)))) (fun _ h => ex_fa rfl h (fa_17 q v16)) (fun _ h => ex_load rfl h (ld_Sint q 23 _ v16 (((blk_cells hYp16).1 23).trans (mc_23 _ _ _ _ _)))) (fun _ h k => ex_call2 rfl (run_enter Try.func63 (by kernel_rfl) (by kernel_rfl)) h k) (equalI_any _ _ _ _ v16 hAp16.l hCp16.l) (fun _ _ _ h => ex_pickA rfl h) ?_
  intro cp17 v17 fp17 hbp17 ep17
  have hXp17 := (hbp17.block p (Array.getElem?_eq_some_iff.1 hXp16).1).trans hXp16
  have hYp17 := (hbp17.block q (Array.getElem?_eq_some_iff.1 hYp16).1).trans hYp16
  have hAp17 := hAp16.grow hbp17
  have hCp17 := hCp16.grow hbp17
  have hBp17 := hBp16.trans (Joins.below_le hbp17 hBp16.size)
  rw [and_z] at ep17
  have hsp17 := fp17.size.trans hsz16
  have h2p17 := (fp17.keep 2 (by decide)).trans h2z16
  have h3p17 := (fp17.keep 3 (by decide)).trans h3z16
  have hdp17 := fp17.defers.trans hdz16
  refine mv (k := 129) rfl rfl (by rw [hsp17]; decide) (ex_move rfl ep17) ?_
  intro cz17 fz17 ez17
  have hsz17 := fz17.size.trans hsp17
  have h2z17 := (fz17.keep 2 (by decide)).trans h2p17
  have h3z17 := (fz17.keep 3 (by decide)).trans h3p17
  have hdz17 := fz17.defers.trans hdp17
  clear ep17
  refine grp (gi := 124) (g := 129) (k := 130) (x := 2) (y := 3) (b := ((((((((((((((((((a.kind == b.kind) && (a.shard == b.shard)) && (a.epoch == b.epoch)) && (a.owner == b.owner)) && (a.req == b.req)) && (a.client == b.client)) && (a.id == b.id)) && a.op.same b.op) && (a.code == b.code)) && a.res.same b.res) && (a.grant == b.grant)) && (a.term == b.term)) && (a.index == b.index)) && (a.prev == b.prev)) && (a.commit == b.commit)) && (a.granted == b.granted)) && sameL EN.same a.entries b.entries) && sameL iSame a.list b.list)) (r := a.state.toList == b.state.toList) (pol := true) (u1 := .string a.state) (u3 := .string b.state) (by kernel_rfl) rfl rfl rfl rfl rfl rfl rfl rfl rfl rfl rfl rfl (by rw [hsz17]; decide) (by decide) (by decide) ez17 h2z17 h3z17 (fun _ h => ex_fa rfl h (fa_18 p v17)) (fun _ h => ex_load rfl h (ld_string p 24 _ v17 (((blk_cells hXp17).1 24).trans (mc_24 _ _ _ _ _)))) (fun _ h => ex_fa rfl h (fa_18 q v17)) (fun _ h => ex_load rfl h (ld_string q 24 _ v17 (((blk_cells hYp17).1 24).trans (mc_24 _ _ _ _ _)))) (fun _ h k => ex_bin rfl h k (guard_string_eql _ _ _ _ v17) (bin_string_eql _ _ v17)) (fun _ _ h => ex_pickA rfl h) ?_
  intro cp18 fp18 ep18
  rw [and_z] at ep18
  have hsp18 := fp18.size.trans hsz17
  have h2p18 := (fp18.keep 2 (by decide)).trans h2z17
  have h3p18 := (fp18.keep 3 (by decide)).trans h3z17
  have hdp18 := fp18.defers.trans hdz17
  refine mv (k := 136) rfl rfl (by rw [hsp18]; decide) (ex_move rfl ep18) ?_
  intro cz18 fz18 ez18
  have hsz18 := fz18.size.trans hsp18
  have h2z18 := (fz18.keep 2 (by decide)).trans h2p18
  have h3z18 := (fz18.keep 3 (by decide)).trans h3p18
  have hdz18 := fz18.defers.trans hdp18
  clear ep18
  refine grp (gi := 131) (g := 136) (k := 137) (x := 2) (y := 3) (b := (((((((((((((((((((a.kind == b.kind) && (a.shard == b.shard)) && (a.epoch == b.epoch)) && (a.owner == b.owner)) && (a.req == b.req)) && (a.client == b.client)) && (a.id == b.id)) && a.op.same b.op) && (a.code == b.code)) && a.res.same b.res) && (a.grant == b.grant)) && (a.term == b.term)) && (a.index == b.index)) && (a.prev == b.prev)) && (a.commit == b.commit)) && (a.granted == b.granted)) && sameL EN.same a.entries b.entries) && sameL iSame a.list b.list) && (a.state.toList == b.state.toList))) (r := a.part == b.part) (pol := true) (u1 := .int .i64 a.part) (u3 := .int .i64 b.part) (by kernel_rfl) rfl rfl rfl rfl rfl rfl rfl rfl rfl rfl rfl rfl (by rw [hsz18]; decide) (by decide) (by decide) ez18 h2z18 h3z18 (fun _ h => ex_fa rfl h (fa_19 p v17)) (fun _ h => ex_load rfl h (ld_int p 25 _ v17 (((blk_cells hXp17).1 25).trans (mc_25 _ _ _ _ _)))) (fun _ h => ex_fa rfl h (fa_19 q v17)) (fun _ h => ex_load rfl h (ld_int q 25 _ v17 (((blk_cells hYp17).1 25).trans (mc_25 _ _ _ _ _)))) (fun _ h k => ex_bin rfl h k (guard_int_eql _ _ _ _ v17) (bin_int_eql _ _ v17)) (fun _ _ h => ex_pickA rfl h) ?_
  intro cp19 fp19 ep19
  rw [and_z] at ep19
  have hsp19 := fp19.size.trans hsz18
  have h2p19 := (fp19.keep 2 (by decide)).trans h2z18
  have h3p19 := (fp19.keep 3 (by decide)).trans h3z18
  have hdp19 := fp19.defers.trans hdz18
  refine mv (k := 143) rfl rfl (by rw [hsp19]; decide) (ex_move rfl ep19) ?_
  intro cz19 fz19 ez19
  have hsz19 := fz19.size.trans hsp19
  have h2z19 := (fz19.keep 2 (by decide)).trans h2p19
  have h3z19 := (fz19.keep 3 (by decide)).trans h3p19
  have hdz19 := fz19.defers.trans hdp19
  clear ep19
  refine grp (gi := 138) (g := 143) (k := 144) (x := 2) (y := 3) (b := ((((((((((((((((((((a.kind == b.kind) && (a.shard == b.shard)) && (a.epoch == b.epoch)) && (a.owner == b.owner)) && (a.req == b.req)) && (a.client == b.client)) && (a.id == b.id)) && a.op.same b.op) && (a.code == b.code)) && a.res.same b.res) && (a.grant == b.grant)) && (a.term == b.term)) && (a.index == b.index)) && (a.prev == b.prev)) && (a.commit == b.commit)) && (a.granted == b.granted)) && sameL EN.same a.entries b.entries) && sameL iSame a.list b.list) && (a.state.toList == b.state.toList)) && (a.part == b.part))) (r := a.last == b.last) (pol := true) (u1 := .bool a.last) (u3 := .bool b.last) (by kernel_rfl) rfl rfl rfl rfl rfl rfl rfl rfl rfl rfl rfl rfl (by rw [hsz19]; decide) (by decide) (by decide) ez19 h2z19 h3z19 (fun _ h => ex_fa rfl h (fa_20 p v17)) (fun _ h => ex_load rfl h (ld_bool p 26 _ v17 (((blk_cells hXp17).1 26).trans (mc_26 _ _ _ _ _)))) (fun _ h => ex_fa rfl h (fa_20 q v17)) (fun _ h => ex_load rfl h (ld_bool q 26 _ v17 (((blk_cells hYp17).1 26).trans (mc_26 _ _ _ _ _)))) (fun _ h k => ex_bin rfl h k (guard_bool_eql _ _ _ _ v17) (bin_bool_eql _ _ v17)) (fun _ _ h => ex_pickA rfl h) ?_
  intro cp20 fp20 ep20
  rw [and_z] at ep20
  have hsp20 := fp20.size.trans hsz19
  have h2p20 := (fp20.keep 2 (by decide)).trans h2z19
  have h3p20 := (fp20.keep 3 (by decide)).trans h3z19
  have hdp20 := fp20.defers.trans hdz19
  refine mv (k := 150) rfl rfl (by rw [hsp20]; decide) (ex_move rfl ep20) ?_
  intro cz20 fz20 ez20
  have hsz20 := fz20.size.trans hsp20
  have h2z20 := (fz20.keep 2 (by decide)).trans h2p20
  have h3z20 := (fz20.keep 3 (by decide)).trans h3p20
  have hdz20 := fz20.defers.trans hdp20
  clear ep20
  refine grpc (gi := 145) (g := 150) (k := 151) (x := 2) (y := 3) (b := (((((((((((((((((((((a.kind == b.kind) && (a.shard == b.shard)) && (a.epoch == b.epoch)) && (a.owner == b.owner)) && (a.req == b.req)) && (a.client == b.client)) && (a.id == b.id)) && a.op.same b.op) && (a.code == b.code)) && a.res.same b.res) && (a.grant == b.grant)) && (a.term == b.term)) && (a.index == b.index)) && (a.prev == b.prev)) && (a.commit == b.commit)) && (a.granted == b.granted)) && sameL EN.same a.entries b.entries) && sameL iSame a.list b.list) && (a.state.toList == b.state.toList)) && (a.part == b.part)) && (a.last == b.last))) (r := sameL PP.same a.pairs b.pairs) (pol := true) (u1 := vP1) (u3 := vP2) (by kernel_rfl) rfl rfl rfl rfl rfl rfl rfl rfl rfl rfl rfl rfl (by rw [hsz20]; decide) (by decide) (by decide) ez20 h2z20 h3z20 (fun _ h => ex_fa rfl h (fa_21 p v17)) (fun _ h => ex_load rfl h (ld_Sapi_Pair p 27 _ v17 (((blk_cells hXp17).1 27).trans (mc_27 _ _ _ _ _)))) (fun _ h => ex_fa rfl h (fa_21 q v17)) (fun _ h => ex_load rfl h (ld_Sapi_Pair q 27 _ v17 (((blk_cells hYp17).1 27).trans (mc_27 _ _ _ _ _)))) (fun _ h k => ex_call2 rfl (run_enter Try.func64 (by kernel_rfl) (by kernel_rfl)) h k) (equalP_any _ _ _ _ v17 hAp17.p hCp17.p) (fun _ _ _ h => ex_pickA rfl h) ?_
  intro cp21 v21 fp21 hbp21 ep21
  have hXp21 := (hbp21.block p (Array.getElem?_eq_some_iff.1 hXp17).1).trans hXp17
  have hYp21 := (hbp21.block q (Array.getElem?_eq_some_iff.1 hYp17).1).trans hYp17
  have hAp21 := hAp17.grow hbp21
  have hCp21 := hCp17.grow hbp21
  have hBp21 := hBp17.trans (Joins.below_le hbp21 hBp17.size)
  rw [and_z] at ep21
  have hsp21 := fp21.size.trans hsz20
  have h2p21 := (fp21.keep 2 (by decide)).trans h2z20
  have h3p21 := (fp21.keep 3 (by decide)).trans h3z20
  have hdp21 := fp21.defers.trans hdz20
  refine mv (k := 157) rfl rfl (by rw [hsp21]; decide) (ex_move rfl ep21) ?_
  intro cz21 fz21 ez21
  have hsz21 := fz21.size.trans hsp21
  have h2z21 := (fz21.keep 2 (by decide)).trans h2p21
  have h3z21 := (fz21.keep 3 (by decide)).trans h3p21
  have hdz21 := fz21.defers.trans hdp21
  clear ep21
  refine grpc (gi := 152) (g := 157) (k := 158) (x := 2) (y := 3) (b := ((((((((((((((((((((((a.kind == b.kind) && (a.shard == b.shard)) && (a.epoch == b.epoch)) && (a.owner == b.owner)) && (a.req == b.req)) && (a.client == b.client)) && (a.id == b.id)) && a.op.same b.op) && (a.code == b.code)) && a.res.same b.res) && (a.grant == b.grant)) && (a.term == b.term)) && (a.index == b.index)) && (a.prev == b.prev)) && (a.commit == b.commit)) && (a.granted == b.granted)) && sameL EN.same a.entries b.entries) && sameL iSame a.list b.list) && (a.state.toList == b.state.toList)) && (a.part == b.part)) && (a.last == b.last)) && sameL PP.same a.pairs b.pairs)) (r := sameL PL.same a.lasts b.lasts) (pol := true) (u1 := vX1) (u3 := vX2) (by kernel_rfl) rfl rfl rfl rfl rfl rfl rfl rfl rfl rfl rfl rfl (by rw [hsz21]; decide) (by decide) (by decide) ez21 h2z21 h3z21 (fun _ h => ex_fa rfl h (fa_22 p v21)) (fun _ h => ex_load rfl h (ld_Sapi_Last p 28 _ v21 (((blk_cells hXp21).1 28).trans (mc_28 _ _ _ _ _)))) (fun _ h => ex_fa rfl h (fa_22 q v21)) (fun _ h => ex_load rfl h (ld_Sapi_Last q 28 _ v21 (((blk_cells hYp21).1 28).trans (mc_28 _ _ _ _ _)))) (fun _ h k => ex_call2 rfl (run_enter Try.func65 (by kernel_rfl) (by kernel_rfl)) h k) (equalL_any _ _ _ _ v21 hAp21.x hCp21.x) (fun _ _ _ h => ex_pickA rfl h) ?_
  intro cp22 v22 fp22 hbp22 ep22
  have hXp22 := (hbp22.block p (Array.getElem?_eq_some_iff.1 hXp21).1).trans hXp21
  have hYp22 := (hbp22.block q (Array.getElem?_eq_some_iff.1 hYp21).1).trans hYp21
  have hAp22 := hAp21.grow hbp22
  have hCp22 := hCp21.grow hbp22
  have hBp22 := hBp21.trans (Joins.below_le hbp22 hBp21.size)
  rw [and_z] at ep22
  have hsp22 := fp22.size.trans hsz21
  have h2p22 := (fp22.keep 2 (by decide)).trans h2z21
  have h3p22 := (fp22.keep 3 (by decide)).trans h3z21
  have hdp22 := fp22.defers.trans hdz21
  refine mv (k := 164) rfl rfl (by rw [hsp22]; decide) (ex_move rfl ep22) ?_
  intro cz22 fz22 ez22
  have hsz22 := fz22.size.trans hsp22
  have h2z22 := (fz22.keep 2 (by decide)).trans h2p22
  have h3z22 := (fz22.keep 3 (by decide)).trans h3p22
  have hdz22 := fz22.defers.trans hdp22
  clear ep22
  refine grp (gi := 159) (g := 164) (k := 165) (x := 2) (y := 3) (b := (((((((((((((((((((((((a.kind == b.kind) && (a.shard == b.shard)) && (a.epoch == b.epoch)) && (a.owner == b.owner)) && (a.req == b.req)) && (a.client == b.client)) && (a.id == b.id)) && a.op.same b.op) && (a.code == b.code)) && a.res.same b.res) && (a.grant == b.grant)) && (a.term == b.term)) && (a.index == b.index)) && (a.prev == b.prev)) && (a.commit == b.commit)) && (a.granted == b.granted)) && sameL EN.same a.entries b.entries) && sameL iSame a.list b.list) && (a.state.toList == b.state.toList)) && (a.part == b.part)) && (a.last == b.last)) && sameL PP.same a.pairs b.pairs) && sameL PL.same a.lasts b.lasts)) (r := a.cmd.same b.cmd) (pol := true) (u1 := .agg #[.int .u8 a.cmd.kind, .int .i64 a.cmd.shard, .int .i64 a.cmd.store, .int .i64 a.cmd.epoch]) (u3 := .agg #[.int .u8 b.cmd.kind, .int .i64 b.cmd.shard, .int .i64 b.cmd.store, .int .i64 b.cmd.epoch]) (by kernel_rfl) rfl rfl rfl rfl rfl rfl rfl rfl rfl rfl rfl rfl (by rw [hsz22]; decide) (by decide) (by decide) ez22 h2z22 h3z22 (fun _ h => ex_fa rfl h (fa_23 p v22)) (fun _ h => ex_load rfl h (ld_api_Command p 29 _ _ _ _ v22 (((blk_cells hXp22).1 29).trans (mc_29 _ _ _ _ _)) (((blk_cells hXp22).1 30).trans (mc_30 _ _ _ _ _)) (((blk_cells hXp22).1 31).trans (mc_31 _ _ _ _ _)) (((blk_cells hXp22).1 32).trans (mc_32 _ _ _ _ _)))) (fun _ h => ex_fa rfl h (fa_23 q v22)) (fun _ h => ex_load rfl h (ld_api_Command q 29 _ _ _ _ v22 (((blk_cells hYp22).1 29).trans (mc_29 _ _ _ _ _)) (((blk_cells hYp22).1 30).trans (mc_30 _ _ _ _ _)) (((blk_cells hYp22).1 31).trans (mc_31 _ _ _ _ _)) (((blk_cells hYp22).1 32).trans (mc_32 _ _ _ _ _)))) (fun _ h k => ex_bin rfl h k (guard_api_Command_eql _ _ _ _ v22) (bin_api_Command_eql _ _ v22)) (fun _ _ h => ex_pickA rfl h) ?_
  intro cp23 fp23 ep23
  rw [and_z] at ep23
  have hsp23 := fp23.size.trans hsz22
  have h2p23 := (fp23.keep 2 (by decide)).trans h2z22
  have h3p23 := (fp23.keep 3 (by decide)).trans h3z22
  have hdp23 := fp23.defers.trans hdz22
  refine mv (k := 4) rfl rfl (by rw [hsp23]; decide) (ex_assign rfl ep23) ?_
  intro cL fL eL
  have hdL := fL.defers.trans hdp23
  refine wpList_nil ?_
  refine HK.out _ _ ?_
  refine wp_ret ?_
  have hz : ((((((((((((((((((((((((a.kind == b.kind) && (a.shard == b.shard)) && (a.epoch == b.epoch)) && (a.owner == b.owner)) && (a.req == b.req)) && (a.client == b.client)) && (a.id == b.id)) && a.op.same b.op) && (a.code == b.code)) && a.res.same b.res) && (a.grant == b.grant)) && (a.term == b.term)) && (a.index == b.index)) && (a.prev == b.prev)) && (a.commit == b.commit)) && (a.granted == b.granted)) && sameL EN.same a.entries b.entries) && sameL iSame a.list b.list) && (a.state.toList == b.state.toList)) && (a.part == b.part)) && (a.last == b.last)) && sameL PP.same a.pairs b.pairs) && sameL PL.same a.lasts b.lasts) && a.cmd.same b.cmd) = a.same b := by unfold MG.same; simp only [Bool.and_assoc]
  rw [hz] at eL
  exact ⟨hdL, _, results_t rfl eL, rfl, hBp22⟩
end Go.Proofs.Ytblbcoknefgcaaa
