/-
  DedupOnce, walked. No statement is proved here. No condition.
-/
import Derived.Test.YtlgjidoehnhnoaaEOnceM
import Derived.Test.YtlgjidoehnhnoaaEWorks
import Derived.Test.YtlgjidoehnhnoaaEApart
namespace Go.Proofs.Ytlgjidoehnhnoaa
open Go.RowKit

theorem info_int : (Try.prog.info? 3).map (fun i => (i.zero, i.size, i.bytes)) = some (some (.int .i64 0), 1, 8) := by kernel_rfl
theorem made_ids (w : World) : ∃ w', (Instr.makeSlice 59 (.int .i64 3) (.int .i64 3)).run Try.prog w = .ok (.slice (some ⟨w.heap.size, 0, none⟩) 3 3) w' ∧ IdsAt w' w.heap.size [0, 0, 0] ∧ Below w.heap.size w w' := by
  obtain ⟨i0, hi, hz0, hz1, hz2⟩ := info_parts info_int
  obtain ⟨w', h1, h2, h3⟩ := run_make_full (P := Try.prog) w w.heap.size 59 3 i0 _ 1 Try.underlying59 hi hz0 hz1 .i64 .i64 3 (by rw [hz2]; omega) (by unfold maxLen; omega) (Nat.le_refl _)
  have hBS : (madeCells (Value.int .i64 0).cells (3 * 1)).toList = [.int .i64 0, .int .i64 0, .int .i64 0] := by
    show (madeCells #[Value.int .i64 0] (3 * 1)).toList = _
    rw [toList_madeCells_one]
    rfl
  rw [hBS] at h2
  refine ⟨w', h1, ?_, (Below.refl _ _).grown h3 (Nat.le_refl _) (fun k h => by cases h)⟩
  rcases h2.2 with ⟨hv, -⟩ | ⟨g, cap, cur, hv, -, hg, -, -, hcs, htk⟩
  · cases hv
  · injection hv with e1 e2 e3
    injection e1 with e1
    injection e1 with e1
    subst e1 e3
    have hl : cur.toList.length = 3 := hcs
    rw [List.take_of_length_le (by omega)] at htk
    unfold IdsAt
    rw [hg]
    congr 2
    apply Array.toList_inj.1
    rw [htk]
    rfl
theorem u64_in (x : Int) : 0 ≤ IntKind.u64.wrap x ∧ IntKind.u64.wrap x < 18446744073709551616 := by
  have : IntKind.u64.wrap x = x % 18446744073709551616 := by simp [IntKind.wrap, IntKind.bits, IntKind.signed]
  rw [this]
  omega
theorem u64_small {x : Int} (h0 : 0 ≤ x) (h1 : x ≤ 9223372036854775807) : IntKind.u64.wrap x = x := by
  have : IntKind.u64.wrap x = x % 18446744073709551616 := by simp [IntKind.wrap, IntKind.bits, IntKind.signed]
  rw [this]
  omega
theorem u64_rem (x : Int) {n : Nat} (h0 : 0 < n) (h1 : n ≤ 1000) : ∃ j : Nat, j < n ∧ (IntKind.u64.wrap x).tmod (n : Int) = (j : Int) ∧ wrap64 ((IntKind.u64.wrap x).tmod (n : Int)) = (j : Int) := by
  have hx := u64_in x
  rw [Int.tmod_eq_emod_of_nonneg hx.1]
  have h2 := Int.emod_nonneg (IntKind.u64.wrap x) (show (n : Int) ≠ 0 by omega)
  have h3 := Int.emod_lt_of_pos (IntKind.u64.wrap x) (show (0 : Int) < (n : Int) by omega)
  refine ⟨((IntKind.u64.wrap x) % (n : Int)).toNat, by omega, by omega, ?_⟩
  unfold wrap64
  omega
set_option maxHeartbeats 16000000 in
set_option maxRecDepth 1000000 in
theorem once_walk (l : List PA) (v : Value) (w : World) (h : askR.N w Any v l) :
    Calls Try.prog 7 #[v] w fun e w' => e = .returned (.bool true) ∧ Below w.heap.size w w' := by
  obtain ⟨AL0, cp, rfl, hlc, hcm⟩ := h.slice
  have cW := works_any w
  unfold maxLen at hcm
  have HL := Lib.hid h
  clear h
  go_enter Try.func7, Try.ntmps7
  go_wp2_with fail
  refine cW.mono ?_
  rintro e w1 ⟨rfl, hb1⟩
  clear cW
  by_cases hlen : 200 < l.length
  · have j1 : (200 : Int) < (l.length : Int) := by omega
    have cW2 := works_any w1
    go_wp2_with fail
    refine cW2.mono ?_
    rintro e w2 ⟨rfl, hb2⟩
    clear cW2
    go_wp2_with fail
    go_ret
    exact ⟨rfl, hb1.trans (Joins.below_le hb2 hb1.size)⟩
  · have j1 : ¬ (200 : Int) < (l.length : Int) := by omega
    obtain ⟨w2, hmk, hi2, hb2'⟩ := made_ids w1
    have hb2 : Below w.heap.size w w2 := hb1.trans (Joins.below_le hb2' hb1.size)
    obtain ⟨G, hG⟩ : ∃ G, G = w1.heap.size := ⟨_, rfl⟩
    rw [← hG] at hi2 hmk
    have hstart := OM.start (w := w) (by have := hb1.size; omega) hb2 hi2
    have HST := Lib.hid hstart
    have HJ0 := Lib.hid OnceJ.start
    clear hb2 hb2' hi2 hstart hb1 hG
    go_upto_region 7 with fail
    clear hmk
    go_wp2_with fail
    go_loopw [3, 4, 5, 6, 8, 9, 10, 11, 12, 13, 14, 15, 16, 17, 18, 19, 20, 21, 22] (fun s3 s4 s5 s6 s8 _ _ _ _ _ _ _ _ _ _ _ _ _ _ wr => ∃ (i : Nat) (AL : List PW) (M : List PP) (S : List PL) (K : List Int), s8 = .int .i64 (i : Int) ∧ i ≤ l.length ∧ AL.length ≤ i ∧ M.length ≤ i ∧ S.length ≤ i ∧ (∀ k ∈ K, k ≤ (i : Int)) ∧ Hid (∀ x ∈ AL, 0 ≤ x.op.kind ∧ x.op.kind ≤ 255) ∧ Hid (OnceJ AL S K) ∧ Hid (OM w wr G s3 s4 s5 s6 AL M S K)) (fun _ _ _ _ s8 _ _ _ _ _ _ _ _ _ _ _ _ _ _ _ => l.length - (intOf s8).toNat)
    case atStart => exact ⟨0, [], [], [], [0, 0, 0], rfl, Nat.zero_le _, Nat.le_refl _, Nat.le_refl _, Nat.le_refl _, by simp, Lib.hid (fun x hx => by cases hx), HJ0, HST⟩
    case round =>
      clear HJ0 HST
      obtain ⟨i, AL, M, S, K, rfl, hi, hal, hml, hsl, hkl, hop, hJ, hO⟩ := hrel
      obtain ⟨wz, hwz⟩ : ∃ wz : World, wz = wr := ⟨_, rfl⟩
      subst hwz
      obtain ⟨A3, c3, hs3⟩ := hO.out.all.slice
      obtain ⟨A4, c4, hs4, hc4, hm4⟩ := hO.out.m.slice
      obtain ⟨A5, c5, hs5, hc5, hm5⟩ := hO.out.plain.slice
      obtain ⟨A6, c6, hs6, hc6, hm6⟩ := hO.out.seen.slice
      subst hs3 hs4 hs5 hs6
      by_cases hil : i < l.length
      · have a1 : (i : Int) < (l.length : Int) := by omega
        have a0 : (0 : Int) ≤ (i : Int) := by omega
        obtain ⟨a, hai⟩ : ∃ a, l[i]? = some a := ⟨_, List.getElem?_eq_getElem hil⟩
        obtain ⟨bl, ol, n', k', hv, -, hbl, f0, f1, f2, f3, f4, f5, f6, f7⟩ := ask_cell (HL.out.grow hO.out.bel) hai
        injection hv with e1 e2 e3
        subst e1 e2 e3
        have HAI := Lib.hid hai
        clear hai
        go_upto_region 10 with fail
        go_cut [47] (fun c wx => wx = wz ∧ c = .bool (a.late && decide (0 < AL.length)))
        case first =>
          cases hla : a.late with
          | true =>
            rw [hla] at f2
            by_cases hp : 0 < AL.length
            · have hp2 : (0 : Int) < (AL.length : Int) := by omega
              go_wp2_with fail
              go_meet
              exact ⟨rfl, by simp [hp, hla]⟩
            · have hp2 : ¬ (0 : Int) < (AL.length : Int) := by omega
              go_wp2_with fail
              go_meet
              exact ⟨rfl, by simp [hp, hla]⟩
          | false =>
            rw [hla] at f2
            go_wp2_with fail
            go_meet
            exact ⟨rfl, by simp [hla]⟩
        case rest =>
          obtain ⟨rfl, rfl⟩ := hcut
          obtain ⟨wy, hwy⟩ : ∃ wy : World, wy = wc := ⟨_, rfl⟩
          subst hwy
          cases hcond : (a.late && decide (0 < AL.length)) with
          | true =>
            as_aux_lemma =>
              have hlate : a.late = true ∧ 0 < AL.length := by simpa using hcond
              obtain ⟨j, hjl, hje, hjw⟩ := u64_rem a.again (n := AL.length) hlate.2 (by omega)
              have hun : IntKind.u64.wrap (AL.length : Int) = (AL.length : Int) := u64_small (by omega) (by omega)
              have hn0 : ¬ (AL.length : Int) = 0 := by omega
              have b1 : (j : Int) < (AL.length : Int) := by omega
              have b0 : (0 : Int) ≤ (j : Int) := by omega
              obtain ⟨x, hxj⟩ : ∃ x, AL[j]? = some x := ⟨_, List.getElem?_eq_getElem hjl⟩
              obtain ⟨bw, ow, nw, kw, hv, -, hbw, d0, d1, d2, d3, d4, d5, d6, d7, d8, d9⟩ := was_cell hO.out.all.n hxj
              injection hv with e1 e2 e3
              subst e1 e2 e3
              obtain ⟨c, k, hxc, hck, hcase⟩ := hJ.out.again (List.mem_of_getElem? hxj) M
              have hc3 : c < 3 := by have := (List.getElem?_eq_some_iff.1 hck).1; rw [hJ.out.len] at this; exact this
              have j1' : (c : Int) < 3 := by omega
              have j0' : (0 : Int) ≤ (c : Int) := by omega
              have hxk := hop.out x (List.mem_of_getElem? hxj)
              rw [hxc] at d0 hcase
              obtain ⟨E, hE⟩ : ∃ E, E = stepErr S c x.id x.op := ⟨_, rfl⟩
              obtain ⟨dm, dq, dr, hD⟩ : ∃ dm dq dr, stepP M S c x.id x.op = (dm, dq, dr) := ⟨_, _, _, rfl⟩
              obtain ⟨w3, hw3⟩ : ∃ w3, w3 = wy.alloc (.cells #[.int .i64 (c : Int), .int .i64 x.id, .int .u8 x.op.kind, .string x.op.key, .string x.op.val, .string x.op.old, .bool x.op.had, .int .u8 x.res.kind, .bool x.res.found, .string x.res.val] 63) := ⟨_, rfl⟩
              have hb3 : Below wy.heap.size wy w3 := by rw [hw3]; exact (Below.refl _ _).alloc (Nat.le_refl _) _
              have hx3 : w3.heap[wy.heap.size]? = some (.cells #[.int .i64 (c : Int), .int .i64 x.id, .int .u8 x.op.kind, .string x.op.key, .string x.op.val, .string x.op.old, .bool x.op.had, .int .u8 x.res.kind, .bool x.res.found, .string x.res.val] 63 (0, 0)) := by rw [hw3]; exact heap_alloc_new wy _
              have cS := pstep_any M S c x.id x.op _ _ w3 ((hO.out.grow hb3).m.any) ((hO.out.grow hb3).seen.any) (by omega) (by omega) hxk
              rw [hD, ← hE] at cS
              unfold PO.agg PR.agg at cS
              rw [← hE, hD] at hcase
              obtain ⟨e0, e1, e2, e3, e4, e5, e6⟩ : w3.cell? ⟨wy.heap.size, 0, none⟩ = some (.int .i64 (c : Int)) ∧ w3.cell? ⟨wy.heap.size, 1, none⟩ = some (.int .i64 x.id) ∧ w3.cell? ⟨wy.heap.size, 2, none⟩ = some (.int .u8 x.op.kind) ∧ w3.cell? ⟨wy.heap.size, 3, none⟩ = some (.string x.op.key) ∧ w3.cell? ⟨wy.heap.size, 4, none⟩ = some (.string x.op.val) ∧ w3.cell? ⟨wy.heap.size, 5, none⟩ = some (.string x.op.old) ∧ w3.cell? ⟨wy.heap.size, 6, none⟩ = some (.bool x.op.had) := ⟨(blk_cells hx3).1 0, (blk_cells hx3).1 1, (blk_cells hx3).1 2, (blk_cells hx3).1 3, (blk_cells hx3).1 4, (blk_cells hx3).1 5, (blk_cells hx3).1 6⟩
              have HW3 := Lib.hid hw3
              have HB3 := Lib.hid hb3
              have HX3 := Lib.hid hx3
              have HCASE := Lib.hid hcase
              clear hcond hw3 hb3 hx3 hE hD hxj f0 f2 f3 f4 f5 f6 f7 hcase
              go_upto_region 12 with fail
              rw [← HW3.out]
              clear d0 d1 d2 d3 d4 d5 d6 d7 d8 d9
              go_wp2_with fail
              refine cS.mono ?_
              rintro e w4 ⟨va, vb, rfl, oa, ob, hb4⟩
              obtain ⟨Aa, ca, hva⟩ := oa.slice
              obtain ⟨Ab, cb, hvb⟩ := ob.slice
              subst hva hvb
              obtain ⟨w5, hw5⟩ : ∃ w5, w5 = w4.alloc (.cells #[.int .u8 dr.kind, .bool dr.found, .string dr.val] 27) := ⟨_, rfl⟩
              have hb45 : Below w4.heap.size w4 w5 := by rw [hw5]; exact (Below.refl _ _).alloc (Nat.le_refl _) _
              have hx5 : w5.heap[w4.heap.size]? = some (.cells #[.int .u8 dr.kind, .bool dr.found, .string dr.val] 27 (0, 0)) := by rw [hw5]; exact heap_alloc_new w4 _
              have hb35 : Below w3.heap.size w3 w5 := hb4.trans (Joins.below_le hb45 hb4.size)
              have hby5 : Below wy.heap.size wy w5 := HB3.out.trans (Joins.below_le hb35 HB3.out.size)
              have hx35 := (hb35.block _ (Array.getElem?_eq_some_iff.1 HX3.out).1).trans HX3.out
              have na := (oa.below hb45).n.any
              have nb := (ob.below hb45).n.any
              obtain ⟨e0, e1, e7, e8, e9⟩ : w5.cell? ⟨wy.heap.size, 0, none⟩ = some (.int .i64 (c : Int)) ∧ w5.cell? ⟨wy.heap.size, 1, none⟩ = some (.int .i64 x.id) ∧ w5.cell? ⟨wy.heap.size, 7, none⟩ = some (.int .u8 x.res.kind) ∧ w5.cell? ⟨wy.heap.size, 8, none⟩ = some (.bool x.res.found) ∧ w5.cell? ⟨wy.heap.size, 9, none⟩ = some (.string x.res.val) := ⟨(blk_cells hx35).1 0, (blk_cells hx35).1 1, (blk_cells hx35).1 7, (blk_cells hx35).1 8, (blk_cells hx35).1 9⟩
              obtain ⟨r0, r1, r2⟩ : w5.cell? ⟨w4.heap.size, 0, none⟩ = some (.int .u8 dr.kind) ∧ w5.cell? ⟨w4.heap.size, 1, none⟩ = some (.bool dr.found) ∧ w5.cell? ⟨w4.heap.size, 2, none⟩ = some (.string dr.val) := ⟨(blk_cells hx5).1 0, (blk_cells hx5).1 1, (blk_cells hx5).1 2⟩
              have om5 := hO.out.grow hby5
              have g1 := (om5.ids.cell hck).1
              have HW5 := Lib.hid hw5
              have HO5 := Lib.hid om5
              have HNA := Lib.hid na
              have HNB := Lib.hid nb
              clear cS hw5 hb45 hx5 hb35 hby5 hx35 om5 na nb oa ob hb4 e2 e3 e4 e5 e6
              go_upto_region 13 with fail
              rw [← HW5.out]
              rcases HCASE.out with ⟨hid, hE0, hD0⟩ | ⟨hid, hE6⟩
              · subst hid hE0
                injection hD0 with t1 t2
                injection t2 with t2 t3
                subst t1 t2 t3
                have cA := rsame_yes dm _ _ w5.drew (HNA.out.grow (Below.refl _ _).drew) ((HO5.out.grow (Below.refl _ _).drew).m.any)
                have CB : Hid (∀ W, Below w5.heap.size w5 W → Calls Try.prog 24 #[.slice Ab dq.length cb, .slice A6 dq.length c6] W fun e w' => e = .returned (.bool true) ∧ Below W.heap.size W w') := Lib.hid fun W hW => rsameL_yes dq _ _ W (HNB.out.grow hW) ((HO5.out.grow hW).seen.any)
                clear HCASE
                go_region
                go_wp2_with fail
                refine cA.mono ?_
                rintro e w6 ⟨rfl, hb6⟩
                have hb56 : Below w5.heap.size w5 w6 := (Below.refl _ _).drew.trans hb6
                have cB := CB.out w6 hb56
                have HB56 := Lib.hid hb56
                clear cA hb6 hb56
                go_wp2_with fail
                refine cB.mono ?_
                rintro e w7 ⟨rfl, hb7⟩
                have HO7 := Lib.hid (HO5.out.grow (HB56.out.trans (Joins.below_le hb7 HB56.out.size)))
                clear cB hb7
                go_wp2_with fail
                exact ⟨⟨i + 1, AL, dm, dq, K, by go_num, hil, by omega, by omega, by omega, fun k hk => by have := hkl k hk; omega, hop, hJ, HO7⟩, by simp [intOf]; omega⟩
              · subst hE6
                have hne : (x.id == k) = false := by rw [beq_eq_false_iff_ne]; exact hid
                have HO7 := Lib.hid (HO5.out.grow (Below.refl _ _).drew)
                clear HCASE
                go_region
                go_wp2_with fail
                exact ⟨⟨i + 1, AL, M, S, K, by go_num, hil, by omega, by omega, by omega, fun k hk => by have := hkl k hk; omega, hop, hJ, HO7⟩, by simp [intOf]; omega⟩
          | false =>
            clear hcond f2 f1
            obtain ⟨c, hc3, hce, hcw⟩ := u64_rem a.client (n := 3) (by omega) (by omega)
            have hcw' : wrap64 ((IntKind.u64.wrap a.client).tmod 3) = (c : Int) := hcw
            obtain ⟨k, hck⟩ : ∃ k, K[c]? = some k := ⟨_, List.getElem?_eq_getElem (by rw [hJ.out.len]; exact hc3)⟩
            have hk0 := (hJ.out.ids c k hck).1
            have hki := hkl k (List.mem_of_getElem? hck)
            have hfr := hJ.out.fresh hck
            have hgi := hO.out.ids.cell hck
            obtain ⟨g1, g2⟩ := hgi
            have hk1 : wrap64 (k + 1) = k + 1 := by unfold wrap64; omega
            have hk2 : IntKind.i64.wrap (k + 1) = k + 1 := IntWalk.i64_in _ (by omega)
            have b1 : (c : Int) < 3 := by omega
            have b0 : (0 : Int) ≤ (c : Int) := by omega
            obtain ⟨E, hE⟩ : ∃ E, E = stepErr S c (k + 1) a.op := ⟨_, rfl⟩
            obtain ⟨dm, dq, dr, hD⟩ : ∃ dm dq dr, stepP M S c (k + 1) a.op = (dm, dq, dr) := ⟨_, _, _, rfl⟩
            have cS : ∀ W, Below wy.heap.size wy W → Calls Try.prog 12 #[.slice A4 M.length c4, .slice A6 S.length c6, .int .i64 c, .int .i64 (k + 1), a.op.agg] W fun e w' => ∃ va vb, e = .returned (.tuple #[va, vb, .agg #[.int .u8 dr.kind, .bool dr.found, .string dr.val], .int .i64 E]) ∧ pairR.Own w' W.heap.size 24 va dm ∧ lastR.Own w' W.heap.size 46 vb dq ∧ Below W.heap.size W w' := fun W hW => by
              have := pstep_any M S c (k + 1) a.op _ _ W (hO.out.m.any.grow hW) (hO.out.seen.any.grow hW) (by omega) (by omega) a.hk
              rw [hD, ← hE] at this
              exact this
            unfold PO.agg at cS
            have HS := Lib.hid cS
            have hgl := hO.out.ids.lt
            have hst : (fun w' : World => w'.cell? ⟨G, c, none⟩ = some (.int .i64 k) ∧ w'.cell? ⟨bl, ol + i * 8 + 3, none⟩ = some (.int .u8 a.op.kind) ∧ w'.cell? ⟨bl, ol + i * 8 + 4, none⟩ = some (.string a.op.key) ∧ w'.cell? ⟨bl, ol + i * 8 + 5, none⟩ = some (.string a.op.val) ∧ w'.cell? ⟨bl, ol + i * 8 + 6, none⟩ = some (.string a.op.old) ∧ w'.cell? ⟨bl, ol + i * 8 + 7, none⟩ = some (.bool a.op.had)) wy := ⟨g1, f3, f4, f5, f6, f7⟩
            have hkeep : ∀ W, Below wy.heap.size wy W → (fun w' : World => w'.cell? ⟨G, c, none⟩ = some (.int .i64 k) ∧ w'.cell? ⟨bl, ol + i * 8 + 3, none⟩ = some (.int .u8 a.op.kind) ∧ w'.cell? ⟨bl, ol + i * 8 + 4, none⟩ = some (.string a.op.key) ∧ w'.cell? ⟨bl, ol + i * 8 + 5, none⟩ = some (.string a.op.val) ∧ w'.cell? ⟨bl, ol + i * 8 + 6, none⟩ = some (.string a.op.old) ∧ w'.cell? ⟨bl, ol + i * 8 + 7, none⟩ = some (.bool a.op.had)) W := fun W hW => ⟨(hW.cell (p := ⟨G, c, none⟩) hgl).trans g1, (hW.cell (p := ⟨bl, ol + i * 8 + 3, none⟩) hbl).trans f3, (hW.cell (p := ⟨bl, ol + i * 8 + 4, none⟩) hbl).trans f4, (hW.cell (p := ⟨bl, ol + i * 8 + 5, none⟩) hbl).trans f5, (hW.cell (p := ⟨bl, ol + i * 8 + 6, none⟩) hbl).trans f6, (hW.cell (p := ⟨bl, ol + i * 8 + 7, none⟩) hbl).trans f7⟩
            have HKEEP := Lib.hid hkeep
            have HFR := Lib.hid hfr
            have HE := Lib.hid hE
            have HD := Lib.hid hD
            have hz := zero_res
            clear cS hkeep hfr hE hD
            go_upto_region 17 with fail
            rw [hcw']
            go_cut [16, 17, 18, 19] (fun s16 s17 s18 s19 wx => ∃ pb : Nat, s18 = .pointer (some ⟨pb, 0, none⟩) ∧ s19 = .int .i64 E ∧ Hid (pairR.N wx (fun b => wy.heap.size ≤ b) s16 dm ∧ lastR.N wx (fun b => wy.heap.size ≤ b) s17 dq ∧ wx.heap[pb]? = some (.cells #[.int .u8 dr.kind, .bool dr.found, .string dr.val] 27 (0, 0)) ∧ Below wy.heap.size wy wx))
            case first =>
              refine wp_region_held_drew (S := (fun w' : World => w'.cell? ⟨G, c, none⟩ = some (.int .i64 k) ∧ w'.cell? ⟨bl, ol + i * 8 + 3, none⟩ = some (.int .u8 a.op.kind) ∧ w'.cell? ⟨bl, ol + i * 8 + 4, none⟩ = some (.string a.op.key) ∧ w'.cell? ⟨bl, ol + i * 8 + 5, none⟩ = some (.string a.op.val) ∧ w'.cell? ⟨bl, ol + i * 8 + 6, none⟩ = some (.string a.op.old) ∧ w'.cell? ⟨bl, ol + i * 8 + 7, none⟩ = some (.bool a.op.had))) (by kernel_rfl) hst (fun hHeld => ?_)
              refine takeD (i := 0) (d := 124) (v := .slice A4 M.length c4) rfl rfl (by kernel_rfl) (by kernel_rfl) (by kernel_rfl) (fun _ _ _ h => h) (.inl ⟨by rfl, fun w hSw => by dsimp only at hSw; go_simp; try with_reducible rfl⟩) (by assumption) ?_
              simp only [Act.put, List.setIfInBounds_toArray, List.set_cons_zero, List.set_cons_succ]
              refine takeD (i := 1) (d := 125) (v := .slice A6 S.length c6) rfl rfl (by kernel_rfl) (by kernel_rfl) (by kernel_rfl) (fun _ _ _ h => h) (.inl ⟨by rfl, fun w hSw => by dsimp only at hSw; go_simp; try with_reducible rfl⟩) (by assumption) ?_
              simp only [Act.put, List.setIfInBounds_toArray, List.set_cons_zero, List.set_cons_succ]
              refine takeD (i := 2) (d := 126) (v := .int .i64 (c : Int)) rfl rfl (by kernel_rfl) (by kernel_rfl) (by kernel_rfl) (fun _ _ _ h => h) (.inl ⟨by rfl, fun w hSw => by dsimp only at hSw; go_simp; try with_reducible rfl⟩) (by assumption) ?_
              simp only [Act.put, List.setIfInBounds_toArray, List.set_cons_zero, List.set_cons_succ]
              refine takeD (i := 3) (d := 127) (v := .slice (some ⟨G, 0, none⟩) 3 3) rfl rfl (by kernel_rfl) (by kernel_rfl) (by kernel_rfl) (fun _ _ _ h => h) (.inl ⟨by rfl, fun w hSw => by dsimp only at hSw; go_simp; try with_reducible rfl⟩) (by assumption) ?_
              simp only [Act.put, List.setIfInBounds_toArray, List.set_cons_zero, List.set_cons_succ]
              refine takeD (i := 4) (d := 128) (v := .int .i64 (c : Int)) rfl rfl (by kernel_rfl) (by kernel_rfl) (by kernel_rfl) (fun _ _ _ h => h) (.inl ⟨by rfl, fun w hSw => by dsimp only at hSw; go_simp; try with_reducible rfl⟩) (by assumption) ?_
              simp only [Act.put, List.setIfInBounds_toArray, List.set_cons_zero, List.set_cons_succ]
              refine takeD (i := 5) (d := 129) (v := .pointer (some ⟨G, c, none⟩)) rfl rfl (by kernel_rfl) (by kernel_rfl) (by kernel_rfl) (fun _ _ _ h => h) (.inl ⟨by rfl, fun w hSw => by dsimp only at hSw; go_simp; try with_reducible rfl⟩) (by assumption) ?_
              simp only [Act.put, List.setIfInBounds_toArray, List.set_cons_zero, List.set_cons_succ]
              refine takeD (i := 6) (d := 130) (v := .int .i64 k) rfl rfl (by kernel_rfl) (by kernel_rfl) (by kernel_rfl) (fun _ _ _ h => h) (.inl ⟨by rfl, fun w hSw => by dsimp only at hSw; go_simp; try with_reducible rfl⟩) (by assumption) ?_
              simp only [Act.put, List.setIfInBounds_toArray, List.set_cons_zero, List.set_cons_succ]
              refine takeD (i := 7) (d := 131) (v := .int .i64 (k + 1)) rfl rfl (by kernel_rfl) (by kernel_rfl) (by kernel_rfl) (fun _ _ _ h => h) (.inl ⟨by rfl, fun w hSw => by dsimp only at hSw; go_simp; try with_reducible rfl⟩) (by assumption) ?_
              simp only [Act.put, List.setIfInBounds_toArray, List.set_cons_zero, List.set_cons_succ]
              refine takeD (i := 8) (d := 132) (v := .slice (some ⟨bl, ol, none⟩) l.length cp) rfl rfl (by kernel_rfl) (by kernel_rfl) (by kernel_rfl) (fun _ _ _ h => h) (.inl ⟨by rfl, fun w hSw => by dsimp only at hSw; go_simp; try with_reducible rfl⟩) (by assumption) ?_
              simp only [Act.put, List.setIfInBounds_toArray, List.set_cons_zero, List.set_cons_succ]
              refine takeD (i := 9) (d := 133) (v := .int .i64 (i : Int)) rfl rfl (by kernel_rfl) (by kernel_rfl) (by kernel_rfl) (fun _ _ _ h => h) (.inl ⟨by rfl, fun w hSw => by dsimp only at hSw; go_simp; try with_reducible rfl⟩) (by assumption) ?_
              simp only [Act.put, List.setIfInBounds_toArray, List.set_cons_zero, List.set_cons_succ]
              refine takeD (i := 10) (d := 134) (v := .pointer (some ⟨bl, ol + i * 8, none⟩)) rfl rfl (by kernel_rfl) (by kernel_rfl) (by kernel_rfl) (fun _ _ _ h => h) (.inl ⟨by rfl, fun w hSw => by dsimp only at hSw; go_simp; try with_reducible rfl⟩) (by assumption) ?_
              simp only [Act.put, List.setIfInBounds_toArray, List.set_cons_zero, List.set_cons_succ]
              refine takeD (i := 11) (d := 135) (v := .pointer (some ⟨bl, ol + i * 8 + 3, none⟩)) rfl rfl (by kernel_rfl) (by kernel_rfl) (by kernel_rfl) (fun _ _ _ h => h) (.inl ⟨by rfl, fun w hSw => by dsimp only at hSw; go_simp; try with_reducible rfl⟩) (by assumption) ?_
              simp only [Act.put, List.setIfInBounds_toArray, List.set_cons_zero, List.set_cons_succ]
              refine takeD (i := 12) (d := 136) (v := .agg #[.int .u8 a.op.kind, .string a.op.key, .string a.op.val, .string a.op.old, .bool a.op.had]) rfl rfl (by kernel_rfl) (by kernel_rfl) (by kernel_rfl) (fun _ _ _ h => h) (.inl ⟨by rfl, fun w hSw => by dsimp only at hSw; go_simp; try with_reducible rfl⟩) (by assumption) ?_
              simp only [Act.put, List.setIfInBounds_toArray, List.set_cons_zero, List.set_cons_succ]
              refine wpAnyH_ready (rs := [13, 19]) (by kernel_rfl) (by simp) ?_
              refine AllReadyH.cons rfl (fun K hK => ?_) (AllReadyH.cons rfl (fun K hK => ?_) AllReadyH.nil)
              · as_aux_lemma =>
                  rw [if_pos (by rfl)]
                  go_simp
                  go_at_call 12
                  refine (HS.out wy.drew (Below.refl _ _).drew).mono ?_
                  rintro e w3 ⟨va, vb, rfl, oa', ob', hb3'⟩
                  have hb3 : Below wy.heap.size wy w3 := (Below.refl _ _).drew.trans hb3'
                  dsimp only
                  refine hK.out _ _ (HKEEP.out w3 hb3) (fun hHeld3 => ?_)
                  try simp only [Act.put, List.setIfInBounds_toArray, List.set_cons_zero, List.set_cons_succ]
                  refine takeD (i := 14) (d := 123) (v := .tuple #[va, vb, .agg #[.int .u8 dr.kind, .bool dr.found, .string dr.val], .int .i64 E]) rfl rfl (by kernel_rfl) (by kernel_rfl) (by kernel_rfl) (fun _ _ _ h => h) (.inl ⟨by rfl, fun w hSw => by dsimp only at hSw; go_simp; try with_reducible rfl⟩) (by assumption) ?_
                  simp only [Act.put, List.setIfInBounds_toArray, List.set_cons_zero, List.set_cons_succ]
                  refine takeD (i := 15) (d := 138) (v := va) rfl rfl (by kernel_rfl) (by kernel_rfl) (by kernel_rfl) (fun _ _ _ h => h) (.inl ⟨by rfl, fun w hSw => by dsimp only at hSw; go_simp; try with_reducible rfl⟩) (by assumption) ?_
                  simp only [Act.put, List.setIfInBounds_toArray, List.set_cons_zero, List.set_cons_succ]
                  refine takeD (i := 16) (d := 139) (v := vb) rfl rfl (by kernel_rfl) (by kernel_rfl) (by kernel_rfl) (fun _ _ _ h => h) (.inl ⟨by rfl, fun w hSw => by dsimp only at hSw; go_simp; try with_reducible rfl⟩) (by assumption) ?_
                  simp only [Act.put, List.setIfInBounds_toArray, List.set_cons_zero, List.set_cons_succ]
                  refine takeD (i := 17) (d := 140) (v := .agg #[.int .u8 dr.kind, .bool dr.found, .string dr.val]) rfl rfl (by kernel_rfl) (by kernel_rfl) (by kernel_rfl) (fun _ _ _ h => h) (.inl ⟨by rfl, fun w hSw => by dsimp only at hSw; go_simp; try with_reducible rfl⟩) (by assumption) ?_
                  simp only [Act.put, List.setIfInBounds_toArray, List.set_cons_zero, List.set_cons_succ]
                  refine takeD (i := 18) (d := 141) (v := .int .i64 E) rfl rfl (by kernel_rfl) (by kernel_rfl) (by kernel_rfl) (fun _ _ _ h => h) (.inl ⟨by rfl, fun w hSw => by dsimp only at hSw; go_simp; try with_reducible rfl⟩) (by assumption) ?_
                  simp only [Act.put, List.setIfInBounds_toArray, List.set_cons_zero, List.set_cons_succ]
                  refine wpAnyH_ready (rs := [19]) (by kernel_rfl) (by simp) ?_
                  refine AllReadyH.cons rfl (fun K2 hK2 => ?_) AllReadyH.nil
                  rw [if_pos (by rfl)]
                  go_simp
                  obtain ⟨w4, hw4⟩ : ∃ w4, w4 = w3.alloc (.cells #[.int .u8 0, .bool false, .string ⟨#[]⟩] 27) := ⟨_, rfl⟩
                  have hb34 : Below w3.heap.size w3 w4 := by rw [hw4]; exact (Below.refl _ _).alloc (Nat.le_refl _) _
                  have hxw : w4.heap[w3.heap.size]? = some (.cells #[.int .u8 0, .bool false, .string ⟨#[]⟩] 27 (0, 0)) := by rw [hw4]; exact heap_alloc_new w3 _
                  have hbW : Below wy.heap.size wy w4 := hb3.trans (Joins.below_le hb34 hb3.size)
                  have hpb : wy.heap.size ≤ w3.heap.size := hb3.size
                  have oa : pairR.Own w4 wy.heap.size 24 va dm := oa'.below hb34
                  have ob : lastR.Own w4 wy.heap.size 46 vb dq := ob'.below hb34
                  have hva : ∀ b, va.ownBlock = some b → b ≠ w3.heap.size := fun b hb => by have := (oa'.lt b hb).2; omega
                  have hvb : ∀ b, vb.ownBlock = some b → b ≠ w3.heap.size := fun b hb => by have := (ob'.lt b hb).2; omega
                  rw [← hw4]
                  clear hw4
                  refine hK2.out _ _ (HKEEP.out w4 hbW) (fun hHeld4 => ?_)
                  try simp only [Act.put, List.setIfInBounds_toArray, List.set_cons_zero, List.set_cons_succ]
                  refine takeD (i := 20) (d := 16) (v := va) rfl rfl (by kernel_rfl) (by kernel_rfl) (by kernel_rfl) (fun _ _ _ h => h) (.inl ⟨by rfl, fun w hSw => by dsimp only at hSw; go_simp; try with_reducible rfl⟩) (by assumption) ?_
                  simp only [Act.put, List.setIfInBounds_toArray, List.set_cons_zero, List.set_cons_succ]
                  refine takeD (i := 21) (d := 17) (v := vb) rfl rfl (by kernel_rfl) (by kernel_rfl) (by kernel_rfl) (fun _ _ _ h => h) (.inl ⟨by rfl, fun w hSw => by dsimp only at hSw; go_simp; try with_reducible rfl⟩) (by assumption) ?_
                  simp only [Act.put, List.setIfInBounds_toArray, List.set_cons_zero, List.set_cons_succ]
                  refine wpAnyH_ready (rs := [22]) (by kernel_rfl) (by simp) ?_
                  refine AllReadyH.cons rfl (fun K9 hK9 => ?_) AllReadyH.nil
                  rw [if_pos (by rfl)]
                  obtain ⟨q0, q1, q2, q3, q4, q5⟩ : w4.cell? ⟨w3.heap.size, 0, none⟩ = some (.int .u8 0) ∧ w4.cell? ⟨w3.heap.size, 1, none⟩ = some (.bool false) ∧ w4.cell? ⟨w3.heap.size, 2, none⟩ = some (.string ⟨#[]⟩) ∧ w4.frozen? ⟨w3.heap.size, 0, none⟩ = false ∧ w4.frozen? ⟨w3.heap.size, 1, none⟩ = false ∧ w4.frozen? ⟨w3.heap.size, 2, none⟩ = false := ⟨(blk_cells hxw).1 0, (blk_cells hxw).1 1, (blk_cells hxw).1 2, (blk_cells hxw).2 0, (blk_cells hxw).2 1, (blk_cells hxw).2 2⟩
                  go_simp
                  obtain ⟨wf, hwf⟩ : ∃ wf, wf = ((w4.setCell ⟨w3.heap.size, 0, none⟩ (.int .u8 dr.kind)).setCell ⟨w3.heap.size, 1, none⟩ (.bool dr.found)).setCell ⟨w3.heap.size, 2, none⟩ (.string dr.val) := ⟨_, rfl⟩
                  rw [← hwf]
                  have hxf : wf.heap[w3.heap.size]? = some (.cells #[.int .u8 dr.kind, .bool dr.found, .string dr.val] 27 (0, 0)) := by rw [hwf]; exact set3_at hxw
                  have hbf : Below wy.heap.size wy wf := by rw [hwf]; exact set3_below hbW hpb
                  have hof : pairR.Own wf wy.heap.size 24 va dm := by rw [hwf]; exact own_far oa fun b hb => set3_far (hva b hb)
                  have hol : lastR.Own wf wy.heap.size 46 vb dq := by rw [hwf]; exact own_far ob fun b hb => set3_far (hvb b hb)
                  clear hwf
                  refine hK9.out _ _ (HKEEP.out wf hbf) (fun hHeld9 => ?_)
                  try simp only [Act.put, List.setIfInBounds_toArray, List.set_cons_zero, List.set_cons_succ]
                  refine takeD (i := 23) (d := 19) (v := .int .i64 E) rfl rfl (by kernel_rfl) (by kernel_rfl) (by kernel_rfl) (fun _ _ _ h => h) (.inl ⟨by rfl, fun w hSw => by dsimp only at hSw; go_simp; try with_reducible rfl⟩) (by assumption) ?_
                  simp only [Act.put, List.setIfInBounds_toArray, List.set_cons_zero, List.set_cons_succ]
                  refine wpAnyH_done (by kernel_rfl) ?_ _
                  go_wp2_with fail
                  go_meet
                  exact ⟨_, rfl, rfl, Lib.hid ⟨hof.n, hol.n, hxf, hbf⟩⟩
              · as_aux_lemma =>
                  rw [if_pos (by rfl)]
                  go_simp
                  obtain ⟨w3, hw3⟩ : ∃ w3, w3 = (wy.alloc (.cells #[.int .u8 0, .bool false, .string ⟨#[]⟩] 27)).drew := ⟨_, rfl⟩
                  have hb3 : Below wy.heap.size wy w3 := by rw [hw3]; exact ((Below.refl _ _).alloc (Nat.le_refl _) _).drew
                  have hx3 : w3.heap[wy.heap.size]? = some (.cells #[.int .u8 0, .bool false, .string ⟨#[]⟩] 27 (0, 0)) := by rw [hw3]; exact heap_alloc_new wy _
                  have hs3 : w3.heap.size = wy.heap.size + 1 := by rw [hw3, drew_heap]; simp
                  rw [← hw3]
                  clear hw3
                  refine hK.out _ _ (HKEEP.out w3 hb3) (fun hHeld3 => ?_)
                  try simp only [Act.put, List.setIfInBounds_toArray, List.set_cons_zero, List.set_cons_succ]
                  refine wpAnyH_ready (rs := [13]) (by kernel_rfl) (by simp) ?_
                  refine AllReadyH.cons rfl (fun K2 hK2 => ?_) AllReadyH.nil
                  rw [if_pos (by rfl)]
                  go_simp
                  go_at_call 12
                  refine (HS.out w3 hb3).mono ?_
                  rintro e w4 ⟨va, vb, rfl, oa', ob', hb4⟩
                  have hbW : Below wy.heap.size wy w4 := hb3.trans (Joins.below_le hb4 hb3.size)
                  have hxw := (hb4.block _ (by omega)).trans hx3
                  have hpb : wy.heap.size ≤ wy.heap.size := Nat.le_refl _
                  have oa : pairR.Own w4 wy.heap.size 24 va dm := oa'.base hb3.size
                  have ob : lastR.Own w4 wy.heap.size 46 vb dq := ob'.base hb3.size
                  have hva : ∀ b, va.ownBlock = some b → b ≠ wy.heap.size := fun b hb => by have := (oa'.lt b hb).1; omega
                  have hvb : ∀ b, vb.ownBlock = some b → b ≠ wy.heap.size := fun b hb => by have := (ob'.lt b hb).1; omega
                  dsimp only
                  refine hK2.out _ _ (HKEEP.out w4 hbW) (fun hHeld4 => ?_)
                  try simp only [Act.put, List.setIfInBounds_toArray, List.set_cons_zero, List.set_cons_succ]
                  refine takeD (i := 14) (d := 123) (v := .tuple #[va, vb, .agg #[.int .u8 dr.kind, .bool dr.found, .string dr.val], .int .i64 E]) rfl rfl (by kernel_rfl) (by kernel_rfl) (by kernel_rfl) (fun _ _ _ h => h) (.inl ⟨by rfl, fun w hSw => by dsimp only at hSw; go_simp; try with_reducible rfl⟩) (by assumption) ?_
                  simp only [Act.put, List.setIfInBounds_toArray, List.set_cons_zero, List.set_cons_succ]
                  refine takeD (i := 15) (d := 138) (v := va) rfl rfl (by kernel_rfl) (by kernel_rfl) (by kernel_rfl) (fun _ _ _ h => h) (.inl ⟨by rfl, fun w hSw => by dsimp only at hSw; go_simp; try with_reducible rfl⟩) (by assumption) ?_
                  simp only [Act.put, List.setIfInBounds_toArray, List.set_cons_zero, List.set_cons_succ]
                  refine takeD (i := 16) (d := 139) (v := vb) rfl rfl (by kernel_rfl) (by kernel_rfl) (by kernel_rfl) (fun _ _ _ h => h) (.inl ⟨by rfl, fun w hSw => by dsimp only at hSw; go_simp; try with_reducible rfl⟩) (by assumption) ?_
                  simp only [Act.put, List.setIfInBounds_toArray, List.set_cons_zero, List.set_cons_succ]
                  refine takeD (i := 17) (d := 140) (v := .agg #[.int .u8 dr.kind, .bool dr.found, .string dr.val]) rfl rfl (by kernel_rfl) (by kernel_rfl) (by kernel_rfl) (fun _ _ _ h => h) (.inl ⟨by rfl, fun w hSw => by dsimp only at hSw; go_simp; try with_reducible rfl⟩) (by assumption) ?_
                  simp only [Act.put, List.setIfInBounds_toArray, List.set_cons_zero, List.set_cons_succ]
                  refine takeD (i := 18) (d := 141) (v := .int .i64 E) rfl rfl (by kernel_rfl) (by kernel_rfl) (by kernel_rfl) (fun _ _ _ h => h) (.inl ⟨by rfl, fun w hSw => by dsimp only at hSw; go_simp; try with_reducible rfl⟩) (by assumption) ?_
                  simp only [Act.put, List.setIfInBounds_toArray, List.set_cons_zero, List.set_cons_succ]
                  refine takeD (i := 20) (d := 16) (v := va) rfl rfl (by kernel_rfl) (by kernel_rfl) (by kernel_rfl) (fun _ _ _ h => h) (.inl ⟨by rfl, fun w hSw => by dsimp only at hSw; go_simp; try with_reducible rfl⟩) (by assumption) ?_
                  simp only [Act.put, List.setIfInBounds_toArray, List.set_cons_zero, List.set_cons_succ]
                  refine takeD (i := 21) (d := 17) (v := vb) rfl rfl (by kernel_rfl) (by kernel_rfl) (by kernel_rfl) (fun _ _ _ h => h) (.inl ⟨by rfl, fun w hSw => by dsimp only at hSw; go_simp; try with_reducible rfl⟩) (by assumption) ?_
                  simp only [Act.put, List.setIfInBounds_toArray, List.set_cons_zero, List.set_cons_succ]
                  refine wpAnyH_ready (rs := [22]) (by kernel_rfl) (by simp) ?_
                  refine AllReadyH.cons rfl (fun K9 hK9 => ?_) AllReadyH.nil
                  rw [if_pos (by rfl)]
                  obtain ⟨q0, q1, q2, q3, q4, q5⟩ : w4.cell? ⟨wy.heap.size, 0, none⟩ = some (.int .u8 0) ∧ w4.cell? ⟨wy.heap.size, 1, none⟩ = some (.bool false) ∧ w4.cell? ⟨wy.heap.size, 2, none⟩ = some (.string ⟨#[]⟩) ∧ w4.frozen? ⟨wy.heap.size, 0, none⟩ = false ∧ w4.frozen? ⟨wy.heap.size, 1, none⟩ = false ∧ w4.frozen? ⟨wy.heap.size, 2, none⟩ = false := ⟨(blk_cells hxw).1 0, (blk_cells hxw).1 1, (blk_cells hxw).1 2, (blk_cells hxw).2 0, (blk_cells hxw).2 1, (blk_cells hxw).2 2⟩
                  go_simp
                  obtain ⟨wf, hwf⟩ : ∃ wf, wf = ((w4.setCell ⟨wy.heap.size, 0, none⟩ (.int .u8 dr.kind)).setCell ⟨wy.heap.size, 1, none⟩ (.bool dr.found)).setCell ⟨wy.heap.size, 2, none⟩ (.string dr.val) := ⟨_, rfl⟩
                  rw [← hwf]
                  have hxf : wf.heap[wy.heap.size]? = some (.cells #[.int .u8 dr.kind, .bool dr.found, .string dr.val] 27 (0, 0)) := by rw [hwf]; exact set3_at hxw
                  have hbf : Below wy.heap.size wy wf := by rw [hwf]; exact set3_below hbW hpb
                  have hof : pairR.Own wf wy.heap.size 24 va dm := by rw [hwf]; exact own_far oa fun b hb => set3_far (hva b hb)
                  have hol : lastR.Own wf wy.heap.size 46 vb dq := by rw [hwf]; exact own_far ob fun b hb => set3_far (hvb b hb)
                  clear hwf
                  refine hK9.out _ _ (HKEEP.out wf hbf) (fun hHeld9 => ?_)
                  try simp only [Act.put, List.setIfInBounds_toArray, List.set_cons_zero, List.set_cons_succ]
                  refine takeD (i := 23) (d := 19) (v := .int .i64 E) rfl rfl (by kernel_rfl) (by kernel_rfl) (by kernel_rfl) (fun _ _ _ h => h) (.inl ⟨by rfl, fun w hSw => by dsimp only at hSw; go_simp; try with_reducible rfl⟩) (by assumption) ?_
                  simp only [Act.put, List.setIfInBounds_toArray, List.set_cons_zero, List.set_cons_succ]
                  refine wpAnyH_done (by kernel_rfl) ?_ _
                  go_wp2_with fail
                  go_meet
                  exact ⟨_, rfl, rfl, Lib.hid ⟨hof.n, hol.n, hxf, hbf⟩⟩
            case rest =>
              obtain ⟨pb, hs18, hs19, hF⟩ := hcut
              subst hs18 hs19
              obtain ⟨wk, hwk⟩ : ∃ wk : World, wk = wc := ⟨_, rfl⟩
              subst hwk
              obtain ⟨na, nb, hxr, hbk⟩ := hF.out
              obtain ⟨Aa, ca, ha, -, -⟩ := na.slice
              obtain ⟨Ab, cb, hb, -, -⟩ := nb.slice
              subst ha hb
              obtain ⟨g1k, f3k, f4k, f5k, f6k, f7k⟩ := HKEEP.out wk hbk
              have cD := pdo_any M a.op _ wk ((hO.out.grow hbk).plain.any) (by omega) a.hk
              obtain ⟨⟨fm, fr⟩, hd⟩ : ∃ d, d = doE M a.op := ⟨_, rfl⟩
              rw [← hd] at cD
              unfold PR.agg PO.agg at cD
              have HDE := Lib.hid hd
              have HXR := Lib.hid hxr
              have HBK := Lib.hid hbk
              have HNA := Lib.hid na
              have HNB := Lib.hid nb
              clear hd hxr hbk na nb g1 g2 f0 f3 f4 f5 f6 f7 hst g1k hF
              go_wp2_with fail
              refine cD.mono ?_
              rintro e w5 ⟨v5, rfl, o5, hb5⟩
              obtain ⟨A7, c7, hv5⟩ := o5.slice
              subst hv5
              obtain ⟨w6, hw6⟩ : ∃ w6, w6 = w5.alloc (.cells #[.int .u8 fr.kind, .bool fr.found, .string fr.val] 27) := ⟨_, rfl⟩
              have hb56 : Below w5.heap.size w5 w6 := by rw [hw6]; exact (Below.refl _ _).alloc (Nat.le_refl _) _
              have hx6 : w6.heap[w5.heap.size]? = some (.cells #[.int .u8 fr.kind, .bool fr.found, .string fr.val] 27 (0, 0)) := by rw [hw6]; exact heap_alloc_new w5 _
              have hbk6 : Below wk.heap.size wk w6 := hb5.trans (Joins.below_le hb56 hb5.size)
              have hby6 : Below wy.heap.size wy w6 := HBK.out.trans (Joins.below_le hbk6 HBK.out.size)
              have n5 : pairR.N w6 (fun b => wk.heap.size ≤ b) (.slice A7 fm.length c7) fm := (o5.below hb56).n
              have HW6 := Lib.hid hw6
              have HX6 := Lib.hid hx6
              have HBK6 := Lib.hid hbk6
              have HBY6 := Lib.hid hby6
              have HN5 := Lib.hid n5
              have HO6 := Lib.hid (hO.out.grow hby6)
              obtain ⟨g1, f3, f4, f5, f6, f7⟩ := HKEEP.out w6 hby6
              clear cD f3k f4k f5k f6k f7k o5 hb5 hw6 hb56 hx6 hbk6 hby6 n5
              go_upto_region 19 with fail
              rw [← HW6.out]
              by_cases he : a.op.err = 0
              · by_cases hk1' : a.op.kind = 1
                · obtain rfl : E = 1 := by rw [HE.out]; unfold stepErr; rw [if_neg (fun h => h he), if_pos hk1']
                  have HO6' := HO6
                  clear g1 HE HD HNA HNB HN5 HDE HXR HX6
                  go_wp2_with fail
                  exact ⟨⟨i + 1, AL, M, S, K, by go_num, hil, by omega, by omega, by omega, fun k hk => by have := hkl k hk; omega, hop, hJ, HO6'⟩, by simp [intOf]; omega⟩
                · obtain rfl : E = 0 := by
                    rw [HE.out]
                    unfold stepErr
                    rw [if_neg (fun h => h he), if_neg hk1', HFR.out, if_neg (by decide)]
                  have hstep : stepP M S c (k + 1) a.op = ((doP M a.op).1, noteP S ⟨c, k + 1, (doP M a.op).2⟩, (doP M a.op).2) := by
                    unfold stepP
                    rw [← HE.out, if_neg (fun h => h rfl), HFR.out, if_neg (by decide)]
                  have hdp : (fm, fr) = doP M a.op := by rw [HDE.out]; unfold doE; rw [if_neg (fun h => h he)]
                  rw [← hdp] at hstep
                  rw [HD.out] at hstep
                  injection hstep with t1 t2
                  injection t2 with t2 t3
                  subst t1 t3
                  have hdl : dm.length ≤ M.length + 1 := by have := doP_length M a.op; rw [← hdp] at this; exact this
                  have hql : dq.length ≤ S.length + 1 := by rw [t2]; exact noteP_length _ _
                  obtain ⟨w7, hw7⟩ : ∃ w7, w7 = w6.setCell ⟨G, c, none⟩ (.int .i64 (k + 1)) := ⟨_, rfl⟩
                  have hfar7 : ∀ b, b ≠ G → w7.heap[b]? = w6.heap[b]? := fun b hb => by rw [hw7]; exact heap_setCell_far _ _ _ _ hb
                  have hs7 : w7.heap.size = w6.heap.size := by rw [hw7, World.size_setCell]
                  have om7 : OM w w7 G (.slice A3 AL.length c3) (.slice A4 M.length c4) (.slice A5 M.length c5) (.slice A6 S.length c6) AL M S (K.set c (k + 1)) := by rw [hw7]; exact HO6.out.set c (k + 1)
                  have hGy := hO.out.ids.lt
                  have hby := HBY6.out.size
                  have hbkk := HBK6.out.size
                  have hbky := HBK.out.size
                  have na7 : pairR.N w7 (fun b => wy.heap.size ≤ b) (.slice Aa dm.length ca) dm := (HNA.out.grow HBK6.out).kept (fun _ h _ => h) (by omega) fun b hb _ => hfar7 b (by omega)
                  have nb7 : lastR.N w7 (fun b => wy.heap.size ≤ b) (.slice Ab dq.length cb) dq := (HNB.out.grow HBK6.out).kept (fun _ h _ => h) (by omega) fun b hb _ => hfar7 b (by omega)
                  have n57 : pairR.N w7 (fun b => wy.heap.size ≤ b) (.slice A7 dm.length c7) dm := HN5.out.kept (fun _ h _ => by omega) (by omega) fun b hb _ => hfar7 b (by omega)
                  have hpbk : pb < wk.heap.size := (Array.getElem?_eq_some_iff.1 HXR.out).1
                  have xr7 : ∀ _ : pb ≠ G, w7.heap[pb]? = some (.cells #[.int .u8 dr.kind, .bool dr.found, .string dr.val] 27 (0, 0)) := fun hne => (hfar7 pb hne).trans ((HBK6.out.block pb hpbk).trans HXR.out)
                  have hpG : pb ≠ G := fun e => by
                    have h1 := HXR.out
                    rw [e] at h1
                    have h2 := (hO.out.grow HBK.out).ids
                    unfold IdsAt at h2
                    rw [h1] at h2
                    injection h2 with h2
                    injection h2 with h2 h3
                    exact absurd h3 (by decide)
                  have x57 : w7.heap[w5.heap.size]? = some (.cells #[.int .u8 dr.kind, .bool dr.found, .string dr.val] 27 (0, 0)) := (hfar7 _ (by have := (Array.getElem?_eq_some_iff.1 HX6.out).1; have := HBK6.out.size; intro e; have h1 := HX6.out; rw [e] at h1; have h2 := HO6.out.ids; unfold IdsAt at h2; rw [h1] at h2; injection h2 with h2; injection h2 with h2 h3; exact absurd h3 (by decide))).trans HX6.out
                  obtain ⟨r0, r1, r2⟩ : w7.cell? ⟨pb, 0, none⟩ = some (.int .u8 dr.kind) ∧ w7.cell? ⟨pb, 1, none⟩ = some (.bool dr.found) ∧ w7.cell? ⟨pb, 2, none⟩ = some (.string dr.val) := ⟨(blk_cells (xr7 hpG)).1 0, (blk_cells (xr7 hpG)).1 1, (blk_cells (xr7 hpG)).1 2⟩
                  obtain ⟨v0, v1, v2⟩ : w7.cell? ⟨w5.heap.size, 0, none⟩ = some (.int .u8 dr.kind) ∧ w7.cell? ⟨w5.heap.size, 1, none⟩ = some (.bool dr.found) ∧ w7.cell? ⟨w5.heap.size, 2, none⟩ = some (.string dr.val) := ⟨(blk_cells x57).1 0, (blk_cells x57).1 1, (blk_cells x57).1 2⟩
                  have gf := (HO6.out.ids.cell hck).2
                  have cSm := rsame_yes dm _ _ w7 na7.any n57.any
                  have hkb : (a.op.kind == 1) = false := by rw [beq_eq_false_iff_ne]; exact hk1'
                  have hJ' := hJ.out.done hck he hk1' dr
                  rw [← t2] at hJ'
                  have HW7 := Lib.hid hw7
                  have HOM7 := Lib.hid om7
                  have HNA7 := Lib.hid na7
                  have HNB7 := Lib.hid nb7
                  have HN57 := Lib.hid n57
                  have HXR7 := Lib.hid (xr7 hpG)
                  have HJ' := Lib.hid hJ'
                  have HDL := Lib.hid hdl
                  have HQL := Lib.hid hql
                  clear t2 hJ' hw7 om7 na7 nb7 n57 xr7 x57 HE HD HDE HNA HNB HN5 HXR HX6 hdp hfar7 hdl hql
                  go_upto_region 23 with fail
                  rw [← HW7.out]
                  go_wp2_with fail
                  refine cSm.mono ?_
                  rintro e w8 ⟨rfl, hb8⟩
                  have om8 := HOM7.out.grow hb8
                  obtain ⟨bl', ol', n', k', hv, -, hbl', f0, f1, f2, f3, f4, f5, f6, f7⟩ := ask_cell (HL.out.grow om8.bel) HAI.out
                  injection hv with e1 e2 e3
                  injection e1 with e1
                  injection e1 with e0 e1
                  subst e0 e1 e2 e3
                  have x8 := (hb8.block pb (Array.getElem?_eq_some_iff.1 HXR7.out).1).trans HXR7.out
                  obtain ⟨r0, r1, r2⟩ : w8.cell? ⟨pb, 0, none⟩ = some (.int .u8 dr.kind) ∧ w8.cell? ⟨pb, 1, none⟩ = some (.bool dr.found) ∧ w8.cell? ⟨pb, 2, none⟩ = some (.string dr.val) := ⟨(blk_cells x8).1 0, (blk_cells x8).1 1, (blk_cells x8).1 2⟩
                  have g8 := (om8.ids.cell (c := c) (k := k + 1) (by rw [List.getElem?_set_self (by rw [hJ.out.len]; exact hc3)])).1
                  have hzw : ∀ W, (zeroValue 63).run Try.prog W = .ok (.agg #[.int .i64 0, .int .i64 0, .int .u8 0, .string ⟨#[]⟩, .string ⟨#[]⟩, .string ⟨#[]⟩, .bool false, .int .u8 0, .bool false, .string ⟨#[]⟩]) W := fun W => by kernel_rfl
                  obtain ⟨s3', w9, hr, om9⟩ := om8.more (w1 := w8.drew) (w2 := (w8.alloc (.cells (wasR.vals ⟨c, k + 1, a.op, dr⟩).toArray 63)).drew) (M' := dm) (S' := dq) ⟨c, k + 1, a.op, dr⟩ hO.out.ids.lt (HNA7.out.grow hb8) (HNB7.out.grow hb8) (HN57.out.grow hb8) (fun g hg => (hO.out.all.lt g hg).2) (by omega) ⟨rfl, rfl, rfl, rfl⟩ rfl
                  have hr' : (Builtin.append_ #[58, 58] 58 #[.slice A3 AL.length c3, .slice (some ⟨w8.heap.size, 0, none⟩) 1 1]).run Try.prog ((w8.alloc (.cells #[.int .i64 (c : Int), .int .i64 (k + 1), .int .u8 a.op.kind, .string a.op.key, .string a.op.val, .string a.op.old, .bool a.op.had, .int .u8 dr.kind, .bool dr.found, .string dr.val] 63)).drew) = .ok s3' w9 := hr
                  have HR9 := Lib.hid hr'
                  have HOM9 := Lib.hid om9
                  have hop9 : ∀ x ∈ AL ++ [(⟨c, k + 1, a.op, dr⟩ : PW)], 0 ≤ x.op.kind ∧ x.op.kind ≤ 255 := fun x hx => by
                    rcases List.mem_append.1 hx with hx | hx
                    · exact hop.out x hx
                    · rw [List.mem_singleton.1 hx]; exact a.hk
                  have HOP9 := Lib.hid hop9
                  clear cSm hb8 om8 x8 hr hr' om9 hop9 v0 v1 v2 f0 f1 f2 g1 gf
                  have hkl' : ∀ j ∈ K.set c (k + 1), j ≤ ((i + 1 : Nat) : Int) := fun j hj => by
                    rcases List.mem_or_eq_of_mem_set hj with hj | hj
                    · have := hkl j hj; omega
                    · omega
                  go_upto_region 28 with fail
                  go_region_law (refine stepApp rfl (.tmp 191) (.tmp 204) 58 rfl (.slice A3 AL.length c3) (.slice (some ⟨w8.heap.size, 0, none⟩) 1 1) rfl rfl (by with_reducible exact HR9.out) ?_)
                  all_goals go_wp2_with fail
                  all_goals exact ⟨⟨i + 1, AL ++ [⟨c, k + 1, a.op, dr⟩], dm, dq, K.set c (k + 1), by go_num, hil, by simp; omega, by have := HDL.out; omega, by have := HQL.out; omega, hkl', HOP9, HJ', HOM9⟩, by simp [intOf]; omega⟩
              · have hEe : E = a.op.err := by rw [HE.out]; unfold stepErr; rw [if_pos he]
                subst hEe
                obtain ⟨er, her⟩ : ∃ er, er = a.op.err := ⟨_, rfl⟩
                rw [← her]
                rw [← her] at he
                have HO6' := HO6
                clear g1 HE HD HNA HNB HN5 HDE HXR HX6 her
                go_wp2_with fail
                exact ⟨⟨i + 1, AL, M, S, K, by go_num, hil, by omega, by omega, by omega, fun k hk => by have := hkl k hk; omega, hop, hJ, HO6'⟩, by simp [intOf]; omega⟩
      · have a1 : ¬ (i : Int) < (l.length : Int) := by omega
        have HB := Lib.hid hO.out.bel
        go_wp2_with fail
        go_ret
        exact ⟨rfl, HB.out⟩
end Go.Proofs.Ytlgjidoehnhnoaa
