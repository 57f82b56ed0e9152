/-
  CallOnce walked. No statement is proved here. No condition.
-/
import Derived.Test.YtcagmjmnpdpgoaaUOnceM
import Derived.Test.YtcagmjmnpdpgoaaEMut
namespace Go.Proofs.Ytcagmjmnpdpgoaa
open Go.RowKit Go.Maps

theorem life_of (x : Int) : ∃ (j : Nat) (L : Int), Hid (1 ≤ L ∧ L ≤ 2047) ∧ wrap64 ((IntKind.u64.wrap x).tmod 2047) = (j : Int) ∧ wrap64 (1 + (j : Int)) = L ∧ IntKind.i64.wrap (1 + (j : Int)) = L := by
  obtain ⟨j, hj, -, f⟩ := u64_rem x (n := 2047) (by omega) (by omega)
  have f : wrap64 ((IntKind.u64.wrap x).tmod 2047) = (j : Int) := f
  refine ⟨j, 1 + (j : Int), Lib.hid ?_, f, ?_, ?_⟩
  · clear f; omega
  · clear f; unfold wrap64; omega
  · clear f; exact IntWalk.i64_in _ (by omega)
theorem plus_one {D : Int} {i : Nat} (h0 : 0 ≤ D) (h1 : D ≤ (i : Int)) (h2 : i ≤ 150) : wrap64 (D + 1) = D + 1 := by unfold wrap64; omega
theorem plus_oneI {D : Int} {i : Nat} (h0 : 0 ≤ D) (h1 : D ≤ (i : Int)) (h2 : i ≤ 150) : IntKind.i64.wrap (D + 1) = D + 1 := IntWalk.i64_in _ (by omega)
theorem i6_num {L given n : Int} (h : L * 1048576 < n ∧ n ≤ L * 1048576 + given) (hg : 0 ≤ given ∧ given ≤ 1048575) (hL : 1 ≤ L ∧ L ≤ 2047) : I6 n := i6_of (by omega) (by omega)
theorem u64_len {n : Nat} (h : n ≤ 150) : IntKind.u64.wrap (n : Int) = (n : Int) := u64_small (by omega) (by omega)
theorem mem_gone {pre post : List (Nat × WT)} {q : Nat} {x : WT} (h : ((pre ++ (q, x) :: post).map (·.2.req)).Pairwise (· < ·)) (m : Nat × WT) : m ∈ pre ++ post ↔ m ∈ pre ++ (q, x) :: post ∧ m.2.req ≠ x.req := by
  rw [List.map_append, List.map_cons, List.pairwise_append] at h
  obtain ⟨h1, h2, h3⟩ := h
  rw [List.pairwise_cons] at h2
  constructor
  · intro hm
    rcases List.mem_append.1 hm with hm | hm
    · have h4 : m.2.req < x.req := h3 m.2.req (List.mem_map.2 ⟨m, hm, rfl⟩) x.req (by simp)
      exact ⟨List.mem_append_left _ hm, by omega⟩
    · have h4 : x.req < m.2.req := h2.1 m.2.req (List.mem_map.2 ⟨m, hm, rfl⟩)
      exact ⟨List.mem_append_right _ (List.mem_cons_of_mem _ hm), by omega⟩
  · rintro ⟨hm, hne⟩
    rcases List.mem_append.1 hm with hm | hm
    · exact List.mem_append_left _ hm
    · rcases List.mem_cons.1 hm with rfl | hm
      · exact absurd rfl hne
      · exact List.mem_append_right _ hm
theorem mem_stay {M : List (Nat × WT)} {n : Int} (h : ∀ m ∈ M, m.2.req ≠ n) (m : Nat × WT) : m ∈ M ↔ m ∈ M ∧ m.2.req ≠ n := ⟨fun hm => ⟨hm, h m hm⟩, fun hm => hm.1⟩
set_option maxHeartbeats 8000000 in
set_option maxRecDepth 1000000 in
theorem once_walk (one other : Int) (l : List {s : ST // I6 s.n}) (v : Value) (w : World) (h : stR.N w Any v l) :
    Calls Try.prog 5 #[.int .i64 one, .int .i64 other, v] w fun e w' => e = .returned (.bool true) ∧ Below w.heap.size w w' := by
  obtain ⟨A, c, rfl, hlc, hcm⟩ := h.slice
  by_cases hl : 150 < l.length
  · have a1 : (150 : Int) < (l.length : Int) := by omega
    clear h hl hlc hcm
    go_enter Try.func5, Try.ntmps5
    go_wp2_with fail
    refine (awake_any w).mono ?_
    rintro e w1 ⟨rfl, hb1⟩
    have HB := Lib.hid hb1
    clear hb1
    go_wp2_with fail
    go_ret
    exact ⟨rfl, HB.out⟩
  · have a1 : ¬ (150 : Int) < (l.length : Int) := by omega
    obtain ⟨j1, L1, R1, f1, g1, g1'⟩ := life_of one
    obtain ⟨j2, L2, R2, f2, g2, g2'⟩ := life_of other
    have H := Lib.hid h
    have HLN := Lib.hid (Nat.le_of_not_lt hl)
    clear h hl hlc hcm
    go_enter Try.func5, Try.ntmps5
    go_wp2_with fail
    refine (awake_any w).mono ?_
    rintro e w1 ⟨rfl, hb1⟩
    obtain ⟨w2, hw2⟩ : ∃ w2, w2 = w1.alloc (.cells #[.int .i64 L1] 3) := ⟨_, rfl⟩
    have hb2 : Below w.heap.size w w2 := by rw [hw2]; exact hb1.alloc hb1.size _
    have hx2 : w2.heap[w1.heap.size]? = some (.cells (inR.row [L1] ++ []).toArray 3 (0, 0)) := by rw [hw2]; exact heap_alloc_new w1 _
    have hO2 : inR.Own w2 w.heap.size 3 (.slice (some ⟨w1.heap.size, 0, none⟩) 1 1) [L1] := Rec.own_closed (R := inR) (l := [L1]) (rest := []) (cap := 1) hb1.size hx2 (by simp) (by decide) (by simp [inR])
    obtain ⟨q1, hq1⟩ : ∃ q1, q1 = w1.heap.size := ⟨_, rfl⟩
    rw [← hq1] at hO2
    have HO2 := Lib.hid hO2
    have HB2 := Lib.hid hb2
    have HW2 := Lib.hid hw2
    have HQ1 := Lib.hid hq1
    clear hb1 hw2 hb2 hx2 hO2 hq1
    go_upto_region 5 with fail
    rw [← HW2.out, ← HQ1.out]
    clear HW2 HQ1 f1 f2 g1 g2 g1' g2'
    go_upto_if 43 with fail
    go_cut [7] (fun s7 wx => ∃ (Ls : List Int) (Aa : Option Addr) (ca : Nat), s7 = .slice Aa Ls.length ca ∧ Ls.Nodup ∧ (∀ x ∈ Ls, 1 ≤ x ∧ x ≤ 2047) ∧ Ls.length ≤ 2 ∧ Hid (inR.Own wx w.heap.size 3 s7 Ls) ∧ Hid (Below w.heap.size w wx))
    case first =>
      by_cases hne : L2 = L1
      · have e1 : (L2 == L1) = true := by simpa using hne
        go_wp2_with fail
        go_meet
        exact ⟨[L1], _, _, rfl, by simp, fun x hx => by rw [List.mem_singleton.1 hx]; exact R1.out, by simp, HO2, HB2⟩
      · have e1 : (L2 == L1) = false := by simpa using hne
        obtain ⟨A3, c3, w3, hap, hown, hb3, -⟩ := in_app (x := L2) HO2.out HB2.out.size (by simp)
        have HAP := Lib.hid hap
        have HO3 := Lib.hid hown
        have HB3 := Lib.hid (HB2.out.trans hb3)
        clear hap hown hb3
        go_wp2_with (at_builtin; go_must (refine Lib.wpList_append_run _ rfl (.tmp 44) (.tmp 46) 30 30 rfl _ _ rfl rfl _ _ HAP.out ?_))
        go_meet
        exact ⟨[L1, L2], A3, c3, rfl, by simp; exact fun e => hne e.symm, fun x hx => by
          rcases List.mem_cons.1 hx with rfl | hx
          · exact R1.out
          · rw [List.mem_singleton.1 hx]; exact R2.out, by simp, HO3, HB3⟩
    case rest =>
      obtain ⟨Ls, Aa, ca, rfl, hnd, hrg, hlen, hO, hB⟩ := hcut
      obtain ⟨wy, hwy⟩ : ∃ wy : World, wy = wc := ⟨_, rfl⟩
      subst hwy
      clear HO2 HB2 R1 R2
      have hmm := run_makeMap (P := Try.prog) 54 wy
      obtain ⟨wg, hwg⟩ : ∃ wg, wg = wy.alloc (.map #[] 0) := ⟨_, rfl⟩
      have hbg : Below wy.heap.size wy wg := by rw [hwg]; exact (Below.refl _ _).alloc (Nat.le_refl _) _
      have hO0 : OO w wg (.slice Aa Ls.length ca) Ls wy.heap.size 0 [] := ⟨hB.out.trans (Joins.below_le hbg hB.out.size), hO.out.below hbg, by rw [hwg]; exact MapI.made wy, hB.out.size, fun x hx => by cases hx⟩
      obtain ⟨g, hg⟩ : ∃ g, g = wy.heap.size := ⟨_, rfl⟩
      rw [← hg] at hO0
      have HO0 := Lib.hid hO0
      have HWG := Lib.hid hwg
      have HG := Lib.hid hg
      have HND := Lib.hid hnd
      have HRG := Lib.hid hrg
      clear hwg hbg hO0 hg hO hB hnd hrg
      go_upto_region 8 with fail
      rw [← HWG.out, ← HG.out]
      clear hmm HWG HG
      go_wp2_with fail
      go_loopw [9, 10, 11, 12, 13, 14, 15, 16, 17, 18, 19, 20] (fun s9 _ _ _ _ _ _ _ _ _ _ _ wr => ∃ (k : Nat) (AG : List (Int × Int)), s9 = .int .i64 (k : Int) ∧ k ≤ Ls.length ∧ Hid (OO w wr (.slice Aa Ls.length ca) Ls g k AG)) (fun s9 _ _ _ _ _ _ _ _ _ _ _ _ => Ls.length - (intOf s9).toNat)
      case atStart => exact ⟨0, [], rfl, Nat.zero_le _, HO0⟩
      case round =>
        clear HO0
        obtain ⟨k, AG, rfl, hk, hO⟩ := hrel
        obtain ⟨wz, hwz⟩ : ∃ wz : World, wz = wr := ⟨_, rfl⟩
        subst hwz
        by_cases hkl : k < Ls.length
        · have a2 : (k : Int) < (Ls.length : Int) := by omega
          have a0 : (0 : Int) ≤ (k : Int) := by omega
          obtain ⟨L, hL⟩ : ∃ L, Ls[k]? = some L := ⟨_, List.getElem?_eq_getElem hkl⟩
          obtain ⟨lb, lo, ln, lc, hv, -, lcell⟩ := in_cell hO.out.lives.n hL
          injection hv with v1 v2 v3
          subst v1 v2 v3
          have hr := HRG.out L (List.mem_of_getElem? hL)
          have cN := pnew_ex L wz hr.1 hr.2
          have HL := Lib.hid hL
          have HR := Lib.hid hr
          clear hL hr
          go_wp2_with fail
          refine cN.mono ?_
          rintro e w3 ⟨p, b, hp, hb, rfl, hs3, hb3⟩
          clear cN lcell
          have hmm := run_makeMap (P := Try.prog) 54 w3
          have hON := hO.out.life hp hb hs3 hb3
          obtain ⟨w4, hw4⟩ : ∃ w4, w4 = w3.alloc (.map #[] 0) := ⟨_, rfl⟩
          obtain ⟨t, ht⟩ : ∃ t, t = w3.heap.size := ⟨_, rfl⟩
          rw [← hw4, ← ht] at hON
          obtain ⟨Bm, hBm⟩ : ∃ Bm, Bm = t + 1 := ⟨_, rfl⟩
          rw [← hBm] at hON
          have HON := Lib.hid hON
          have HW4 := Lib.hid hw4
          have HT := Lib.hid ht
          clear hON hw4 ht hBm hs3 hb3 hp hb hO
          go_upto_region 15 with fail
          rw [← HW4.out, ← HT.out]
          clear hmm HW4 HT
          go_wp2_with fail
          go_loopw [13, 14, 15, 16, 17, 18, 19, 20] (fun s13 s14 _ _ _ _ _ _ wr => ∃ (i : Nat) (given : Int) (M : List (Nat × WT)) (mi : List Int) (AG AT : List (Int × Int)) (Am : Option Addr) (cm : Nat), s14 = .int .i64 (i : Int) ∧ i ≤ l.length ∧ s13 = .slice Am mi.length cm ∧ Hid (ON w wr (.slice (some ⟨lb, lo, none⟩) Ls.length ca) Ls g t p b Bm L given k i s13 M mi AG AT)) (fun _ s14 _ _ _ _ _ _ _ => l.length - (intOf s14).toNat)
          case atStart => exact ⟨0, 0, [], [], AG, [], none, 0, rfl, Nat.zero_le _, rfl, HON⟩
          case round =>
            clear HON
            obtain ⟨i, given, M, mi, AG2, AT, Am, cm, rfl, hi, rfl, hN⟩ := hrel
            obtain ⟨wx, hwx⟩ : ∃ wx : World, wx = wr := ⟨_, rfl⟩
            subst hwx
            have hln := HLN.out
            by_cases hil : i < l.length
            · have b1 : (i : Int) < (l.length : Int) := by omega
              have b0 : (0 : Int) ≤ (i : Int) := by omega
              obtain ⟨s, hs⟩ : ∃ s, l[i]? = some s := ⟨_, List.getElem?_eq_getElem hil⟩
              obtain ⟨sb, so, sn, sk, hv, -, ⟨d0, d1, d2, d3⟩, d4, d5, d6⟩ := st_cell (H.out.grow hN.out.bel) hs
              injection hv with v1 v2 v3
              subst v1 v2 v3
              obtain ⟨w3, hw3⟩ : ∃ w3, w3 = wx.alloc (.cells #[.int .u8 s.1.kind, .string s.1.key, .int .i64 s.1.client, .int .i64 s.1.id, .int .i64 s.1.now, .int .i64 s.1.n, .bool s.1.raw] 32) := ⟨_, rfl⟩
              have hb3 : Below wx.heap.size wx w3 := by rw [hw3]; exact (Below.refl _ _).alloc (Nat.le_refl _) _
              have hx3 : w3.heap[wx.heap.size]? = some (.cells #[.int .u8 s.1.kind, .string s.1.key, .int .i64 s.1.client, .int .i64 s.1.id, .int .i64 s.1.now, .int .i64 s.1.n, .bool s.1.raw] 32 (0, 0)) := by rw [hw3]; exact heap_alloc_new wx _
              have h3 := hN.out.below hb3
              obtain ⟨z, hz⟩ : ∃ z, z = wx.heap.size := ⟨_, rfl⟩
              rw [← hz] at hx3
              obtain ⟨e0, e1, e2, e3, e4, e5⟩ : w3.cell? ⟨z, 0, none⟩ = some (.int .u8 s.1.kind) ∧ w3.cell? ⟨z, 1, none⟩ = some (.string s.1.key) ∧ w3.cell? ⟨z, 2, none⟩ = some (.int .i64 s.1.client) ∧ w3.cell? ⟨z, 3, none⟩ = some (.int .i64 s.1.id) ∧ w3.cell? ⟨z, 4, none⟩ = some (.int .i64 s.1.now) ∧ w3.cell? ⟨z, 5, none⟩ = some (.int .i64 s.1.n) := ⟨(blk_cells hx3).1 0, (blk_cells hx3).1 1, (blk_cells hx3).1 2, (blk_cells hx3).1 3, (blk_cells hx3).1 4, (blk_cells hx3).1 5⟩
              have HN3 := Lib.hid h3
              have HW3 := Lib.hid hw3
              have HZ := Lib.hid hz
              clear hw3 hb3 hx3 h3 hz hN hs
              go_upto_region 20 with fail
              rw [← HW3.out, ← HZ.out]
              clear HW3 HZ d0 d1 d2 d3 d4 d5 d6
              have hgi := HN3.out.giv
              by_cases hk0 : s.1.kind = 0
              · have q0 : (s.1.kind == 0) = true := by simpa using hk0
                by_cases hok : 0 ≤ s.1.now ∧ M.length < 64
                · have cA := pask_yes HN3.out.sc s.1.key s.1.client s.1.id s.1.now hok.1 hok.2 (by omega)
                  obtain ⟨nn, hnn⟩ : ∃ nn : Int, nn = L * 1048576 + given + 1 := ⟨_, rfl⟩
                  rw [← hnn] at cA
                  have hsg := HN3.out.sc.giv
                  have hsl := HR.out
                  have a3 : ¬ nn < 1 := by omega
                  have a4 : ¬ (2147483647 : Int) < nn := by omega
                  have HNN := Lib.hid hnn
                  have HNI : Hid (I6 nn) := Lib.hid (i6_of (by omega) (by omega))
                  clear hnn hok
                  go_wp2_with fail
                  refine cA.mono ?_
                  rintro e w4 ⟨rfl, q, hq, hs4, hk4⟩
                  clear cA
                  obtain ⟨gp, -⟩ := sc_map HN3.out.sc HN3.out.gm
                  have hgm4 : MapI intK w4 g (200 * k + i) AG2 := HN3.out.gm.same (hk4.block g HN3.out.gm.lt fun e => e.elim gp HN3.out.gb)
                  have hnew : ifind AG2 nn = none := by rw [HNN.out]; exact HN3.out.fresh HL.out HND.out (by omega)
                  have hlook := hgm4.look HNI.out
                  rw [hnew] at hlook
                  have hlook : (Instr.lookup 54 (.map (some g)) (.int .i64 nn) false).run Try.prog w4 = .ok (.int .i64 0) w4 := hlook
                  obtain ⟨w5, hput, hm5, ht5⟩ := hgm4.put HNI.out (by unfold maxLen; omega) 1
                  have hput : (Instr.mapUpdate 54 (.map (some g)) (.int .i64 nn) (.int .i64 1)).run Try.prog w4 = .ok () w5 := hput
                  have hmi4 : inR.Own w4 Bm 3 (.slice Am mi.length cm) mi := row_same HN3.out.mine fun n hn => hk4.block n (HN3.out.mine.lt n hn).2 fun e => by
                    obtain ⟨x1, x2⟩ := own_far' HN3.out.sc HN3.out.mine (by decide) hn
                    exact e.elim x1 x2
                  have hmi5 : inR.Own w5 Bm 3 (.slice Am mi.length cm) mi := row_same hmi4 fun n hn => (turned_kept ht5).block n (hmi4.lt n hn).2 (own_map hgm4 hmi4 hn)
                  have hz5 : Bm ≤ w5.heap.size := Nat.le_trans HN3.out.mz (Nat.le_trans hk4.size (turned_kept ht5).size)
                  obtain ⟨A6, c6, w6, hap, hown6, hb6, hn6⟩ := in_app (x := nn) hmi5 hz5 (by have := HN3.out.ml; omega)
                  have hfin := HN3.out.asked HNN.out hs4 hk4 hm5 ht5 hown6 hb6 hn6 hq hnew
                  have HF := Lib.hid hfin
                  have HAP := Lib.hid hap
                  have HML : Hid ((mi ++ [nn]).length = mi.length + 1) := Lib.hid (by simp)
                  clear hfin hap hown6 hb6 hn6 hmi4 hmi5 hz5 hm5 ht5 hgm4 hnew hs4 hk4 gp e0 e1 e2 e3 e4 e5
                  go_upto_region 18 with (at_builtin; go_must (refine Lib.wpList_append_run _ rfl (.tmp 110) (.tmp 112) 30 30 rfl _ _ rfl rfl _ _ HAP.out ?_))
                  clear HAP hlook hput
                  go_wp2_with fail
                  exact ⟨⟨i + 1, given + 1, _, mi ++ [nn], _, AT, A6, c6, by go_num, by omega, by rw [HML.out], HF⟩, by simp [intOf]; omega⟩
                · have cA := pask_no HN3.out.sc s.1.key s.1.client s.1.id s.1.now (by
                    by_cases h1 : s.1.now < 0
                    · exact .inl h1
                    · exact .inr (.inl (by omega)))
                  obtain ⟨E, hE⟩ : ∃ E : Int, E = (if s.1.now < 0 then 1 else if 64 ≤ M.length then 3 else 70) := ⟨_, rfl⟩
                  rw [← hE] at cA
                  have hE0 : (E == 0) = false := by
                    rw [hE]
                    split
                    · rfl
                    · split <;> rfl
                  clear hE hok
                  go_wp2_with fail
                  refine cA.mono ?_
                  rintro e w4 ⟨rfl, rfl⟩
                  clear cA
                  have HF := Lib.hid HN3.out.next
                  clear e0 e1 e2 e3 e4 e5
                  go_wp2_with fail
                  exact ⟨⟨i + 1, given, M, mi, AG2, AT, Am, cm, by go_num, by omega, rfl, HF⟩, by simp [intOf]; omega⟩
              · have q0 : (s.1.kind == 0) = false := by simpa using hk0
                by_cases hm0 : mi.length = 0
                · have q1 : ((mi.length : Int) == 0) = true := by simp [hm0]
                  have q2 : (mi.length : Int) = 0 := by omega
                  have HF := Lib.hid HN3.out.next
                  clear e1 e2 e3 e4 e5
                  go_wp2_with fail
                  exact ⟨⟨i + 1, given, M, mi, AG2, AT, Am, cm, by go_num, by omega, rfl, HF⟩, by simp [intOf]; omega⟩
                · have q1 : ((mi.length : Int) == 0) = false := by rw [beq_eq_false_iff_ne]; omega
                  have q2 : ¬ (mi.length : Int) = 0 := by omega
                  have hml := HN3.out.ml
                  obtain ⟨j, hj, hje, hjw⟩ := u64_rem s.1.n (n := mi.length) (by omega) (by omega)
                  obtain ⟨nn, hnn⟩ : ∃ nn, mi[j]? = some nn := ⟨_, List.getElem?_eq_getElem hj⟩
                  obtain ⟨mb, mo, mn, mk', hv, -, f3⟩ := in_cell HN3.out.mine.n hnn
                  injection hv with v1 v2 v3
                  subst v1 v2 v3
                  have c5 : (j : Int) < (mi.length : Int) := Int.ofNat_lt.2 hj
                  have c6 : (0 : Int) ≤ (j : Int) := Int.natCast_nonneg j
                  have hmem := List.mem_of_getElem? hnn
                  have HMI := Lib.hid hmem
                  have hmk := HN3.out.mik nn hmem
                  have hsg := HN3.out.sc.giv
                  have hsl := HR.out
                  have HNI : Hid (I6 nn) := Lib.hid (i6_num hmk hsg hsl)
                  obtain ⟨D, hD⟩ : ∃ D, D = (ifind AT nn).getD 0 := ⟨_, rfl⟩
                  have htd := HN3.out.told nn hmem
                  rw [← hD] at htd
                  have HTD := Lib.hid htd
                  have HDE := Lib.hid hD
                  have hun : IntKind.u64.wrap (mi.length : Int) = (mi.length : Int) := u64_len (Nat.le_trans hml (Nat.le_trans hi hln))
                  clear hnn hmem hmk hD htd e1 e2 e3 e4
                  by_cases hw : ∃ m ∈ M, m.2.req = nn
                  · obtain ⟨⟨q, x⟩, hmm', hxn⟩ := hw
                    have hxn : x.req = nn := hxn
                    subst hxn
                    obtain ⟨pre, post, rfl⟩ := List.append_of_mem hmm'
                    have hD0 : D = 0 := HTD.out.2.2.2 ⟨(q, x), hmm', rfl⟩
                    have cT := ptell_yes HN3.out.sc
                    have hM' : ∀ m, m ∈ pre ++ post ↔ m ∈ pre ++ (q, x) :: post ∧ m.2.req ≠ x.req := mem_gone HN3.out.sc.rise
                    have HMM := Lib.hid hM'
                    have HD0 := Lib.hid hD0
                    clear hmm' hM' hD0
                    go_wp2_with fail
                    clear hje hjw hun f3
                    refine cT.mono ?_
                    rintro e w4 ⟨he, hs4, hk4⟩
                    clear cT
                    have he : e = .returned (.tuple #[.agg #[.int .i64 x.req, .string x.key, .int .i64 x.client, .int .i64 x.id, .int .i64 x.first, .int .i64 x.last, .bool x.marked], .bool true]) := he
                    subst he
                    obtain ⟨w5, hw5⟩ : ∃ w5, w5 = w4.alloc (.cells #[.int .i64 x.req, .string x.key, .int .i64 x.client, .int .i64 x.id, .int .i64 x.first, .int .i64 x.last, .bool x.marked] 37) := ⟨_, rfl⟩
                    have hb5 : Below w4.heap.size w4 w5 := by rw [hw5]; exact (Below.refl _ _).alloc (Nat.le_refl _) _
                    have hx5 : w5.heap[w4.heap.size]? = some (.cells #[.int .i64 x.req, .string x.key, .int .i64 x.client, .int .i64 x.id, .int .i64 x.first, .int .i64 x.last, .bool x.marked] 37 (0, 0)) := by rw [hw5]; exact heap_alloc_new w4 _
                    have hk5 : Kept w3 w5 (fun n => n = b) := hk4.trans (Kept.of_below hb5) fun n hn => .inr (Nat.le_trans hk4.size hn)
                    have hs5 := hs4.below hb5
                    have htm5 : MapI intK w5 t i AT := HN3.out.tm.same (hk5.block t HN3.out.tm.lt HN3.out.tb)
                    have hlook := htm5.look HNI.out
                    have hlook : (Instr.lookup 54 (.map (some t)) (.int .i64 x.req) false).run Try.prog w5 = .ok (.int .i64 D) w5 := by rw [HDE.out]; exact hlook
                    obtain ⟨w6, hput, hm6, ht6⟩ := htm5.put HNI.out (by unfold maxLen; omega) ((ifind AT x.req).getD 0 + 1)
                    have hput : (Instr.mapUpdate 54 (.map (some t)) (.int .i64 x.req) (.int .i64 (D + 1))).run Try.prog w5 = .ok () w6 := by rw [HDE.out]; exact hput
                    have hfin := HN3.out.tell HMI.out hs5 hk5 HMM.out hm6 ht6
                    have hw1 : wrap64 (D + 1) = D + 1 := plus_one HTD.out.1 HTD.out.2.1 (Nat.le_trans hi hln)
                    have hw2 : IntKind.i64.wrap (D + 1) = D + 1 := plus_oneI HTD.out.1 HTD.out.2.1 (Nat.le_trans hi hln)
                    obtain ⟨y, hy⟩ : ∃ y, y = w4.heap.size := ⟨_, rfl⟩
                    rw [← hy] at hx5
                    have x0 : w5.cell? ⟨y, 0, none⟩ = some (.int .i64 x.req) := (blk_cells hx5).1 0
                    have HF := Lib.hid hfin
                    have HW5 := Lib.hid hw5
                    have HY := Lib.hid hy
                    rw [HD0.out] at hlook hput
                    have hput : (Instr.mapUpdate 54 (.map (some t)) (.int .i64 x.req) (.int .i64 1)).run Try.prog w5 = .ok () w6 := hput
                    clear hw1 hw2
                    clear hfin hw5 hy hb5 hx5 hk5 hs5 htm5 hm6 ht6 hs4 hk4
                    go_upto_region 30 with fail
                    rw [← HW5.out, ← HY.out]
                    clear HW5 HY
                    go_wp2_with fail
                    exact ⟨⟨i + 1, given, _, mi, AG2, _, some ⟨mb, mo, none⟩, cm, by go_num, by omega, rfl, HF⟩, by simp [intOf]; omega⟩
                  · have hw' : ∀ m ∈ M, m.2.req ≠ nn := fun m hm e => hw ⟨m, hm, e⟩
                    have hD1 : 0 < D := by
                      have h1 := HTD.out.1
                      have h2 : D ≠ 0 := fun e => hw (HTD.out.2.2.1 e)
                      clear hje hjw hun f3
                      omega
                    have cT := ptell_no HN3.out.sc nn hw' HNI.out
                    have HD1 := Lib.hid hD1
                    have HWN := Lib.hid hw'
                    clear hw hw' hD1
                    go_wp2_with fail
                    clear hje hjw hun f3
                    refine cT.mono ?_
                    rintro e w4 ⟨he, hb4⟩
                    clear cT
                    have he : e = .returned (.tuple #[.agg #[.int .i64 0, .string ⟨#[]⟩, .int .i64 0, .int .i64 0, .int .i64 0, .int .i64 0, .bool false], .bool false]) := he
                    subst he
                    obtain ⟨w5, hw5⟩ : ∃ w5, w5 = w4.alloc (.cells #[.int .i64 0, .string ⟨#[]⟩, .int .i64 0, .int .i64 0, .int .i64 0, .int .i64 0, .bool false] 37) := ⟨_, rfl⟩
                    have hb5 : Below w4.heap.size w4 w5 := by rw [hw5]; exact (Below.refl _ _).alloc (Nat.le_refl _) _
                    have hx5 : w5.heap[w4.heap.size]? = some (.cells #[.int .i64 0, .string ⟨#[]⟩, .int .i64 0, .int .i64 0, .int .i64 0, .int .i64 0, .bool false] 37 (0, 0)) := by rw [hw5]; exact heap_alloc_new w4 _
                    have hk5 : Kept w3 w5 (fun n => n = b) := ((Kept.of_below hb4).trans (Kept.of_below hb5) fun n hn => .inl (Nat.le_trans hb4.size hn)).mono fun n hn hb => absurd hb (Nat.not_le.2 hn)
                    have hs5 := (HN3.out.sc.below hb4).below hb5
                    have htm5 : MapI intK w5 t i AT := HN3.out.tm.same (hk5.block t HN3.out.tm.lt HN3.out.tb)
                    have hlook := htm5.look HNI.out
                    have hlook : (Instr.lookup 54 (.map (some t)) (.int .i64 nn) false).run Try.prog w5 = .ok (.int .i64 D) w5 := by rw [HDE.out]; exact hlook
                    obtain ⟨w6, hput, hm6, ht6⟩ := htm5.put HNI.out (by unfold maxLen; omega) ((ifind AT nn).getD 0 + 1)
                    have hput : (Instr.mapUpdate 54 (.map (some t)) (.int .i64 nn) (.int .i64 (D + 1))).run Try.prog w5 = .ok () w6 := by rw [HDE.out]; exact hput
                    have hfin := HN3.out.tell HMI.out hs5 hk5 (mem_stay HWN.out) hm6 ht6
                    have hw1 : wrap64 (D + 1) = D + 1 := plus_one HTD.out.1 HTD.out.2.1 (Nat.le_trans hi hln)
                    have hw2 : IntKind.i64.wrap (D + 1) = D + 1 := plus_oneI HTD.out.1 HTD.out.2.1 (Nat.le_trans hi hln)
                    obtain ⟨y, hy⟩ : ∃ y, y = w4.heap.size := ⟨_, rfl⟩
                    rw [← hy] at hx5
                    have x0 : w5.cell? ⟨y, 0, none⟩ = some (.int .i64 0) := (blk_cells hx5).1 0
                    have HF := Lib.hid hfin
                    have HW5 := Lib.hid hw5
                    have HY := Lib.hid hy
                    have c1 : (0 : Int) < D := HD1.out
                    have c3 : (D == 0) = false := by have := HD1.out; simp; omega
                    clear hfin hw5 hy hb5 hx5 hk5 hs5 htm5 hm6 ht6 hb4
                    go_upto_region 30 with fail
                    rw [← HW5.out, ← HY.out]
                    clear HW5 HY
                    go_wp2_with fail
                    exact ⟨⟨i + 1, given, _, mi, AG2, _, some ⟨mb, mo, none⟩, cm, by go_num, by omega, rfl, HF⟩, by simp [intOf]; omega⟩
            · have hie : i = l.length := by omega
              subst hie
              have b1 : ¬ (l.length : Int) < (l.length : Int) := by omega
              have HF := Lib.hid (hN.out.over HL.out hln)
              clear hN
              go_wp2_with fail
              exact ⟨⟨k + 1, AG2, by go_num, by omega, HF⟩, by simp [intOf]; omega⟩
        · have hke : k = Ls.length := by omega
          subst hke
          have a2 : ¬ (Ls.length : Int) < (Ls.length : Int) := by omega
          go_wp2_with fail
          go_ret
          exact ⟨rfl, hO.out.bel⟩
end Go.Proofs.Ytcagmjmnpdpgoaa
