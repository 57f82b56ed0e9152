/-
  CallPlays walked. No statement is proved here. No condition.
-/
import Derived.Test.YtclfhidapkoiiabUPlayM
namespace Go.Proofs.Ytclfhidapkoiiab
open Go.RowKit Go.Maps

/-- what a way shows, by the name of its proof: 'inferInstanceAs' lays such a proof in a theorem of its own -/
def WayTo {G : Prop} (_ : G) : Type := PLift G
instance wayTo {G : Prop} (h : G) : Nonempty (WayTo h) := ⟨PLift.up h⟩
theorem way_out {G : Prop} (h : Nonempty (PLift G)) : G := h.elim fun x => x.down

theorem u64_len {n : Nat} (h : n ≤ 150) : IntKind.u64.wrap (n : Int) = (n : Int) := u64_small (by omega) (by omega)
set_option maxHeartbeats 16000000 in
set_option maxRecDepth 1000000 in
theorem play_walk (life : Int) (l : List {s : ST // I6 s.n}) (v : Value) (w : World) (h : stR.N w Any v l) (_hi : -9223372036854775808 ≤ life ∧ life ≤ 9223372036854775807) :
    Calls Try.prog 3 #[.int .i64 life, v] w fun e w' => e = .returned (.bool true) ∧ Below w.heap.size w w' := by
  obtain ⟨A, c, rfl, hlc, hcm⟩ := h.slice
  by_cases hbad : life < 1 ∨ 2047 < life
  · have cN := pnew_no life w hbad
    have cR := rnew_no life w hbad
    clear h hbad
    go_enter Try.func3, Try.ntmps3
    go_wp2_with fail
    refine cN.mono ?_
    rintro e w1 ⟨rfl, rfl⟩
    clear cN
    go_wp2_with fail
    refine cR.mono ?_
    rintro e w2 ⟨rfl, rfl⟩
    clear cR
    go_wp2_with fail
    go_loopw [10] (fun s10 wr => s10 = .int .i64 0 ∧ wr = w2) (fun _ _ => 0)
    case atStart => exact ⟨rfl, rfl⟩
    case round =>
      obtain ⟨rfl, rfl⟩ := hrel
      by_cases hl0 : (0 : Int) < (l.length : Int)
      · go_wp2_with fail
        refine (awake_any _).mono ?_
        rintro e w3 ⟨rfl, hb3⟩
        have HB := Lib.hid hb3
        clear hb3
        go_wp2_with fail
        go_ret
        exact ⟨rfl, HB.out⟩
      · go_wp2_with fail
        refine (awake_any _).mono ?_
        rintro e w3 ⟨rfl, hb3⟩
        have HB := Lib.hid hb3
        clear hb3
        go_wp2_with fail
        go_ret
        exact ⟨rfl, HB.out⟩
  · have h1 : 1 ≤ life := by omega
    have h2 : life ≤ 2047 := by omega
    have cN := pnew_ex life w h1 h2
    have H := Lib.hid h
    have HLF := Lib.hid (And.intro h1 h2)
    clear h hbad hlc hcm h1 h2
    go_enter Try.func3, Try.ntmps3
    go_wp2_with fail
    refine cN.mono ?_
    rintro e w1 ⟨p, b, hp, hb, rfl, hs1, hb1⟩
    clear cN
    have cR := rnew_yes life w1 HLF.out.1 HLF.out.2
    have HS1 := Lib.hid hs1
    have HB1 := Lib.hid hb1
    clear hs1 hb1
    go_wp2_with fail
    refine cR.mono ?_
    rintro e w2 ⟨rfl, hr2, hb2⟩
    clear cR
    have hP : PL w w2 p b w1.heap.size life 0 (.slice none 0 0) (.slice none 0 0) [] [] 0 := by
      have z1 := HB1.out.size
      exact ⟨HB1.out.trans (Joins.below_le hb2 z1), HS1.out.below hb2, ⟨hr2.obj, own_base hr2.row z1, z1⟩, Rec.Own.none _ _ _ _, hp, hb, (fun m hm => by cases hm), (fun n hn => by cases hn), Nat.le_refl _, by simp⟩
    obtain ⟨rp, hrp⟩ : ∃ rp, rp = w1.heap.size := ⟨_, rfl⟩
    rw [← hrp] at hP ⊢
    have HP0 := Lib.hid hP
    clear hP hr2 hb2 hp hb HS1 HB1 hrp
    go_wp2_with fail
    go_loopw [9, 10] (fun s9 s10 wr => ∃ (i : Nat) (given : Int) (rv : Value) (M : List (Nat × WT)) (gs : List Int) (A9 : Option Addr) (c9 : Nat), s10 = .int .i64 (i : Int) ∧ i ≤ l.length ∧ i ≤ 120 ∧ s9 = .slice A9 gs.length c9 ∧ Hid (PL w wr p b rp life given rv s9 M gs i)) (fun _ s10 _ => l.length - (intOf s10).toNat)
    case atStart => exact ⟨0, 0, _, [], [], none, 0, rfl, Nat.zero_le _, by omega, rfl, HP0⟩
    case round =>
      clear HP0
      obtain ⟨i, given, rv, M, gs, A9, c9, rfl, hi, hi2, rfl, hP⟩ := hrel
      obtain ⟨wx, hwx⟩ : ∃ wx : World, wx = wr := ⟨_, rfl⟩
      subst hwx
      by_cases hil : i < l.length ∧ i < 120
      · have b1 : (i : Int) < (l.length : Int) := by omega
        have b2 : (i : Int) < 120 := by omega
        have b0 : (0 : Int) ≤ (i : Int) := by omega
        obtain ⟨s, hs⟩ : ∃ s, l[i]? = some s := ⟨_, List.getElem?_eq_getElem hil.1⟩
        obtain ⟨sb, so, sn, sk, hv, -, ⟨d0, d1, d2, d3⟩, d4, d5, d6⟩ := st_cell (H.out.grow hP.out.bel) hs
        injection hv with v1 v2 v3
        subst v1 v2 v3
        obtain ⟨kk, hkk⟩ : ∃ kk, kk = s.1.kind := ⟨_, rfl⟩
        rw [← hkk] at d0
        obtain ⟨w3, hw3⟩ : ∃ w3, w3 = wx.alloc (.cells #[.int .u8 kk, .string s.1.key, .int .i64 s.1.client, .int .i64 s.1.id, .int .i64 s.1.now, .int .i64 s.1.n, .bool s.1.raw] 32) := ⟨_, rfl⟩
        have hb3 : Below wx.heap.size wx w3 := by rw [hw3]; exact (Below.refl _ _).alloc (Nat.le_refl _) _
        have hx3 : w3.heap[wx.heap.size]? = some (.cells #[.int .u8 kk, .string s.1.key, .int .i64 s.1.client, .int .i64 s.1.id, .int .i64 s.1.now, .int .i64 s.1.n, .bool s.1.raw] 32 (0, 0)) := by rw [hw3]; exact heap_alloc_new wx _
        have h3 := hP.out.below hb3
        obtain ⟨z, hz⟩ : ∃ z, z = wx.heap.size := ⟨_, rfl⟩
        rw [← hz] at hx3
        obtain ⟨e0, e1, e2, e3, e4, e5, e6⟩ : w3.cell? ⟨z, 0, none⟩ = some (.int .u8 kk) ∧ w3.cell? ⟨z, 1, none⟩ = some (.string s.1.key) ∧ w3.cell? ⟨z, 2, none⟩ = some (.int .i64 s.1.client) ∧ w3.cell? ⟨z, 3, none⟩ = some (.int .i64 s.1.id) ∧ w3.cell? ⟨z, 4, none⟩ = some (.int .i64 s.1.now) ∧ w3.cell? ⟨z, 5, none⟩ = some (.int .i64 s.1.n) ∧ w3.cell? ⟨z, 6, none⟩ = some (.bool s.1.raw) := ⟨(blk_cells hx3).1 0, (blk_cells hx3).1 1, (blk_cells hx3).1 2, (blk_cells hx3).1 3, (blk_cells hx3).1 4, (blk_cells hx3).1 5, (blk_cells hx3).1 6⟩
        have HX3 := Lib.hid hx3
        have HP3 := Lib.hid h3
        have HW3 := Lib.hid hw3
        have HZ := Lib.hid hz
        clear hw3 hb3 hx3 h3 hz hP hs hkk
        go_upto_region 10 with fail
        rw [← HW3.out, ← HZ.out]
        clear HW3 HZ d0 d1 d2 d3 d4 d5 d6
        obtain ⟨bb, hbb⟩ : ∃ bb, bb = (!s.1.raw && decide (0 < gs.length)) := ⟨_, rfl⟩
        have HBB := Lib.hid hbb
        clear hbb
        go_upto_region 11 with fail
        go_cut [69] (fun c wx => c = .bool bb ∧ wx = w3)
        case first =>
          have hbb := HBB.out
          cases hraw : s.1.raw with
          | true =>
            rw [hraw] at e6 hbb
            have hbb : bb = false := by simpa using hbb
            have HB2 := Lib.hid hbb
            clear hbb
            go_wp2_with fail
            go_meet
            exact ⟨by first | (rw [HB2.out]; done) | (rw [HB2.out]; congr 1; done) | (rw [HB2.out]; congr 1; simp; done) | (rw [HB2.out]; congr 1; simpa using m1) | (rw [HB2.out]; congr 1; simp; omega), by first | rfl | trivial⟩
          | false =>
            rw [hraw] at e6 hbb
            by_cases hg0 : gs.length = 0
            · have m1 : ¬ (0 : Int) < (gs.length : Int) := by omega
              have hbb : bb = false := by rw [hbb]; simp [hg0]
              have HB2 := Lib.hid hbb
              clear hbb hg0
              go_wp2_with fail
              go_meet
              exact ⟨by first | (rw [HB2.out]; done) | (rw [HB2.out]; congr 1; done) | (rw [HB2.out]; congr 1; simp; done) | (rw [HB2.out]; congr 1; simpa using m1) | (rw [HB2.out]; congr 1; simp; omega), by first | rfl | trivial⟩
            · have m1 : (0 : Int) < (gs.length : Int) := by omega
              have hbb : bb = true := by rw [hbb]; simp; omega
              have HB2 := Lib.hid hbb
              clear hbb
              go_wp2_with fail
              go_meet
              exact ⟨by first | (rw [HB2.out]; done) | (rw [HB2.out]; congr 1; done) | (rw [HB2.out]; congr 1; simp; done) | (rw [HB2.out]; congr 1; simpa using m1) | (rw [HB2.out]; congr 1; simp; omega), by first | rfl | trivial⟩
        case rest =>
        obtain ⟨rfl, rfl⟩ := hcut
        go_upto_if 69 with fail
        go_cut [12] (fun s12 wx => ∃ r : Int, s12 = .int .i64 r ∧ I6 r ∧ wx = wc)
        case first =>
          cases hb2 : bb with
          | false =>
            go_wp2_with fail
            go_meet
            exact ⟨_, rfl, s.2, rfl⟩
          | true =>
            have hbb := HBB.out
            rw [hb2] at hbb
            have hg0 : 0 < gs.length := by
              simp at hbb
              omega
            clear hbb
            have m1 : (0 : Int) < (gs.length : Int) := by omega
            have m2 : ¬ (gs.length : Int) = 0 := by omega
            have hgl := HP3.out.gl
            obtain ⟨t, ht, hje, hjw⟩ := u64_rem s.1.n (n := gs.length) (by omega) (by omega)
            have hun : IntKind.u64.wrap (gs.length : Int) = (gs.length : Int) := u64_len (Nat.le_trans hgl (by clear hje hjw; omega))
            have c8 : (t : Int) < (gs.length : Int) := Int.ofNat_lt.2 ht
            have c9' : (0 : Int) ≤ (t : Int) := Int.natCast_nonneg t
            obtain ⟨x, hxt⟩ : ∃ x, gs[t]? = some x := ⟨_, List.getElem?_eq_getElem ht⟩
            obtain ⟨xb, xo, xn, xk, hv, -, x0⟩ := in_cell HP3.out.gv.n hxt
            injection hv with v1 v2 v3
            subst v1 v2 v3
            have hx6 := HP3.out.gi x (List.mem_of_getElem? hxt)
            clear hxt
            go_wp2_with fail
            go_meet
            exact ⟨_, rfl, hx6, rfl⟩
        case rest =>
          obtain ⟨r, rfl, hr6, rfl⟩ := hcut
          go_upto_region 14 with fail
          rename_i aK
          have HK := Lib.hid aK
          clear aK
          go_wp2_with fail
          refine HK.out _ _ ?_
          clear HK
          go_cut [9, 13, 82] (fun s9 s13 s82 wx => ∃ (given' : Int) (rv' : Value) (M' : List (Nat × WT)) (gs' : List Int) (A' : Option Addr) (c' : Nat), s9 = .slice A' gs'.length c' ∧ s13 = .bool true ∧ s82 = .int .u8 kk ∧ Hid (PL w wx p b rp life given' rv' s9 M' gs' (i + 1)))
          case first =>
            by_cases q0 : kk = 0
            · skip
              refine way_out (inferInstanceAs (Nonempty (WayTo (G := _) (by
                subst q0
                have hgi := HP3.out.giv
                have hgl := HP3.out.gl
                by_cases hok : 0 ≤ s.1.now ∧ M.length < 64
                · have cA := pask_yes HP3.out.sc s.1.key s.1.client s.1.id s.1.now hok.1 hok.2 (by omega)
                  have hlf := HP3.out.sc.lif
                  have hgv := HP3.out.sc.giv
                  obtain ⟨nn, hnn⟩ : ∃ nn : Int, nn = life * 1048576 + given + 1 := ⟨_, rfl⟩
                  rw [← hnn] at cA
                  have hi6 : I6 nn := i6_of (by omega) (by omega)
                  have HNN := Lib.hid hnn
                  have HI6 := Lib.hid hi6
                  have HOK := Lib.hid (And.intro hok (And.intro hlf hgv))
                  have HGL := Lib.hid (And.intro hgi (And.intro hgl hi2))
                  clear hnn hi6 hok hlf hgv hgi hgl
                  go_wp2_with fail
                  refine cA.mono ?_
                  rintro e w4 ⟨rfl, q, hq, hs4, hk4⟩
                  clear cA
                  have ka : Kept wc w4 (TP p b M) := hk4.mono fun n _ h => h.elim .inl fun h => .inr (.inl h)
                  have hra := HP3.out.prog ka
                  obtain ⟨hzt1, hzt2⟩ := HP3.out.zt HX3.out
                  have cR := rask_yes hra (Nat.le_trans HP3.out.bel.size hk4.size) HOK.out.2.1 HOK.out.2.2.1 s.1.key s.1.client s.1.id s.1.now HOK.out.1.1 (by rw [List.length_map]; exact HOK.out.1.2) (by have := HGL.out; omega)
                  rw [← HNN.out] at cR
                  have hx4 := (ka.block z (lt_of_heap HX3.out) hzt1).trans HX3.out
                  obtain ⟨g1, g2, g3, g4⟩ : w4.cell? ⟨z, 1, none⟩ = some (.string s.1.key) ∧ w4.cell? ⟨z, 2, none⟩ = some (.int .i64 s.1.client) ∧ w4.cell? ⟨z, 3, none⟩ = some (.int .i64 s.1.id) ∧ w4.cell? ⟨z, 4, none⟩ = some (.int .i64 s.1.now) := ⟨(blk_cells hx4).1 1, (blk_cells hx4).1 2, (blk_cells hx4).1 3, (blk_cells hx4).1 4⟩
                  have HQ := Lib.hid (And.intro hq (And.intro hs4 ka))
                  clear e0 e1 e2 e3 e4 e5 e6 hq hs4 hk4 hra hzt1 hzt2 hx4 ka
                  go_wp2_with fail
                  refine cR.mono ?_
                  rintro e w5 ⟨rfl, v5, hr5, hk5, hv5⟩
                  clear cR
                  have hP5 := HP3.out.both (M' := M ++ [(q, ⟨nn, s.1.key, s.1.client, s.1.id, s.1.now, s.1.now, false⟩)]) HQ.out.2.1 HQ.out.2.2 (fun m hm => by
                    rcases List.mem_append.1 hm with hm | hm
                    · exact HP3.out.mB m hm
                    · rw [List.mem_singleton.1 hm]; exact Nat.le_trans HP3.out.bel.size HQ.out.1) (by have := HGL.out.1; push_cast; omega) (by rw [List.map_append]; exact hr5) hk5 (fun n hn ht => by
                    rcases ht with h | h | ⟨m, hm, h⟩
                    · exact HP3.out.rt n hn (.inl h)
                    · exact HP3.out.rt n hn (.inr (.inl h))
                    · rcases List.mem_append.1 hm with hm | hm
                      · exact HP3.out.rt n hn (.inr (.inr ⟨m, hm, h⟩))
                      · rw [List.mem_singleton.1 hm] at h
                        have h1 := HQ.out.1
                        dsimp only at h
                        rcases hn with rfl | hn
                        · have := HP3.out.rc.ltp; omega
                        · have := (HP3.out.rc.row.lt n hn).2; omega)
                  obtain ⟨A6, c6, w6, hap, hown6, hb6, hn6⟩ := in_app (x := nn) hP5.gv hP5.bel.size (by have := HGL.out; omega)
                  have HF := Lib.hid (hP5.give HGL.out.2.1 hown6 hb6 hn6 HI6.out)
                  have HAP := Lib.hid hap
                  have HLN : Hid ((gs ++ [nn]).length = gs.length + 1) := Lib.hid (by simp)
                  clear hP5 hap hown6 hb6 hn6 hr5 hk5 hv5 g1 g2 g3 g4
                  go_wp2_with (at_builtin; go_must (refine Lib.wpList_append_run _ rfl (.tmp 134) (.tmp 136) 30 30 rfl _ _ rfl rfl _ _ HAP.out ?_))
                  try go_wp2_with fail
                  go_meet
                  exact ⟨given + 1, v5, _, gs ++ [nn], A6, c6, by rw [HLN.out], rfl, rfl, HF⟩
                · have cA := pask_no HP3.out.sc s.1.key s.1.client s.1.id s.1.now (by
                    by_cases h1 : s.1.now < 0
                    · exact .inl h1
                    · exact .inr (.inl (by omega)))
                  have cR := rask_no HP3.out.rc s.1.key s.1.client s.1.id s.1.now (by
                    rw [List.length_map]
                    by_cases h1 : s.1.now < 0
                    · exact .inl h1
                    · exact .inr (.inl (by omega)))
                  rw [List.length_map] at cR
                  obtain ⟨E, hE⟩ : ∃ E : Int, E = (if s.1.now < 0 then 1 else if 64 ≤ M.length then 3 else 70) := ⟨_, rfl⟩
                  rw [← hE] at cA cR
                  have hE0 : (E == 0) = false := by
                    rw [hE]
                    split
                    · rfl
                    · split <;> rfl
                  clear hE hok hgi hgl
                  go_wp2_with fail
                  refine cA.mono ?_
                  rintro e w4 ⟨rfl, rfl⟩
                  clear cA
                  go_wp2_with fail
                  refine cR.mono ?_
                  rintro e w5 ⟨rfl, rfl⟩
                  clear cR
                  have HF := Lib.hid HP3.out.next
                  clear e0 e1 e2 e3 e4 e5 e6
                  go_wp2_with fail
                  go_meet
                  exact ⟨given, rv, M, gs, A9, c9, rfl, rfl, rfl, HF⟩))))
            · have t0 : (kk == 0) = false := by simpa using q0
              by_cases q1 : kk = 1
              · skip
                have t1 : (kk == 1) = true := by simpa using q1
                refine way_out (inferInstanceAs (Nonempty (WayTo (G := _) (by
                  have hfew := HP3.out.sc.few
                  have cT : ∃ (y : WT) (ob : Bool) (M' : List (Nat × WT)), Calls Try.prog 8 #[.pointer (some ⟨p, 0, none⟩), .int .i64 r] wc (fun e w' => e = .returned (.tuple #[.agg #[.int .i64 y.req, .string y.key, .int .i64 y.client, .int .i64 y.id, .int .i64 y.first, .int .i64 y.last, .bool y.marked], .bool ob]) ∧ SC w' p b life given M' ∧ Kept wc w' (TP p b M)) ∧ (∀ m ∈ M', m ∈ M) ∧ (∀ m ∈ M', m.2.req ≠ r) ∧ (M.map (·.2)).filterMap (notA r) = M'.map (·.2) ∧ ((M.map (·.2)).find? (fun y => decide (y.req = r))).getD zW = y ∧ ((M.map (·.2)).find? (fun y => decide (y.req = r))).isSome = ob := by
                    by_cases hex : ∃ m ∈ M, m.2.req = r
                    · obtain ⟨m, hm, rfl⟩ := hex
                      obtain ⟨pre, post, hpp⟩ := List.append_of_mem hm
                      obtain ⟨q, x⟩ := m
                      subst hpp
                      obtain ⟨f1, f2⟩ := find_at HP3.out.sc.rise
                      refine ⟨x, true, pre ++ post, (ptell_yes HP3.out.sc).mono fun e w' h => ⟨h.1, h.2.1, h.2.2.mono fun n _ hn => .inr (.inl hn)⟩, fun m hm => ?_, fun m hm => ?_, f2, by rw [f1]; rfl, by rw [f1]; rfl⟩
                      · rcases List.mem_append.1 hm with hm | hm
                        · exact List.mem_append_left _ hm
                        · exact List.mem_append_right _ (List.mem_cons_of_mem _ hm)
                      · have hr := HP3.out.sc.rise
                        rw [List.map_append, List.map_cons, List.pairwise_append] at hr
                        obtain ⟨h1, h2, h3⟩ := hr
                        rw [List.pairwise_cons] at h2
                        rcases List.mem_append.1 hm with hm | hm
                        · have h4 : m.2.req < x.req := h3 m.2.req (List.mem_map.2 ⟨m, hm, rfl⟩) x.req (by simp)
                          dsimp only
                          omega
                        · have h4 : x.req < m.2.req := h2.1 m.2.req (List.mem_map.2 ⟨m, hm, rfl⟩)
                          dsimp only
                          omega
                    · have hno : ∀ m ∈ M, m.2.req ≠ r := fun m hm h => hex ⟨m, hm, h⟩
                      obtain ⟨f1, f2⟩ := find_not hno
                      exact ⟨zW, false, M, (ptell_no HP3.out.sc r hno hr6).mono fun e w' h => ⟨h.1, HP3.out.sc.below h.2, ⟨h.2.os, h.2.tape, h.2.output, h.2.size, fun n hn _ => h.2.block n hn⟩⟩, fun m hm => hm, hno, f2, by rw [f1]; rfl, by rw [f1]; rfl⟩
                  obtain ⟨y, ob, M', cT, hsub, hnot, hfm, hfy, hfo⟩ := cT
                  have HM := Lib.hid (And.intro hsub (And.intro hnot hfm))
                  have HY := Lib.hid (And.intro hfy hfo)
                  clear hsub hnot hfm hfy hfo
                  go_wp2_with fail
                  refine cT.mono ?_
                  rintro e w4 ⟨rfl, hs4, ka⟩
                  clear cT
                  have hra := HP3.out.prog ka
                  obtain ⟨hzt1, hzt2⟩ := HP3.out.zt HX3.out
                  have hx4 := (ka.block z (lt_of_heap HX3.out) hzt1).trans HX3.out
                  obtain ⟨u, hu⟩ : ∃ u, u = w4.heap.size := ⟨_, rfl⟩
                  obtain ⟨w5, hw5⟩ : ∃ w5, w5 = w4.alloc (.cells #[.int .i64 y.req, .string y.key, .int .i64 y.client, .int .i64 y.id, .int .i64 y.first, .int .i64 y.last, .bool y.marked] 37) := ⟨_, rfl⟩
                  have hb5 : Below w4.heap.size w4 w5 := by rw [hw5]; exact (Below.refl _ _).alloc (Nat.le_refl _) _
                  have hu5 : w5.heap[w4.heap.size]? = some (.cells #[.int .i64 y.req, .string y.key, .int .i64 y.client, .int .i64 y.id, .int .i64 y.first, .int .i64 y.last, .bool y.marked] 37 (0, 0)) := by rw [hw5]; exact heap_alloc_new w4 _
                  rw [← hu] at hu5
                  have ka5 : Kept wc w5 (TP p b M) := ka.trans (Kept.of_below hb5 : Kept w4 w5 _) fun n hn => .inr (Nat.le_trans ka.size hn)
                  have hra5 := hra.below hb5
                  have hs5 := hs4.below hb5
                  have hx5 := (hb5.block z (lt_of_heap hx4)).trans hx4
                  have cU := rtell_any hra5 (Nat.le_trans HP3.out.bel.size ka5.size) (by rw [List.length_map]; exact hfew) r
                  rw [HY.out.1, HY.out.2] at cU
                  unfold WT.agg at cU
                  have hl3 : wc.heap.size ≤ u := by rw [hu]; exact ka.size
                  have HW5 := Lib.hid hw5
                  have HU := Lib.hid hu
                  have HQ := Lib.hid (And.intro hs5 (And.intro ka5 (And.intro hu5 hx5)))
                  have HZT := Lib.hid (And.intro hzt2 hl3)
                  clear e0 e1 e2 e3 e4 e5 e6 hs4 ka hra hzt1 hzt2 hx4 hw5 hb5 hu5 ka5 hra5 hs5 hx5 hu hl3 hfew
                  go_upto_region 25 with fail
                  rw [← HW5.out, ← HU.out]
                  clear HW5 HU
                  go_wp2_with fail
                  refine cU.mono ?_
                  rintro e w6 ⟨rfl, v6, hr6', hk6, hv6⟩
                  clear cU
                  have hP6 := HP3.out.both (M' := M') HQ.out.1 HQ.out.2.1 (fun m hm => HP3.out.mB m (HM.out.1 m hm)) (by have := HP3.out.giv; push_cast; omega) (by rw [← HM.out.2.2]; exact hr6') hk6 (fun n hn ht => HP3.out.rt n hn (by
                    rcases ht with h | h | ⟨m, hm, h⟩
                    · exact .inl h
                    · exact .inr (.inl h)
                    · exact .inr (.inr ⟨m, HM.out.1 m hm, h⟩)))
                  have hut : ¬ TR rp rv u := fun ht => by
                    have hl3 := HZT.out.2
                    rcases ht with h | h
                    · have := HP3.out.rc.ltp; omega
                    · have := (HP3.out.rc.row.lt u h).2; omega
                  have hu6 := (hk6.block u (lt_of_heap HQ.out.2.2.1) hut).trans HQ.out.2.2.1
                  have hx6 := (hk6.block z (lt_of_heap HQ.out.2.2.2) HZT.out.1).trans HQ.out.2.2.2
                  obtain ⟨t, ht⟩ : ∃ t, t = w6.heap.size := ⟨_, rfl⟩
                  obtain ⟨w7, hw7⟩ : ∃ w7, w7 = w6.alloc (.cells #[.int .i64 y.req, .string y.key, .int .i64 y.client, .int .i64 y.id, .int .i64 y.first, .int .i64 y.last, .bool y.marked] 40) := ⟨_, rfl⟩
                  have hb7 : Below w6.heap.size w6 w7 := by rw [hw7]; exact (Below.refl _ _).alloc (Nat.le_refl _) _
                  have ht7 : w7.heap[w6.heap.size]? = some (.cells #[.int .i64 y.req, .string y.key, .int .i64 y.client, .int .i64 y.id, .int .i64 y.first, .int .i64 y.last, .bool y.marked] 40 (0, 0)) := by rw [hw7]; exact heap_alloc_new w6 _
                  rw [← ht] at ht7
                  have hu7 := (hb7.block u (lt_of_heap hu6)).trans hu6
                  have hx7 := (hb7.block z (lt_of_heap hx6)).trans hx6
                  have h70 : w7.cell? ⟨z, 0, none⟩ = some (.int .u8 kk) := (blk_cells hx7).1 0
                  have hPB : PL w w7 p b rp life given v6 (.slice A9 gs.length c9) M' gs (i + 1) := hP6.below hb7
                  have hB6 : u < w6.heap.size := lt_of_heap hu6
                  have hmu : ∀ m ∈ M', m.1 < u := fun m hm => Nat.lt_of_lt_of_le (HP3.out.sc.ltm (HM.out.1 m hm)) HZT.out.2
                  have hrt : ∀ q, v6.ownBlock = some q → q < t := fun q hq => by rw [ht]; exact (hr6'.row.lt q hq).2
                  have HW7 := Lib.hid hw7
                  have HT := Lib.hid ht
                  have HPB := Lib.hid hPB
                  have HC := Lib.hid (And.intro ht7 (And.intro hu7 hx7))
                  have HMU := Lib.hid (And.intro hmu (And.intro hrt (And.intro HM.out.2.1 (And.intro (show u < t by rw [ht]; exact hB6) (show w.heap.size ≤ u from Nat.le_trans HP3.out.bel.size HZT.out.2)))))
                  clear hP6 hr6' hk6 hv6 hut hu6 hx6 hw7 ht hb7 ht7 hu7 hx7 hPB hB6 hmu hrt HQ HZT HM HY
                  go_upto_region 26 with fail
                  rw [← HW7.out, ← HT.out]
                  clear HW7 HT
                  subst q1
                  obtain ⟨wa, hwa⟩ : ∃ wa, w7.alloc (.cells #[.int .i64 y.req, .string y.key, .int .i64 y.client, .int .i64 y.id, .int .i64 y.first, .int .i64 y.last, .bool y.marked] 37) = wa := ⟨_, rfl⟩
                  have hba : Below w7.heap.size w7 wa := by rw [← hwa]; exact (Below.refl _ _).alloc (Nat.le_refl _) _
                  have hra : wa.heap[w7.heap.size]? = some (.cells (wtR.vals y).toArray 37 (0, 0)) := by rw [← hwa]; exact heap_alloc_new w7 _
                  obtain ⟨wb, hwb⟩ : ∃ wb, wa.alloc (.cells #[.int .i64 y.req, .string y.key, .int .i64 y.client, .int .i64 y.id, .int .i64 y.first, .int .i64 y.last, .bool y.marked] 40) = wb := ⟨_, rfl⟩
                  have hbb : Below wa.heap.size wa wb := by rw [← hwb]; exact (Below.refl _ _).alloc (Nat.le_refl _) _
                  have hrb : wb.heap[wa.heap.size]? = some (.cells (wtR.vals y).toArray 40 (0, 0)) := by rw [← hwb]; exact heap_alloc_new wa _
                  have o1 : wtR.N wb Any (.slice (some ⟨w7.heap.size, 0, none⟩) 1 1) [y] := Rec.one_row (R := wtR) (N := Any) (a := y) ((hbb.block _ (lt_of_heap hra)).trans hra) trivial
                  have o2 : wtR.N wb Any (.slice (some ⟨wa.heap.size, 0, none⟩) 1 1) [y] := Rec.one_row (R := wtR) (N := Any) (a := y) hrb trivial
                  have cS := same_yes [y] _ _ wb o1 o2
                  obtain ⟨x0, x1, x2, x3, x4, x5, x6⟩ : w7.cell? ⟨u, 0, none⟩ = some (.int .i64 y.req) ∧ w7.cell? ⟨u, 1, none⟩ = some (.string y.key) ∧ w7.cell? ⟨u, 2, none⟩ = some (.int .i64 y.client) ∧ w7.cell? ⟨u, 3, none⟩ = some (.int .i64 y.id) ∧ w7.cell? ⟨u, 4, none⟩ = some (.int .i64 y.first) ∧ w7.cell? ⟨u, 5, none⟩ = some (.int .i64 y.last) ∧ w7.cell? ⟨u, 6, none⟩ = some (.bool y.marked) := ⟨(blk_cells HC.out.2.1).1 0, (blk_cells HC.out.2.1).1 1, (blk_cells HC.out.2.1).1 2, (blk_cells HC.out.2.1).1 3, (blk_cells HC.out.2.1).1 4, (blk_cells HC.out.2.1).1 5, (blk_cells HC.out.2.1).1 6⟩
                  have hta := (hba.block t (lt_of_heap HC.out.1)).trans HC.out.1
                  obtain ⟨y0, y1, y2, y3, y4, y5, y6⟩ : wa.cell? ⟨t, 0, none⟩ = some (.int .i64 y.req) ∧ wa.cell? ⟨t, 1, none⟩ = some (.string y.key) ∧ wa.cell? ⟨t, 2, none⟩ = some (.int .i64 y.client) ∧ wa.cell? ⟨t, 3, none⟩ = some (.int .i64 y.id) ∧ wa.cell? ⟨t, 4, none⟩ = some (.int .i64 y.first) ∧ wa.cell? ⟨t, 5, none⟩ = some (.int .i64 y.last) ∧ wa.cell? ⟨t, 6, none⟩ = some (.bool y.marked) := ⟨(blk_cells hta).1 0, (blk_cells hta).1 1, (blk_cells hta).1 2, (blk_cells hta).1 3, (blk_cells hta).1 4, (blk_cells hta).1 5, (blk_cells hta).1 6⟩
                  have HPF := Lib.hid ((HPB.out.below hba).below hbb)
                  obtain ⟨ua, hua⟩ : ∃ ua, w7.heap.size = ua := ⟨_, rfl⟩
                  obtain ⟨ub, hub⟩ : ∃ ub, wa.heap.size = ub := ⟨_, rfl⟩
                  rw [hua, hub] at cS
                  clear hba hra hbb hrb o1 o2 hta
                  go_wp2_with fail
                  refine cS.mono ?_
                  rintro e wz ⟨rfl, hbz⟩
                  have HF := Lib.hid (HPF.out.below hbz)
                  clear hbz cS
                  go_wp2_with fail
                  go_meet
                  exact ⟨given, _, _, gs, A9, c9, rfl, rfl, rfl, HF⟩))))
              · have t1 : (kk == 1) = false := by simpa using q1
                by_cases q2 : kk = 2
                · skip
                  have t2 : (kk == 2) = true := by simpa using q2
                  refine way_out (inferInstanceAs (Nonempty (WayTo (G := _) (by
                    have hfew := HP3.out.sc.few
                    have cT : ∃ (y : WT) (ob : Bool) (M' : List (Nat × WT)), Calls Try.prog 8 #[.pointer (some ⟨p, 0, none⟩), .int .i64 r] wc (fun e w' => e = .returned (.tuple #[.agg #[.int .i64 y.req, .string y.key, .int .i64 y.client, .int .i64 y.id, .int .i64 y.first, .int .i64 y.last, .bool y.marked], .bool ob]) ∧ SC w' p b life given M' ∧ Kept wc w' (TP p b M)) ∧ (∀ m ∈ M', m ∈ M) ∧ (∀ m ∈ M', m.2.req ≠ r) ∧ (M.map (·.2)).filterMap (notA r) = M'.map (·.2) ∧ ((M.map (·.2)).find? (fun y => decide (y.req = r))).getD zW = y ∧ ((M.map (·.2)).find? (fun y => decide (y.req = r))).isSome = ob := by
                      by_cases hex : ∃ m ∈ M, m.2.req = r
                      · obtain ⟨m, hm, rfl⟩ := hex
                        obtain ⟨pre, post, hpp⟩ := List.append_of_mem hm
                        obtain ⟨q, x⟩ := m
                        subst hpp
                        obtain ⟨f1, f2⟩ := find_at HP3.out.sc.rise
                        refine ⟨x, true, pre ++ post, (ptell_yes HP3.out.sc).mono fun e w' h => ⟨h.1, h.2.1, h.2.2.mono fun n _ hn => .inr (.inl hn)⟩, fun m hm => ?_, fun m hm => ?_, f2, by rw [f1]; rfl, by rw [f1]; rfl⟩
                        · rcases List.mem_append.1 hm with hm | hm
                          · exact List.mem_append_left _ hm
                          · exact List.mem_append_right _ (List.mem_cons_of_mem _ hm)
                        · have hr := HP3.out.sc.rise
                          rw [List.map_append, List.map_cons, List.pairwise_append] at hr
                          obtain ⟨h1, h2, h3⟩ := hr
                          rw [List.pairwise_cons] at h2
                          rcases List.mem_append.1 hm with hm | hm
                          · have h4 : m.2.req < x.req := h3 m.2.req (List.mem_map.2 ⟨m, hm, rfl⟩) x.req (by simp)
                            dsimp only
                            omega
                          · have h4 : x.req < m.2.req := h2.1 m.2.req (List.mem_map.2 ⟨m, hm, rfl⟩)
                            dsimp only
                            omega
                      · have hno : ∀ m ∈ M, m.2.req ≠ r := fun m hm h => hex ⟨m, hm, h⟩
                        obtain ⟨f1, f2⟩ := find_not hno
                        exact ⟨zW, false, M, (ptell_no HP3.out.sc r hno hr6).mono fun e w' h => ⟨h.1, HP3.out.sc.below h.2, ⟨h.2.os, h.2.tape, h.2.output, h.2.size, fun n hn _ => h.2.block n hn⟩⟩, fun m hm => hm, hno, f2, by rw [f1]; rfl, by rw [f1]; rfl⟩
                    obtain ⟨y, ob, M', cT, hsub, hnot, hfm, hfy, hfo⟩ := cT
                    have HM := Lib.hid (And.intro hsub (And.intro hnot hfm))
                    have HY := Lib.hid (And.intro hfy hfo)
                    clear hsub hnot hfm hfy hfo
                    go_wp2_with fail
                    refine cT.mono ?_
                    rintro e w4 ⟨rfl, hs4, ka⟩
                    clear cT
                    have hra := HP3.out.prog ka
                    obtain ⟨hzt1, hzt2⟩ := HP3.out.zt HX3.out
                    have hx4 := (ka.block z (lt_of_heap HX3.out) hzt1).trans HX3.out
                    obtain ⟨u, hu⟩ : ∃ u, u = w4.heap.size := ⟨_, rfl⟩
                    obtain ⟨w5, hw5⟩ : ∃ w5, w5 = w4.alloc (.cells #[.int .i64 y.req, .string y.key, .int .i64 y.client, .int .i64 y.id, .int .i64 y.first, .int .i64 y.last, .bool y.marked] 37) := ⟨_, rfl⟩
                    have hb5 : Below w4.heap.size w4 w5 := by rw [hw5]; exact (Below.refl _ _).alloc (Nat.le_refl _) _
                    have hu5 : w5.heap[w4.heap.size]? = some (.cells #[.int .i64 y.req, .string y.key, .int .i64 y.client, .int .i64 y.id, .int .i64 y.first, .int .i64 y.last, .bool y.marked] 37 (0, 0)) := by rw [hw5]; exact heap_alloc_new w4 _
                    rw [← hu] at hu5
                    have ka5 : Kept wc w5 (TP p b M) := ka.trans (Kept.of_below hb5 : Kept w4 w5 _) fun n hn => .inr (Nat.le_trans ka.size hn)
                    have hra5 := hra.below hb5
                    have hs5 := hs4.below hb5
                    have hx5 := (hb5.block z (lt_of_heap hx4)).trans hx4
                    have cU := rtell_any hra5 (Nat.le_trans HP3.out.bel.size ka5.size) (by rw [List.length_map]; exact hfew) r
                    rw [HY.out.1, HY.out.2] at cU
                    unfold WT.agg at cU
                    have hl3 : wc.heap.size ≤ u := by rw [hu]; exact ka.size
                    have HW5 := Lib.hid hw5
                    have HU := Lib.hid hu
                    have HQ := Lib.hid (And.intro hs5 (And.intro ka5 (And.intro hu5 hx5)))
                    have HZT := Lib.hid (And.intro hzt2 hl3)
                    clear e0 e1 e2 e3 e4 e5 e6 hs4 ka hra hzt1 hzt2 hx4 hw5 hb5 hu5 ka5 hra5 hs5 hx5 hu hl3 hfew
                    go_upto_region 25 with fail
                    rw [← HW5.out, ← HU.out]
                    clear HW5 HU
                    go_wp2_with fail
                    refine cU.mono ?_
                    rintro e w6 ⟨rfl, v6, hr6', hk6, hv6⟩
                    clear cU
                    have hP6 := HP3.out.both (M' := M') HQ.out.1 HQ.out.2.1 (fun m hm => HP3.out.mB m (HM.out.1 m hm)) (by have := HP3.out.giv; push_cast; omega) (by rw [← HM.out.2.2]; exact hr6') hk6 (fun n hn ht => HP3.out.rt n hn (by
                      rcases ht with h | h | ⟨m, hm, h⟩
                      · exact .inl h
                      · exact .inr (.inl h)
                      · exact .inr (.inr ⟨m, HM.out.1 m hm, h⟩)))
                    have hut : ¬ TR rp rv u := fun ht => by
                      have hl3 := HZT.out.2
                      rcases ht with h | h
                      · have := HP3.out.rc.ltp; omega
                      · have := (HP3.out.rc.row.lt u h).2; omega
                    have hu6 := (hk6.block u (lt_of_heap HQ.out.2.2.1) hut).trans HQ.out.2.2.1
                    have hx6 := (hk6.block z (lt_of_heap HQ.out.2.2.2) HZT.out.1).trans HQ.out.2.2.2
                    obtain ⟨t, ht⟩ : ∃ t, t = w6.heap.size := ⟨_, rfl⟩
                    obtain ⟨w7, hw7⟩ : ∃ w7, w7 = w6.alloc (.cells #[.int .i64 y.req, .string y.key, .int .i64 y.client, .int .i64 y.id, .int .i64 y.first, .int .i64 y.last, .bool y.marked] 40) := ⟨_, rfl⟩
                    have hb7 : Below w6.heap.size w6 w7 := by rw [hw7]; exact (Below.refl _ _).alloc (Nat.le_refl _) _
                    have ht7 : w7.heap[w6.heap.size]? = some (.cells #[.int .i64 y.req, .string y.key, .int .i64 y.client, .int .i64 y.id, .int .i64 y.first, .int .i64 y.last, .bool y.marked] 40 (0, 0)) := by rw [hw7]; exact heap_alloc_new w6 _
                    rw [← ht] at ht7
                    have hu7 := (hb7.block u (lt_of_heap hu6)).trans hu6
                    have hx7 := (hb7.block z (lt_of_heap hx6)).trans hx6
                    have h70 : w7.cell? ⟨z, 0, none⟩ = some (.int .u8 kk) := (blk_cells hx7).1 0
                    have hPB : PL w w7 p b rp life given v6 (.slice A9 gs.length c9) M' gs (i + 1) := hP6.below hb7
                    have hB6 : u < w6.heap.size := lt_of_heap hu6
                    have hmu : ∀ m ∈ M', m.1 < u := fun m hm => Nat.lt_of_lt_of_le (HP3.out.sc.ltm (HM.out.1 m hm)) HZT.out.2
                    have hrt : ∀ q, v6.ownBlock = some q → q < t := fun q hq => by rw [ht]; exact (hr6'.row.lt q hq).2
                    have HW7 := Lib.hid hw7
                    have HT := Lib.hid ht
                    have HPB := Lib.hid hPB
                    have HC := Lib.hid (And.intro ht7 (And.intro hu7 hx7))
                    have HMU := Lib.hid (And.intro hmu (And.intro hrt (And.intro HM.out.2.1 (And.intro (show u < t by rw [ht]; exact hB6) (show w.heap.size ≤ u from Nat.le_trans HP3.out.bel.size HZT.out.2)))))
                    clear hP6 hr6' hk6 hv6 hut hu6 hx6 hw7 ht hb7 ht7 hu7 hx7 hPB hB6 hmu hrt HQ HZT HM HY
                    go_upto_region 26 with fail
                    rw [← HW7.out, ← HT.out]
                    clear HW7 HT
                    subst q2
                    have hno := HMU.out.2.2.1
                    obtain ⟨x, hx⟩ : ∃ x : WT, x = zW := ⟨_, rfl⟩
                    have cL := plook_no HPB.out.sc r hno hr6
                    rw [← hx] at cL
                    unfold WT.agg at cL
                    obtain ⟨f1, -⟩ := find_not hno
                    have HFX : Hid (((M'.map (·.2)).find? (fun y => decide (y.req = r))).getD zW = x ∧ ((M'.map (·.2)).find? (fun y => decide (y.req = r))).isSome = false) := Lib.hid ⟨by rw [f1, hx]; rfl, by rw [f1]; rfl⟩
                    clear hx hno f1
                    go_wp2_with fail
                    refine cL.mono ?_
                    rintro e w8 ⟨rfl, hb8⟩
                    clear cL h70
                    have hP8 := HPB.out.below hb8
                    have hu8 := (hb8.block u (lt_of_heap HC.out.2.1)).trans HC.out.2.1
                    have ht8 := (hb8.block t (lt_of_heap HC.out.1)).trans HC.out.1
                    obtain ⟨j0, j1, j2, j3, j4, j5, j6⟩ : w8.cell? ⟨u, 0, none⟩ = some (.int .i64 y.req) ∧ w8.cell? ⟨u, 1, none⟩ = some (.string y.key) ∧ w8.cell? ⟨u, 2, none⟩ = some (.int .i64 y.client) ∧ w8.cell? ⟨u, 3, none⟩ = some (.int .i64 y.id) ∧ w8.cell? ⟨u, 4, none⟩ = some (.int .i64 y.first) ∧ w8.cell? ⟨u, 5, none⟩ = some (.int .i64 y.last) ∧ w8.cell? ⟨u, 6, none⟩ = some (.bool y.marked) := ⟨(blk_cells hu8).1 0, (blk_cells hu8).1 1, (blk_cells hu8).1 2, (blk_cells hu8).1 3, (blk_cells hu8).1 4, (blk_cells hu8).1 5, (blk_cells hu8).1 6⟩
                    obtain ⟨k0, k1, k2, k3, k4, k5, k6⟩ : w8.frozen? ⟨u, 0, none⟩ = false ∧ w8.frozen? ⟨u, 1, none⟩ = false ∧ w8.frozen? ⟨u, 2, none⟩ = false ∧ w8.frozen? ⟨u, 3, none⟩ = false ∧ w8.frozen? ⟨u, 4, none⟩ = false ∧ w8.frozen? ⟨u, 5, none⟩ = false ∧ w8.frozen? ⟨u, 6, none⟩ = false := ⟨(blk_cells hu8).2 0, (blk_cells hu8).2 1, (blk_cells hu8).2 2, (blk_cells hu8).2 3, (blk_cells hu8).2 4, (blk_cells hu8).2 5, (blk_cells hu8).2 6⟩
                    obtain ⟨w9, hw9⟩ : ∃ w9, w9 = (((((((w8).setCell ⟨u, 0, none⟩ (.int .i64 x.req)).setCell ⟨u, 1, none⟩ (.string x.key)).setCell ⟨u, 2, none⟩ (.int .i64 x.client)).setCell ⟨u, 3, none⟩ (.int .i64 x.id)).setCell ⟨u, 4, none⟩ (.int .i64 x.first)).setCell ⟨u, 5, none⟩ (.int .i64 x.last)).setCell ⟨u, 6, none⟩ (.bool x.marked) := ⟨_, rfl⟩
                    have hu9 : w9.heap[u]? = some (.cells x.cells 37 (0, 0)) := by rw [hw9]; exact set7_at hu8
                    have k9' : Kept w8 w9 (fun n => n = u) := by rw [hw9]; exact set7_kept
                    obtain ⟨a1, a2, a3⟩ := hP8.wt_far hu8 HMU.out.1
                    have hP9 := hP8.far k9' (fun n hn => by subst hn; exact ⟨HMU.out.2.2.2.2, a1, a2, a3⟩)
                    have ht9 := (k9'.block t (lt_of_heap ht8) (by have := HMU.out.2.2.2.1; omega)).trans ht8
                    have cM := rlook_any hP9.rc (by rw [List.length_map]; exact hP9.sc.few) r
                    rw [HFX.out.1, HFX.out.2] at cM
                    unfold WT.agg at cM
                    have HP9 := Lib.hid hP9
                    have HU9 := Lib.hid hu9
                    have HT9 := Lib.hid ht9
                    have HW9 := Lib.hid hw9
                    clear hb8 hP8 hu8 ht8 hw9 hu9 k9' a1 a2 a3 hP9 ht9
                    go_upto_region 28 with fail
                    rw [← HW9.out]
                    clear HW9 j0 j1 j2 j3 j4 j5 j6 k0 k1 k2 k3 k4 k5 k6
                    go_wp2_with fail
                    refine cM.mono ?_
                    rintro e w10 ⟨rfl, hb10⟩
                    clear cM
                    have hP10 := HP9.out.below hb10
                    have hu10 := (hb10.block u (lt_of_heap HU9.out)).trans HU9.out
                    have ht10 := (hb10.block t (lt_of_heap HT9.out)).trans HT9.out
                    obtain ⟨j0, j1, j2, j3, j4, j5, j6⟩ : w10.cell? ⟨t, 0, none⟩ = some (.int .i64 y.req) ∧ w10.cell? ⟨t, 1, none⟩ = some (.string y.key) ∧ w10.cell? ⟨t, 2, none⟩ = some (.int .i64 y.client) ∧ w10.cell? ⟨t, 3, none⟩ = some (.int .i64 y.id) ∧ w10.cell? ⟨t, 4, none⟩ = some (.int .i64 y.first) ∧ w10.cell? ⟨t, 5, none⟩ = some (.int .i64 y.last) ∧ w10.cell? ⟨t, 6, none⟩ = some (.bool y.marked) := ⟨(blk_cells ht10).1 0, (blk_cells ht10).1 1, (blk_cells ht10).1 2, (blk_cells ht10).1 3, (blk_cells ht10).1 4, (blk_cells ht10).1 5, (blk_cells ht10).1 6⟩
                    obtain ⟨k0, k1, k2, k3, k4, k5, k6⟩ : w10.frozen? ⟨t, 0, none⟩ = false ∧ w10.frozen? ⟨t, 1, none⟩ = false ∧ w10.frozen? ⟨t, 2, none⟩ = false ∧ w10.frozen? ⟨t, 3, none⟩ = false ∧ w10.frozen? ⟨t, 4, none⟩ = false ∧ w10.frozen? ⟨t, 5, none⟩ = false ∧ w10.frozen? ⟨t, 6, none⟩ = false := ⟨(blk_cells ht10).2 0, (blk_cells ht10).2 1, (blk_cells ht10).2 2, (blk_cells ht10).2 3, (blk_cells ht10).2 4, (blk_cells ht10).2 5, (blk_cells ht10).2 6⟩
                    obtain ⟨w11, hw11⟩ : ∃ w11, w11 = (((((((w10).setCell ⟨t, 0, none⟩ (.int .i64 x.req)).setCell ⟨t, 1, none⟩ (.string x.key)).setCell ⟨t, 2, none⟩ (.int .i64 x.client)).setCell ⟨t, 3, none⟩ (.int .i64 x.id)).setCell ⟨t, 4, none⟩ (.int .i64 x.first)).setCell ⟨t, 5, none⟩ (.int .i64 x.last)).setCell ⟨t, 6, none⟩ (.bool x.marked) := ⟨_, rfl⟩
                    have ht11 : w11.heap[t]? = some (.cells x.cells 40 (0, 0)) := by rw [hw11]; exact set7_at ht10
                    have k11 : Kept w10 w11 (fun n => n = t) := by rw [hw11]; exact set7_kept
                    obtain ⟨a1, a2, a3⟩ := hP10.rt_far ht10 HMU.out.2.1
                    have hP11 := hP10.far k11 (fun n hn => by subst hn; exact ⟨by have h1 := HMU.out.2.2.2.1; have h2 := HMU.out.2.2.2.2; omega, a1, a2, a3⟩)
                    have hu11 := (k11.block u (lt_of_heap hu10) (by have := HMU.out.2.2.2.1; omega)).trans hu10
                    have HP11 := Lib.hid hP11
                    have HU11 := Lib.hid hu11
                    have HT11 := Lib.hid ht11
                    have HW11 := Lib.hid hw11
                    clear hb10 hP10 hu10 ht10 hw11 ht11 k11 a1 a2 a3 hP11 hu11
                    go_upto_region 29 with fail
                    rw [← HW11.out]
                    clear HW11 j0 j1 j2 j3 j4 j5 j6 k0 k1 k2 k3 k4 k5 k6
                    obtain ⟨wa, hwa⟩ : ∃ wa, w11.alloc (.cells #[.int .i64 x.req, .string x.key, .int .i64 x.client, .int .i64 x.id, .int .i64 x.first, .int .i64 x.last, .bool x.marked] 37) = wa := ⟨_, rfl⟩
                    have hba : Below w11.heap.size w11 wa := by rw [← hwa]; exact (Below.refl _ _).alloc (Nat.le_refl _) _
                    have hra : wa.heap[w11.heap.size]? = some (.cells (wtR.vals x).toArray 37 (0, 0)) := by rw [← hwa]; exact heap_alloc_new w11 _
                    obtain ⟨wb, hwb⟩ : ∃ wb, wa.alloc (.cells #[.int .i64 x.req, .string x.key, .int .i64 x.client, .int .i64 x.id, .int .i64 x.first, .int .i64 x.last, .bool x.marked] 40) = wb := ⟨_, rfl⟩
                    have hbb : Below wa.heap.size wa wb := by rw [← hwb]; exact (Below.refl _ _).alloc (Nat.le_refl _) _
                    have hrb : wb.heap[wa.heap.size]? = some (.cells (wtR.vals x).toArray 40 (0, 0)) := by rw [← hwb]; exact heap_alloc_new wa _
                    have o1 : wtR.N wb Any (.slice (some ⟨w11.heap.size, 0, none⟩) 1 1) [x] := Rec.one_row (R := wtR) (N := Any) (a := x) ((hbb.block _ (lt_of_heap hra)).trans hra) trivial
                    have o2 : wtR.N wb Any (.slice (some ⟨wa.heap.size, 0, none⟩) 1 1) [x] := Rec.one_row (R := wtR) (N := Any) (a := x) hrb trivial
                    have cS := same_yes [x] _ _ wb o1 o2
                    obtain ⟨x0, x1, x2, x3, x4, x5, x6⟩ : w11.cell? ⟨u, 0, none⟩ = some (.int .i64 x.req) ∧ w11.cell? ⟨u, 1, none⟩ = some (.string x.key) ∧ w11.cell? ⟨u, 2, none⟩ = some (.int .i64 x.client) ∧ w11.cell? ⟨u, 3, none⟩ = some (.int .i64 x.id) ∧ w11.cell? ⟨u, 4, none⟩ = some (.int .i64 x.first) ∧ w11.cell? ⟨u, 5, none⟩ = some (.int .i64 x.last) ∧ w11.cell? ⟨u, 6, none⟩ = some (.bool x.marked) := ⟨(blk_cells HU11.out).1 0, (blk_cells HU11.out).1 1, (blk_cells HU11.out).1 2, (blk_cells HU11.out).1 3, (blk_cells HU11.out).1 4, (blk_cells HU11.out).1 5, (blk_cells HU11.out).1 6⟩
                    have hta := (hba.block t (lt_of_heap HT11.out)).trans HT11.out
                    obtain ⟨y0, y1, y2, y3, y4, y5, y6⟩ : wa.cell? ⟨t, 0, none⟩ = some (.int .i64 x.req) ∧ wa.cell? ⟨t, 1, none⟩ = some (.string x.key) ∧ wa.cell? ⟨t, 2, none⟩ = some (.int .i64 x.client) ∧ wa.cell? ⟨t, 3, none⟩ = some (.int .i64 x.id) ∧ wa.cell? ⟨t, 4, none⟩ = some (.int .i64 x.first) ∧ wa.cell? ⟨t, 5, none⟩ = some (.int .i64 x.last) ∧ wa.cell? ⟨t, 6, none⟩ = some (.bool x.marked) := ⟨(blk_cells hta).1 0, (blk_cells hta).1 1, (blk_cells hta).1 2, (blk_cells hta).1 3, (blk_cells hta).1 4, (blk_cells hta).1 5, (blk_cells hta).1 6⟩
                    have HPF := Lib.hid ((HP11.out.below hba).below hbb)
                    obtain ⟨ua, hua⟩ : ∃ ua, w11.heap.size = ua := ⟨_, rfl⟩
                    obtain ⟨ub, hub⟩ : ∃ ub, wa.heap.size = ub := ⟨_, rfl⟩
                    rw [hua, hub] at cS
                    clear hba hra hbb hrb o1 o2 hta
                    go_wp2_with fail
                    refine cS.mono ?_
                    rintro e wz ⟨rfl, hbz⟩
                    have HF := Lib.hid (HPF.out.below hbz)
                    clear hbz cS
                    go_wp2_with fail
                    go_meet
                    exact ⟨given, _, _, gs, A9, c9, rfl, rfl, rfl, HF⟩))))
                · have t2 : (kk == 2) = false := by simpa using q2
                  by_cases q3 : kk = 3
                  · skip
                    refine way_out (inferInstanceAs (Nonempty (WayTo (G := _) (by
                      subst q3
                      have hfew := HP3.out.sc.few
                      have hP5 := HP3.out.below ((Below.refl _ _).drew : Below wc.heap.size wc wc.drew)
                      have hx5 : wc.drew.heap[z]? = _ := HX3.out
                      obtain ⟨hzt1, hzt2⟩ := hP5.zt hx5
                      have HP5 := Lib.hid hP5
                      have HX5 := Lib.hid hx5
                      have HZT := Lib.hid (And.intro hzt1 hzt2)
                      have hsd : (fun W : World => W.cell? ⟨z, 1, none⟩ = some (.string s.1.key)) wc.drew := (blk_cells hx5).1 1
                      have cP := pmark_any hP5.sc s.1.key
                      obtain ⟨mm, hmm⟩ : ∃ mm : Int, mm = ((((M.map (·.2)).filterMap (markA s.1.key)).length : Nat) : Int) := ⟨_, rfl⟩
                      rw [← hmm] at cP
                      have HMM := Lib.hid hmm
                      have HFEW := Lib.hid hfew
                      clear hP5 hx5 hzt1 hzt2 hmm hfew e0 e1 e2 e3 e4 e5 e6
                      go_upto_region 31 with fail
                      refine wp_region_held_drew (S := (fun W : World => W.cell? ⟨z, 1, none⟩ = some (.string s.1.key))) (by kernel_rfl) hsd (fun hHeld => ?_)
                      refine takeD (i := 0) (d := 180) (v := .pointer (some ⟨p, 0, none⟩)) rfl rfl (by kernel_rfl) (by kernel_rfl) (by kernel_rfl) (fun _ _ _ h => h) (.inl ⟨by rfl, fun w hSw => by dsimp only at hSw; go_simp; try with_reducible rfl⟩) (by assumption) ?_
                      simp only [Act.put, List.setIfInBounds_toArray, List.set_cons_zero, List.set_cons_succ]
                      refine takeD (i := 1) (d := 181) (v := .pointer (some ⟨z, 1, none⟩)) rfl rfl (by kernel_rfl) (by kernel_rfl) (by kernel_rfl) (fun _ _ _ h => h) (.inl ⟨by rfl, fun w hSw => by dsimp only at hSw; go_simp; try with_reducible rfl⟩) (by assumption) ?_
                      simp only [Act.put, List.setIfInBounds_toArray, List.set_cons_zero, List.set_cons_succ]
                      refine takeD (i := 2) (d := 182) (v := .string s.1.key) rfl rfl (by kernel_rfl) (by kernel_rfl) (by kernel_rfl) (fun _ _ _ h => h) (.inl ⟨by rfl, fun w hSw => by dsimp only at hSw; go_simp; try with_reducible rfl⟩) (by assumption) ?_
                      simp only [Act.put, List.setIfInBounds_toArray, List.set_cons_zero, List.set_cons_succ]
                      refine takeD (i := 4) (d := 184) (v := .pointer (some ⟨rp, 0, none⟩)) rfl rfl (by kernel_rfl) (by kernel_rfl) (by kernel_rfl) (fun _ _ _ h => h) (.inl ⟨by rfl, fun w hSw => by dsimp only at hSw; go_simp; try with_reducible rfl⟩) (by assumption) ?_
                      simp only [Act.put, List.setIfInBounds_toArray, List.set_cons_zero, List.set_cons_succ]
                      refine takeD (i := 5) (d := 185) (v := .pointer (some ⟨z, 1, none⟩)) rfl rfl (by kernel_rfl) (by kernel_rfl) (by kernel_rfl) (fun _ _ _ h => h) (.inl ⟨by rfl, fun w hSw => by dsimp only at hSw; go_simp; try with_reducible rfl⟩) (by assumption) ?_
                      simp only [Act.put, List.setIfInBounds_toArray, List.set_cons_zero, List.set_cons_succ]
                      refine takeD (i := 6) (d := 186) (v := .string s.1.key) rfl rfl (by kernel_rfl) (by kernel_rfl) (by kernel_rfl) (fun _ _ _ h => h) (.inl ⟨by rfl, fun w hSw => by dsimp only at hSw; go_simp; try with_reducible rfl⟩) (by assumption) ?_
                      simp only [Act.put, List.setIfInBounds_toArray, List.set_cons_zero, List.set_cons_succ]
                      refine wpAnyH_ready (rs := [3]) (by kernel_rfl) (by simp) ?_
                      refine AllReadyH.cons rfl (fun K hK => ?_) AllReadyH.nil
                      rw [if_pos (by rfl)]
                      go_simp
                      go_at_call 13
                      refine (cP).mono ?_
                      rintro e wa ⟨rfl, hs4, hk4⟩
                      have ka : Kept wc.drew wa (TP p b M) := hk4.mono fun _ _ h => .inr h
                      have hra := HP5.out.prog ka
                      have hxa := (ka.block z (lt_of_heap HX5.out) HZT.out.1).trans HX5.out
                      have hsa : (fun W : World => W.cell? ⟨z, 1, none⟩ = some (.string s.1.key)) wa := (blk_cells hxa).1 1
                      have cR := rmark_any hra (by rw [List.length_map]; exact HFEW.out) s.1.key
                      rw [← HMM.out] at cR
                      dsimp only
                      refine hK.out _ _ hsa (fun hHeldhK => ?_)
                      try simp only [Act.put, List.setIfInBounds_toArray, List.set_cons_zero, List.set_cons_succ]
                      refine wpAnyH_ready (rs := [7]) (by kernel_rfl) (by simp) ?_
                      refine AllReadyH.cons rfl (fun K2 hK2 => ?_) AllReadyH.nil
                      rw [if_pos (by rfl)]
                      go_simp
                      go_at_call 14
                      refine (cR).mono ?_
                      rintro e wb ⟨rfl, hr5, hk5⟩
                      have hf := HP5.out.both hs4 ka (left_blocks HP5.out.mB) (by have := HP5.out.giv; push_cast; omega) (by rw [left_false]; exact hr5) hk5 (fun n hn ht => HP5.out.rt n hn (left_sub ht))
                      have HF := Lib.hid hf
                      have hsb : (fun W : World => W.cell? ⟨z, 1, none⟩ = some (.string s.1.key)) wb := (by
                        have hxb := (hk5.block z (lt_of_heap hxa) HZT.out.2).trans hxa
                        exact (blk_cells hxb).1 1)
                      clear hf
                      dsimp only
                      refine hK2.out _ _ hsb (fun hHeldhK2 => ?_)
                      try simp only [Act.put, List.setIfInBounds_toArray, List.set_cons_zero, List.set_cons_succ]
                      refine takeD (i := 8) (d := 188) (v := .bool true) rfl rfl (by kernel_rfl) (by kernel_rfl) (by kernel_rfl) (fun _ _ _ h => h) (.inl ⟨by rfl, fun w hSw => by dsimp only at hSw; go_simp; try with_reducible rfl⟩) (by assumption) ?_
                      simp only [Act.put, List.setIfInBounds_toArray, List.set_cons_zero, List.set_cons_succ]
                      refine takeD (i := 9) (d := 13) (v := .bool true) rfl rfl (by kernel_rfl) (by kernel_rfl) (by kernel_rfl) (fun _ _ _ h => h) (.inl ⟨by rfl, fun w hSw => by dsimp only at hSw; go_simp; try with_reducible rfl⟩) (by assumption) ?_
                      simp only [Act.put, List.setIfInBounds_toArray, List.set_cons_zero, List.set_cons_succ]
                      refine wpAnyH_done (by kernel_rfl) ?_ _
                      clear hsd hsa hsb hHeld hxa hra ka hs4 hk4 hr5 hk5
                      go_wp2_with fail
                      go_meet
                      exact ⟨given, _, _, gs, A9, c9, rfl, rfl, rfl, HF⟩))))
                  · have t3 : (kk == 3) = false := by simpa using q3
                    by_cases q4 : kk = 4
                    · skip
                      refine way_out (inferInstanceAs (Nonempty (WayTo (G := _) (by
                        subst q4
                        have hfew := HP3.out.sc.few
                        have hP5 := HP3.out.below ((Below.refl _ _).drew : Below wc.heap.size wc wc.drew)
                        have hx5 : wc.drew.heap[z]? = _ := HX3.out
                        obtain ⟨hzt1, hzt2⟩ := hP5.zt hx5
                        have HP5 := Lib.hid hP5
                        have HX5 := Lib.hid hx5
                        have HZT := Lib.hid (And.intro hzt1 hzt2)
                        have hsd : (fun W : World => W.cell? ⟨z, 4, none⟩ = some (.int .i64 s.1.now) ∧ W.cell? ⟨z, 5, none⟩ = some (.int .i64 s.1.n)) wc.drew := ⟨(blk_cells hx5).1 4, (blk_cells hx5).1 5⟩
                        have cP := pdue_any hP5.sc s.1.now s.1.n
                        obtain ⟨LD, hLD⟩ : ∃ LD, LD = (M.map (·.2)).filterMap (dueA s.1.now s.1.n) := ⟨_, rfl⟩
                        rw [← hLD] at cP
                        have hl64 : LD.length ≤ 64 := by
                          rw [hLD]
                          refine Nat.le_trans (List.length_filterMap_le _ _) ?_
                          rw [List.length_map]
                          exact hfew
                        have HLD := Lib.hid hLD
                        have HL64 := Lib.hid (And.intro hl64 hfew)
                        clear hP5 hx5 hzt1 hzt2 hLD hfew hl64 e0 e1 e2 e3 e4 e5 e6
                        go_upto_region 33 with fail
                        refine wp_region_held_drew (S := (fun W : World => W.cell? ⟨z, 4, none⟩ = some (.int .i64 s.1.now) ∧ W.cell? ⟨z, 5, none⟩ = some (.int .i64 s.1.n))) (by kernel_rfl) hsd (fun hHeld => ?_)
                        refine takeD (i := 0) (d := 191) (v := .pointer (some ⟨p, 0, none⟩)) rfl rfl (by kernel_rfl) (by kernel_rfl) (by kernel_rfl) (fun _ _ _ h => h) (.inl ⟨by rfl, fun w hSw => by dsimp only at hSw; go_simp; try with_reducible rfl⟩) (by assumption) ?_
                        simp only [Act.put, List.setIfInBounds_toArray, List.set_cons_zero, List.set_cons_succ]
                        refine takeD (i := 1) (d := 192) (v := .pointer (some ⟨z, 4, none⟩)) rfl rfl (by kernel_rfl) (by kernel_rfl) (by kernel_rfl) (fun _ _ _ h => h) (.inl ⟨by rfl, fun w hSw => by dsimp only at hSw; go_simp; try with_reducible rfl⟩) (by assumption) ?_
                        simp only [Act.put, List.setIfInBounds_toArray, List.set_cons_zero, List.set_cons_succ]
                        refine takeD (i := 2) (d := 193) (v := .int .i64 s.1.now) rfl rfl (by kernel_rfl) (by kernel_rfl) (by kernel_rfl) (fun _ _ _ h => h) (.inl ⟨by rfl, fun w hSw => by dsimp only at hSw; go_simp; try with_reducible rfl⟩) (by assumption) ?_
                        simp only [Act.put, List.setIfInBounds_toArray, List.set_cons_zero, List.set_cons_succ]
                        refine takeD (i := 3) (d := 194) (v := .pointer (some ⟨z, 5, none⟩)) rfl rfl (by kernel_rfl) (by kernel_rfl) (by kernel_rfl) (fun _ _ _ h => h) (.inl ⟨by rfl, fun w hSw => by dsimp only at hSw; go_simp; try with_reducible rfl⟩) (by assumption) ?_
                        simp only [Act.put, List.setIfInBounds_toArray, List.set_cons_zero, List.set_cons_succ]
                        refine takeD (i := 4) (d := 195) (v := .int .i64 s.1.n) rfl rfl (by kernel_rfl) (by kernel_rfl) (by kernel_rfl) (fun _ _ _ h => h) (.inl ⟨by rfl, fun w hSw => by dsimp only at hSw; go_simp; try with_reducible rfl⟩) (by assumption) ?_
                        simp only [Act.put, List.setIfInBounds_toArray, List.set_cons_zero, List.set_cons_succ]
                        refine takeD (i := 6) (d := 197) (v := .pointer (some ⟨rp, 0, none⟩)) rfl rfl (by kernel_rfl) (by kernel_rfl) (by kernel_rfl) (fun _ _ _ h => h) (.inl ⟨by rfl, fun w hSw => by dsimp only at hSw; go_simp; try with_reducible rfl⟩) (by assumption) ?_
                        simp only [Act.put, List.setIfInBounds_toArray, List.set_cons_zero, List.set_cons_succ]
                        refine takeD (i := 7) (d := 198) (v := .pointer (some ⟨z, 4, none⟩)) rfl rfl (by kernel_rfl) (by kernel_rfl) (by kernel_rfl) (fun _ _ _ h => h) (.inl ⟨by rfl, fun w hSw => by dsimp only at hSw; go_simp; try with_reducible rfl⟩) (by assumption) ?_
                        simp only [Act.put, List.setIfInBounds_toArray, List.set_cons_zero, List.set_cons_succ]
                        refine takeD (i := 8) (d := 199) (v := .int .i64 s.1.now) rfl rfl (by kernel_rfl) (by kernel_rfl) (by kernel_rfl) (fun _ _ _ h => h) (.inl ⟨by rfl, fun w hSw => by dsimp only at hSw; go_simp; try with_reducible rfl⟩) (by assumption) ?_
                        simp only [Act.put, List.setIfInBounds_toArray, List.set_cons_zero, List.set_cons_succ]
                        refine takeD (i := 9) (d := 200) (v := .pointer (some ⟨z, 5, none⟩)) rfl rfl (by kernel_rfl) (by kernel_rfl) (by kernel_rfl) (fun _ _ _ h => h) (.inl ⟨by rfl, fun w hSw => by dsimp only at hSw; go_simp; try with_reducible rfl⟩) (by assumption) ?_
                        simp only [Act.put, List.setIfInBounds_toArray, List.set_cons_zero, List.set_cons_succ]
                        refine takeD (i := 10) (d := 201) (v := .int .i64 s.1.n) rfl rfl (by kernel_rfl) (by kernel_rfl) (by kernel_rfl) (fun _ _ _ h => h) (.inl ⟨by rfl, fun w hSw => by dsimp only at hSw; go_simp; try with_reducible rfl⟩) (by assumption) ?_
                        simp only [Act.put, List.setIfInBounds_toArray, List.set_cons_zero, List.set_cons_succ]
                        refine wpAnyH_ready (rs := [5]) (by kernel_rfl) (by simp) ?_
                        refine AllReadyH.cons rfl (fun K hK => ?_) AllReadyH.nil
                        rw [if_pos (by rfl)]
                        go_simp
                        go_at_call 16
                        refine (cP).mono ?_
                        rintro e wa ⟨A5, c5, rfl, hO4, hs4, hk4⟩
                        have ka : Kept wc.drew wa (TP p b M) := hk4.mono fun _ _ h => .inr h
                        have hra := HP5.out.prog ka
                        have hxa := (ka.block z (lt_of_heap HX5.out) HZT.out.1).trans HX5.out
                        have hsa : (fun W : World => W.cell? ⟨z, 4, none⟩ = some (.int .i64 s.1.now) ∧ W.cell? ⟨z, 5, none⟩ = some (.int .i64 s.1.n)) wa := ⟨(blk_cells hxa).1 4, (blk_cells hxa).1 5⟩
                        have cR := rdue_any hra (by rw [List.length_map]; exact HL64.out.2) s.1.now s.1.n
                        rw [← HLD.out] at cR
                        dsimp only
                        refine hK.out _ _ hsa (fun hHeldhK => ?_)
                        try simp only [Act.put, List.setIfInBounds_toArray, List.set_cons_zero, List.set_cons_succ]
                        refine wpAnyH_ready (rs := [11]) (by kernel_rfl) (by simp) ?_
                        refine AllReadyH.cons rfl (fun K2 hK2 => ?_) AllReadyH.nil
                        rw [if_pos (by rfl)]
                        go_simp
                        go_at_call 17
                        refine (cR).mono ?_
                        rintro e wb ⟨A6, c6, rfl, hO5, hr5, hk5⟩
                        have hf := HP5.out.both hs4 ka (left_blocks HP5.out.mB) (by have := HP5.out.giv; push_cast; omega) (by rw [left_false]; exact hr5) hk5 (fun n hn ht => HP5.out.rt n hn (left_sub ht))
                        have hxb := (hk5.block z (lt_of_heap hxa) HZT.out.2).trans hxa
                        have hsb : (fun W : World => W.cell? ⟨z, 4, none⟩ = some (.int .i64 s.1.now) ∧ W.cell? ⟨z, 5, none⟩ = some (.int .i64 s.1.n)) wb := ⟨(blk_cells hxb).1 4, (blk_cells hxb).1 5⟩
                        have hOb : wtR.Own wb wc.drew.heap.size 37 (.slice A5 LD.length c5) LD := row_same hO4 fun n hn => hk5.block n (hO4.lt n hn).2 fun ht => by
                          obtain ⟨cur, hc⟩ := row_type hO4 hn
                          rcases ht with rfl | ht
                          · exact apart_T hc hra.obj (by decide) rfl
                          · obtain ⟨cur2, hc2⟩ := row_type hra.row ht
                            exact apart_T hc hc2 (by decide) rfl
                        have cT := twice_yes LD _ _ wc.drew.heap.size wb hOb hO5.n.any (Nat.le_trans ka.size hk5.size) HL64.out.1
                        dsimp only
                        refine hK2.out _ _ hsb (fun hHeldhK2 => ?_)
                        try simp only [Act.put, List.setIfInBounds_toArray, List.set_cons_zero, List.set_cons_succ]
                        refine wpAnyH_ready (rs := [12]) (by kernel_rfl) (by simp) ?_
                        refine AllReadyH.cons rfl (fun K3 hK3 => ?_) AllReadyH.nil
                        rw [if_pos (by rfl)]
                        go_simp
                        go_at_call 15
                        refine (cT).mono ?_
                        rintro e wt ⟨rfl, hbt, hkt⟩
                        have hft := hf.spoilt hOb HP5.out.bel.size (left_lt fun m hm => HP5.out.sc.ltm hm) hkt
                        have HF := Lib.hid hft
                        have hst : (fun W : World => W.cell? ⟨z, 4, none⟩ = some (.int .i64 s.1.now) ∧ W.cell? ⟨z, 5, none⟩ = some (.int .i64 s.1.n)) wt := (by
                          have hxt := (hkt.block z (lt_of_heap hxb) fun e => by
                            obtain ⟨cur, hc⟩ := row_type hOb e
                            exact apart_T hxb hc (by decide) rfl).trans hxb
                          exact ⟨(blk_cells hxt).1 4, (blk_cells hxt).1 5⟩)
                        clear hft
                        dsimp only
                        refine hK3.out _ _ hst (fun hHeldhK3 => ?_)
                        try simp only [Act.put, List.setIfInBounds_toArray, List.set_cons_zero, List.set_cons_succ]
                        refine takeD (i := 13) (d := 13) (v := .bool true) rfl rfl (by kernel_rfl) (by kernel_rfl) (by kernel_rfl) (fun _ _ _ h => h) (.inl ⟨by rfl, fun w hSw => by dsimp only at hSw; go_simp; try with_reducible rfl⟩) (by assumption) ?_
                        simp only [Act.put, List.setIfInBounds_toArray, List.set_cons_zero, List.set_cons_succ]
                        refine wpAnyH_done (by kernel_rfl) ?_ _
                        clear hsd hsa hsb hst hHeld hxa hxb hra ka hs4 hk4 hr5 hk5 hO4 hO5 hOb hf hbt hkt cR cT cP
                        go_wp2_with fail
                        go_meet
                        exact ⟨given, _, _, gs, A9, c9, rfl, rfl, rfl, HF⟩))))
                    · have t4 : (kk == 4) = false := by simpa using q4
                      refine way_out (inferInstanceAs (Nonempty (WayTo (G := _) (by
                        have hfew := HP3.out.sc.few
                        have hP5 := HP3.out.below ((Below.refl _ _).drew : Below wc.heap.size wc wc.drew)
                        have hx5 : wc.drew.heap[z]? = _ := HX3.out
                        obtain ⟨hzt1, hzt2⟩ := hP5.zt hx5
                        have HP5 := Lib.hid hP5
                        have HX5 := Lib.hid hx5
                        have HZT := Lib.hid (And.intro hzt1 hzt2)
                        have hsd : (fun W : World => W.cell? ⟨z, 4, none⟩ = some (.int .i64 s.1.now) ∧ W.cell? ⟨z, 5, none⟩ = some (.int .i64 s.1.n)) wc.drew := ⟨(blk_cells hx5).1 4, (blk_cells hx5).1 5⟩
                        have cP := pold_any hP5.sc s.1.now s.1.n
                        obtain ⟨LD, hLD⟩ : ∃ LD, LD = (M.map (·.2)).filterMap (oldA s.1.now s.1.n) := ⟨_, rfl⟩
                        rw [← hLD] at cP
                        have hl64 : LD.length ≤ 64 := by
                          rw [hLD]
                          refine Nat.le_trans (List.length_filterMap_le _ _) ?_
                          rw [List.length_map]
                          exact hfew
                        have HLD := Lib.hid hLD
                        have HL64 := Lib.hid (And.intro hl64 hfew)
                        clear hP5 hx5 hzt1 hzt2 hLD hfew hl64 e0 e1 e2 e3 e4 e5 e6
                        go_upto_region 15 with fail
                        refine wp_region_held_drew (S := (fun W : World => W.cell? ⟨z, 4, none⟩ = some (.int .i64 s.1.now) ∧ W.cell? ⟨z, 5, none⟩ = some (.int .i64 s.1.n))) (by kernel_rfl) hsd (fun hHeld => ?_)
                        refine takeD (i := 0) (d := 83) (v := .pointer (some ⟨p, 0, none⟩)) rfl rfl (by kernel_rfl) (by kernel_rfl) (by kernel_rfl) (fun _ _ _ h => h) (.inl ⟨by rfl, fun w hSw => by dsimp only at hSw; go_simp; try with_reducible rfl⟩) (by assumption) ?_
                        simp only [Act.put, List.setIfInBounds_toArray, List.set_cons_zero, List.set_cons_succ]
                        refine takeD (i := 1) (d := 84) (v := .pointer (some ⟨z, 4, none⟩)) rfl rfl (by kernel_rfl) (by kernel_rfl) (by kernel_rfl) (fun _ _ _ h => h) (.inl ⟨by rfl, fun w hSw => by dsimp only at hSw; go_simp; try with_reducible rfl⟩) (by assumption) ?_
                        simp only [Act.put, List.setIfInBounds_toArray, List.set_cons_zero, List.set_cons_succ]
                        refine takeD (i := 2) (d := 85) (v := .int .i64 s.1.now) rfl rfl (by kernel_rfl) (by kernel_rfl) (by kernel_rfl) (fun _ _ _ h => h) (.inl ⟨by rfl, fun w hSw => by dsimp only at hSw; go_simp; try with_reducible rfl⟩) (by assumption) ?_
                        simp only [Act.put, List.setIfInBounds_toArray, List.set_cons_zero, List.set_cons_succ]
                        refine takeD (i := 3) (d := 86) (v := .pointer (some ⟨z, 5, none⟩)) rfl rfl (by kernel_rfl) (by kernel_rfl) (by kernel_rfl) (fun _ _ _ h => h) (.inl ⟨by rfl, fun w hSw => by dsimp only at hSw; go_simp; try with_reducible rfl⟩) (by assumption) ?_
                        simp only [Act.put, List.setIfInBounds_toArray, List.set_cons_zero, List.set_cons_succ]
                        refine takeD (i := 4) (d := 87) (v := .int .i64 s.1.n) rfl rfl (by kernel_rfl) (by kernel_rfl) (by kernel_rfl) (fun _ _ _ h => h) (.inl ⟨by rfl, fun w hSw => by dsimp only at hSw; go_simp; try with_reducible rfl⟩) (by assumption) ?_
                        simp only [Act.put, List.setIfInBounds_toArray, List.set_cons_zero, List.set_cons_succ]
                        refine takeD (i := 6) (d := 89) (v := .pointer (some ⟨rp, 0, none⟩)) rfl rfl (by kernel_rfl) (by kernel_rfl) (by kernel_rfl) (fun _ _ _ h => h) (.inl ⟨by rfl, fun w hSw => by dsimp only at hSw; go_simp; try with_reducible rfl⟩) (by assumption) ?_
                        simp only [Act.put, List.setIfInBounds_toArray, List.set_cons_zero, List.set_cons_succ]
                        refine takeD (i := 7) (d := 90) (v := .pointer (some ⟨z, 4, none⟩)) rfl rfl (by kernel_rfl) (by kernel_rfl) (by kernel_rfl) (fun _ _ _ h => h) (.inl ⟨by rfl, fun w hSw => by dsimp only at hSw; go_simp; try with_reducible rfl⟩) (by assumption) ?_
                        simp only [Act.put, List.setIfInBounds_toArray, List.set_cons_zero, List.set_cons_succ]
                        refine takeD (i := 8) (d := 91) (v := .int .i64 s.1.now) rfl rfl (by kernel_rfl) (by kernel_rfl) (by kernel_rfl) (fun _ _ _ h => h) (.inl ⟨by rfl, fun w hSw => by dsimp only at hSw; go_simp; try with_reducible rfl⟩) (by assumption) ?_
                        simp only [Act.put, List.setIfInBounds_toArray, List.set_cons_zero, List.set_cons_succ]
                        refine takeD (i := 9) (d := 92) (v := .pointer (some ⟨z, 5, none⟩)) rfl rfl (by kernel_rfl) (by kernel_rfl) (by kernel_rfl) (fun _ _ _ h => h) (.inl ⟨by rfl, fun w hSw => by dsimp only at hSw; go_simp; try with_reducible rfl⟩) (by assumption) ?_
                        simp only [Act.put, List.setIfInBounds_toArray, List.set_cons_zero, List.set_cons_succ]
                        refine takeD (i := 10) (d := 93) (v := .int .i64 s.1.n) rfl rfl (by kernel_rfl) (by kernel_rfl) (by kernel_rfl) (fun _ _ _ h => h) (.inl ⟨by rfl, fun w hSw => by dsimp only at hSw; go_simp; try with_reducible rfl⟩) (by assumption) ?_
                        simp only [Act.put, List.setIfInBounds_toArray, List.set_cons_zero, List.set_cons_succ]
                        refine wpAnyH_ready (rs := [5]) (by kernel_rfl) (by simp) ?_
                        refine AllReadyH.cons rfl (fun K hK => ?_) AllReadyH.nil
                        rw [if_pos (by rfl)]
                        go_simp
                        go_at_call 18
                        refine (cP).mono ?_
                        rintro e wa ⟨A5, c5, rfl, hO4, hs4, hk4⟩
                        have ka : Kept wc.drew wa (TP p b M) := hk4.mono fun _ _ h => .inr h
                        have hra := HP5.out.prog ka
                        have hxa := (ka.block z (lt_of_heap HX5.out) HZT.out.1).trans HX5.out
                        have hsa : (fun W : World => W.cell? ⟨z, 4, none⟩ = some (.int .i64 s.1.now) ∧ W.cell? ⟨z, 5, none⟩ = some (.int .i64 s.1.n)) wa := ⟨(blk_cells hxa).1 4, (blk_cells hxa).1 5⟩
                        have cR := rold_any hra (Nat.le_trans HP5.out.bel.size ka.size) (by rw [List.length_map]; exact HL64.out.2) s.1.now s.1.n
                        rw [← HLD.out] at cR
                        dsimp only
                        refine hK.out _ _ hsa (fun hHeldhK => ?_)
                        try simp only [Act.put, List.setIfInBounds_toArray, List.set_cons_zero, List.set_cons_succ]
                        refine wpAnyH_ready (rs := [11]) (by kernel_rfl) (by simp) ?_
                        refine AllReadyH.cons rfl (fun K2 hK2 => ?_) AllReadyH.nil
                        rw [if_pos (by rfl)]
                        go_simp
                        go_at_call 19
                        refine (cR).mono ?_
                        rintro e wb ⟨A6, c6, rfl, hO5, v6, hr5, hk5, hv6⟩
                        have hf := HP5.out.both hs4 ka (left_blocks HP5.out.mB) (by have := HP5.out.giv; push_cast; omega) (by rw [left_snds]; exact hr5) hk5 (fun n hn ht => HP5.out.rt n hn (left_sub ht))
                        have hxb := (hk5.block z (lt_of_heap hxa) HZT.out.2).trans hxa
                        have hsb : (fun W : World => W.cell? ⟨z, 4, none⟩ = some (.int .i64 s.1.now) ∧ W.cell? ⟨z, 5, none⟩ = some (.int .i64 s.1.n)) wb := ⟨(blk_cells hxb).1 4, (blk_cells hxb).1 5⟩
                        have hOb : wtR.Own wb wc.drew.heap.size 37 (.slice A5 LD.length c5) LD := row_same hO4 fun n hn => hk5.block n (hO4.lt n hn).2 fun ht => by
                          obtain ⟨cur, hc⟩ := row_type hO4 hn
                          rcases ht with rfl | ht
                          · exact apart_T hc hra.obj (by decide) rfl
                          · obtain ⟨cur2, hc2⟩ := row_type hra.row ht
                            exact apart_T hc hc2 (by decide) rfl
                        have cT := twice_yes LD _ _ wc.drew.heap.size wb hOb hO5.n.any (Nat.le_trans ka.size hk5.size) HL64.out.1
                        dsimp only
                        refine hK2.out _ _ hsb (fun hHeldhK2 => ?_)
                        try simp only [Act.put, List.setIfInBounds_toArray, List.set_cons_zero, List.set_cons_succ]
                        refine wpAnyH_ready (rs := [12]) (by kernel_rfl) (by simp) ?_
                        refine AllReadyH.cons rfl (fun K3 hK3 => ?_) AllReadyH.nil
                        rw [if_pos (by rfl)]
                        go_simp
                        go_at_call 15
                        refine (cT).mono ?_
                        rintro e wt ⟨rfl, hbt, hkt⟩
                        have hft := hf.spoilt hOb HP5.out.bel.size (left_lt fun m hm => HP5.out.sc.ltm hm) hkt
                        have HF := Lib.hid hft
                        have hst : (fun W : World => W.cell? ⟨z, 4, none⟩ = some (.int .i64 s.1.now) ∧ W.cell? ⟨z, 5, none⟩ = some (.int .i64 s.1.n)) wt := (by
                          have hxt := (hkt.block z (lt_of_heap hxb) fun e => by
                            obtain ⟨cur, hc⟩ := row_type hOb e
                            exact apart_T hxb hc (by decide) rfl).trans hxb
                          exact ⟨(blk_cells hxt).1 4, (blk_cells hxt).1 5⟩)
                        clear hft
                        dsimp only
                        refine hK3.out _ _ hst (fun hHeldhK3 => ?_)
                        try simp only [Act.put, List.setIfInBounds_toArray, List.set_cons_zero, List.set_cons_succ]
                        refine takeD (i := 13) (d := 13) (v := .bool true) rfl rfl (by kernel_rfl) (by kernel_rfl) (by kernel_rfl) (fun _ _ _ h => h) (.inl ⟨by rfl, fun w hSw => by dsimp only at hSw; go_simp; try with_reducible rfl⟩) (by assumption) ?_
                        simp only [Act.put, List.setIfInBounds_toArray, List.set_cons_zero, List.set_cons_succ]
                        refine wpAnyH_done (by kernel_rfl) ?_ _
                        clear hsd hsa hsb hst hHeld hxa hxb hra ka hs4 hk4 hr5 hk5 hO4 hO5 hOb hf hbt hkt cR cT cP
                        go_wp2_with fail
                        go_meet
                        exact ⟨given, _, _, gs, A9, c9, rfl, rfl, rfl, HF⟩))))
          case rest =>
            refine way_out (inferInstanceAs (Nonempty (WayTo (G := _) (by
              obtain ⟨given2, rv2, M2, gs2, A2, c2, rfl, rfl, rfl, hP2⟩ := hcut
              obtain ⟨wy, hwy⟩ : ∃ wy : World, wy = wc := ⟨_, rfl⟩
              subst hwy
              have hfew := hP2.out.sc.few
              have hP5 := hP2.out.below ((Below.refl _ _).drew : Below wy.heap.size wy wy.drew)
              obtain ⟨Ar, cr, hrv⟩ := hP5.rc.slice
              rw [List.length_map] at hrv
              subst hrv
              have hsd : (fun W : World => W.cell? ⟨rp, 2, none⟩ = some (.slice Ar M2.length cr)) wy.drew := (blk_cells hP5.rc.obj).1 2
              have cP := pall_any hP5.sc
              have HP5 := Lib.hid hP5
              have HFEW := Lib.hid hfew
              clear hP5 hP2 hfew
              go_upto_region 34 with fail
              refine wp_region_held_drew (S := (fun W : World => W.cell? ⟨rp, 2, none⟩ = some (.slice Ar M2.length cr))) (by kernel_rfl) hsd (fun hHeld => ?_)
              refine takeD (i := 0) (d := 204) (v := .bool true) rfl rfl (by kernel_rfl) (by kernel_rfl) (by kernel_rfl) (fun _ _ _ h => h) (.inl ⟨by rfl, fun w hSw => by dsimp only at hSw; go_simp; try with_reducible rfl⟩) (by assumption) ?_
              simp only [Act.put, List.setIfInBounds_toArray, List.set_cons_zero, List.set_cons_succ]
              refine takeD (i := 1) (d := 205) (v := .bool false) rfl rfl (by kernel_rfl) (by kernel_rfl) (by kernel_rfl) (fun _ _ _ h => h) (.inl ⟨by rfl, fun w hSw => by dsimp only at hSw; go_simp; try with_reducible rfl⟩) (by assumption) ?_
              simp only [Act.put, List.setIfInBounds_toArray, List.set_cons_zero, List.set_cons_succ]
              refine takeD (i := 2) (d := 206) (v := .bool false) rfl rfl (by kernel_rfl) (by kernel_rfl) (by kernel_rfl) (fun _ _ _ h => h) (.inl ⟨by rfl, fun w hSw => by dsimp only at hSw; go_simp; try with_reducible rfl⟩) (by assumption) ?_
              simp only [Act.put, List.setIfInBounds_toArray, List.set_cons_zero, List.set_cons_succ]
              refine takeD (i := 3) (d := 207) (v := .pointer (some ⟨p, 0, none⟩)) rfl rfl (by kernel_rfl) (by kernel_rfl) (by kernel_rfl) (fun _ _ _ h => h) (.inl ⟨by rfl, fun w hSw => by dsimp only at hSw; go_simp; try with_reducible rfl⟩) (by assumption) ?_
              simp only [Act.put, List.setIfInBounds_toArray, List.set_cons_zero, List.set_cons_succ]
              refine takeD (i := 5) (d := 209) (v := .pointer (some ⟨rp, 0, none⟩)) rfl rfl (by kernel_rfl) (by kernel_rfl) (by kernel_rfl) (fun _ _ _ h => h) (.inl ⟨by rfl, fun w hSw => by dsimp only at hSw; go_simp; try with_reducible rfl⟩) (by assumption) ?_
              simp only [Act.put, List.setIfInBounds_toArray, List.set_cons_zero, List.set_cons_succ]
              refine takeD (i := 6) (d := 210) (v := .pointer (some ⟨rp, 0, none⟩)) rfl rfl (by kernel_rfl) (by kernel_rfl) (by kernel_rfl) (fun _ _ _ h => h) (.inl ⟨by rfl, fun w hSw => by dsimp only at hSw; go_simp; try with_reducible rfl⟩) (by assumption) ?_
              simp only [Act.put, List.setIfInBounds_toArray, List.set_cons_zero, List.set_cons_succ]
              refine takeD (i := 7) (d := 211) (v := .pointer (some ⟨rp, 2, none⟩)) rfl rfl (by kernel_rfl) (by kernel_rfl) (by kernel_rfl) (fun _ _ _ h => h) (.inl ⟨by rfl, fun w hSw => by dsimp only at hSw; go_simp; try with_reducible rfl⟩) (by assumption) ?_
              simp only [Act.put, List.setIfInBounds_toArray, List.set_cons_zero, List.set_cons_succ]
              refine takeD (i := 8) (d := 212) (v := .slice Ar M2.length cr) rfl rfl (by kernel_rfl) (by kernel_rfl) (by kernel_rfl) (fun _ _ _ h => h) (.inl ⟨by rfl, fun w hSw => by dsimp only at hSw; go_simp; try with_reducible rfl⟩) (by assumption) ?_
              simp only [Act.put, List.setIfInBounds_toArray, List.set_cons_zero, List.set_cons_succ]
              refine wpAnyH_ready (rs := [4]) (by kernel_rfl) (by simp) ?_
              refine AllReadyH.cons rfl (fun K hK => ?_) AllReadyH.nil
              rw [if_pos (by rfl)]
              go_simp
              go_at_call 20
              refine (cP).mono ?_
              rintro e wa ⟨A5, c5, rfl, hO4, hs4, hk4⟩
              have hPa := HP5.out.all hs4 hk4
              have hsa : (fun W : World => W.cell? ⟨rp, 2, none⟩ = some (.slice Ar M2.length cr)) wa := (blk_cells hPa.rc.obj).1 2
              have hO4' : wtR.Own wa wy.drew.heap.size 37 (.slice A5 (M2.map (·.2)).length c5) (M2.map (·.2)) := by rw [List.length_map]; exact hO4
              have cT := twice_yes (M2.map (·.2)) _ _ wy.drew.heap.size wa hO4' hPa.rc.row.n.any hk4.size (by rw [List.length_map]; exact HFEW.out)
              rw [List.length_map] at cT
              dsimp only
              refine hK.out _ _ hsa (fun hHeldhK => ?_)
              try simp only [Act.put, List.setIfInBounds_toArray, List.set_cons_zero, List.set_cons_succ]
              refine wpAnyH_ready (rs := [9]) (by kernel_rfl) (by simp) ?_
              refine AllReadyH.cons rfl (fun K2 hK2 => ?_) AllReadyH.nil
              rw [if_pos (by rfl)]
              go_simp
              go_at_call 15
              refine (cT).mono ?_
              rintro e wt ⟨rfl, hbt, hkt⟩
              have hPt := hPa.spoilt hO4 HP5.out.bel.size (fun m hm => HP5.out.sc.ltm hm) hkt
              have hst : (fun W : World => W.cell? ⟨rp, 2, none⟩ = some (.slice Ar M2.length cr)) wt := (blk_cells hPt.rc.obj).1 2
              have cQ := pall_any hPt.sc
              dsimp only
              refine hK2.out _ _ hst (fun hHeldhK2 => ?_)
              try simp only [Act.put, List.setIfInBounds_toArray, List.set_cons_zero, List.set_cons_succ]
              refine takeD (i := 10) (d := 214) (v := .bool false) rfl rfl (by kernel_rfl) (by kernel_rfl) (by kernel_rfl) (fun _ _ _ h => h) (.inl ⟨by rfl, fun w hSw => by dsimp only at hSw; go_simp; try with_reducible rfl⟩) (by assumption) ?_
              simp only [Act.put, List.setIfInBounds_toArray, List.set_cons_zero, List.set_cons_succ]
              refine takeD (i := 11) (d := 215) (v := .bool false) rfl rfl (by kernel_rfl) (by kernel_rfl) (by kernel_rfl) (fun _ _ _ h => h) (.inl ⟨by rfl, fun w hSw => by dsimp only at hSw; go_simp; try with_reducible rfl⟩) (by assumption) ?_
              simp only [Act.put, List.setIfInBounds_toArray, List.set_cons_zero, List.set_cons_succ]
              refine takeD (i := 12) (d := 216) (v := .bool false) rfl rfl (by kernel_rfl) (by kernel_rfl) (by kernel_rfl) (fun _ _ _ h => h) (.inl ⟨by rfl, fun w hSw => by dsimp only at hSw; go_simp; try with_reducible rfl⟩) (by assumption) ?_
              simp only [Act.put, List.setIfInBounds_toArray, List.set_cons_zero, List.set_cons_succ]
              refine takeD (i := 13) (d := 217) (v := .pointer (some ⟨p, 0, none⟩)) rfl rfl (by kernel_rfl) (by kernel_rfl) (by kernel_rfl) (fun _ _ _ h => h) (.inl ⟨by rfl, fun w hSw => by dsimp only at hSw; go_simp; try with_reducible rfl⟩) (by assumption) ?_
              simp only [Act.put, List.setIfInBounds_toArray, List.set_cons_zero, List.set_cons_succ]
              refine takeD (i := 15) (d := 219) (v := .pointer (some ⟨rp, 0, none⟩)) rfl rfl (by kernel_rfl) (by kernel_rfl) (by kernel_rfl) (fun _ _ _ h => h) (.inl ⟨by rfl, fun w hSw => by dsimp only at hSw; go_simp; try with_reducible rfl⟩) (by assumption) ?_
              simp only [Act.put, List.setIfInBounds_toArray, List.set_cons_zero, List.set_cons_succ]
              refine takeD (i := 16) (d := 220) (v := .pointer (some ⟨rp, 0, none⟩)) rfl rfl (by kernel_rfl) (by kernel_rfl) (by kernel_rfl) (fun _ _ _ h => h) (.inl ⟨by rfl, fun w hSw => by dsimp only at hSw; go_simp; try with_reducible rfl⟩) (by assumption) ?_
              simp only [Act.put, List.setIfInBounds_toArray, List.set_cons_zero, List.set_cons_succ]
              refine takeD (i := 17) (d := 221) (v := .pointer (some ⟨rp, 2, none⟩)) rfl rfl (by kernel_rfl) (by kernel_rfl) (by kernel_rfl) (fun _ _ _ h => h) (.inl ⟨by rfl, fun w hSw => by dsimp only at hSw; go_simp; try with_reducible rfl⟩) (by assumption) ?_
              simp only [Act.put, List.setIfInBounds_toArray, List.set_cons_zero, List.set_cons_succ]
              refine takeD (i := 18) (d := 222) (v := .slice Ar M2.length cr) rfl rfl (by kernel_rfl) (by kernel_rfl) (by kernel_rfl) (fun _ _ _ h => h) (.inl ⟨by rfl, fun w hSw => by dsimp only at hSw; go_simp; try with_reducible rfl⟩) (by assumption) ?_
              simp only [Act.put, List.setIfInBounds_toArray, List.set_cons_zero, List.set_cons_succ]
              refine wpAnyH_ready (rs := [14]) (by kernel_rfl) (by simp) ?_
              refine AllReadyH.cons rfl (fun K3 hK3 => ?_) AllReadyH.nil
              rw [if_pos (by rfl)]
              go_simp
              go_at_call 20
              refine (cQ).mono ?_
              rintro e wu ⟨A6, c6, rfl, hO6, hs6, hk6⟩
              have hPu := hPt.all hs6 hk6
              have hsu : (fun W : World => W.cell? ⟨rp, 2, none⟩ = some (.slice Ar M2.length cr)) wu := (blk_cells hPu.rc.obj).1 2
              have hO6' : wtR.N wu Any (.slice A6 (M2.map (·.2)).length c6) (M2.map (·.2)) := by rw [List.length_map]; exact hO6.n.any
              have cS := same_yes (M2.map (·.2)) _ _ wu hO6' hPu.rc.row.n.any
              rw [List.length_map] at cS
              dsimp only
              refine hK3.out _ _ hsu (fun hHeldhK3 => ?_)
              try simp only [Act.put, List.setIfInBounds_toArray, List.set_cons_zero, List.set_cons_succ]
              refine wpAnyH_ready (rs := [19]) (by kernel_rfl) (by simp) ?_
              refine AllReadyH.cons rfl (fun K4 hK4 => ?_) AllReadyH.nil
              rw [if_pos (by rfl)]
              go_simp
              go_at_call 12
              refine (cS).mono ?_
              rintro e wv ⟨rfl, hbv⟩
              have hPv := hPu.below hbv
              have hsv : (fun W : World => W.cell? ⟨rp, 2, none⟩ = some (.slice Ar M2.length cr)) wv := (blk_cells hPv.rc.obj).1 2
              have HF := Lib.hid hPv
              clear hPv
              dsimp only
              refine hK4.out _ _ hsv (fun hHeldhK4 => ?_)
              try simp only [Act.put, List.setIfInBounds_toArray, List.set_cons_zero, List.set_cons_succ]
              refine takeD (i := 20) (d := 224) (v := .bool false) rfl rfl (by kernel_rfl) (by kernel_rfl) (by kernel_rfl) (fun _ _ _ h => h) (.inl ⟨by rfl, fun w hSw => by dsimp only at hSw; go_simp; try with_reducible rfl⟩) (by assumption) ?_
              simp only [Act.put, List.setIfInBounds_toArray, List.set_cons_zero, List.set_cons_succ]
              refine takeD (i := 21) (d := 225) (v := .bool false) rfl rfl (by kernel_rfl) (by kernel_rfl) (by kernel_rfl) (fun _ _ _ h => h) (.inl ⟨by rfl, fun w hSw => by dsimp only at hSw; go_simp; try with_reducible rfl⟩) (by assumption) ?_
              simp only [Act.put, List.setIfInBounds_toArray, List.set_cons_zero, List.set_cons_succ]
              refine wpAnyH_done (by kernel_rfl) ?_ _
              clear hsd hsa hst hsu hsv hHeld hPa hO4 hO4' hs4 hk4 hPt hbt hkt hPu hO6 hO6' hs6 hk6 hbv cP cT cQ cS
              go_wp2_with fail
              exact ⟨⟨i + 1, given2, _, M2, gs2, A2, c2, by go_num, by omega, by omega, rfl, HF⟩, by simp [intOf]; omega⟩))))
      · have hex : ¬ (i : Int) < (l.length : Int) ∨ ((i : Int) < (l.length : Int) ∧ ¬ (i : Int) < 120) := by omega
        rcases hex with b1 | ⟨b1, b2⟩
        · go_wp2_with fail
          refine (awake_any _).mono ?_
          rintro e w3 ⟨rfl, hb3⟩
          have HF := Lib.hid (hP.out.bel.trans (Joins.below_le hb3 hP.out.bel.size))
          clear hb3 hP
          go_wp2_with fail
          go_ret
          exact ⟨rfl, HF.out⟩
        · go_wp2_with fail
          refine (awake_any _).mono ?_
          rintro e w3 ⟨rfl, hb3⟩
          have HF := Lib.hid (hP.out.bel.trans (Joins.below_le hb3 hP.out.bel.size))
          clear hb3 hP
          go_wp2_with fail
          go_ret
          exact ⟨rfl, HF.out⟩
end Go.Proofs.Ytclfhidapkoiiab
