/-
  Lists of pairs and of last writes, read. No statement is proved here. No condition.
-/
import Derived.Test.YtblbcoknefgcaaaMRdC
namespace Go.Proofs.Ytblbcoknefgcaaa
open Go.RowKit

theorem step_app {P : Program} {ops : Array Oper} {o : Oper} {a : Act} {w w' : World} {v' : Value} {K : Act → World → Prop} {Q : Exit → Act → World → Prop} {E : Prop} (hg : o.guard = none) (s x : Operand) (t : TypeId)
    (hop : o.op = Op.call { callee := Callee.builtin Builtin.append, args := #[s, x], argTypes := #[t, t] }) (vs vx : Value) (hs : a.eval s = vs) (hx : a.eval x = vx)
    (hrun : (Builtin.append_ #[t, t] o.type #[vs, vx]).run P w = .ok v' w') (hK : K (a.put o.dst v') w') : if Region.wanted o (yielded ops a.tmps) = true then Oper.wp P o a w K Q else E := by
  have hw : Region.wanted o (yielded ops a.tmps) = true := by simp [Region.wanted, hg]
  rw [if_pos hw]
  unfold Oper.wp execOp
  simp only [hop, resolve, invoke, builtin, Sem.run_bind, Sem.run_pure, Result.andThen_ok, List.map_toArray, List.map_cons, List.map_nil, hs, hx, hrun]
  exact hK
def zPP : PP := ⟨⟨#[]⟩, ⟨#[]⟩⟩
def zPL : PL := ⟨0, 0, ⟨0, false, ⟨#[]⟩⟩⟩
theorem info_pair3 : (Try.prog.info? 67).map (fun i => (i.zero, i.size, i.bytes)) = some (some (.agg #[.string ⟨#[]⟩, .string ⟨#[]⟩]), 2, 32) := by kernel_rfl
theorem info_last3 : (Try.prog.info? 88).map (fun i => (i.zero, i.size, i.bytes)) = some (some (.agg #[.int .i64 0, .int .i64 0, .int .u8 0, .bool false, .string ⟨#[]⟩]), 5, 40) := by kernel_rfl
set_option maxHeartbeats 8000000 in
set_option maxRecDepth 100000 in
/-- list of pair -/
theorem r_list_pair (R b o pb : Nat) (st : RS) (w : World) (h : Rdr 151 w R st) (hc : CellOf w R b o 1) (h0 : w.cell? ⟨b, o, none⟩ = some (.slice none 0 0)) (hbx : BoxR w pb R) (hpb : pb ≠ b) :
    Calls Try.prog 88 #[.iface 77 (.agg #[.pointer (some ⟨R, 0, none⟩)]), .pointer (some ⟨b, o, none⟩), .func (.func 89) #[] #[.pointer (some ⟨pb, 0, none⟩)]] w fun e w' => e = .returned (.tuple #[]) ∧ ∃ A c, LiAt pairR 67 w w' R b o (rList rPP st).2 A c (rList rPP st).1 := by
  have hRb := hc.lt
  have hbw : b < w.heap.size := by obtain ⟨cs, T, h1, -⟩ := hc.ex; exact lt_of_heap h1
  have cM := r_many R b 0 st w.drew (h.grow (Below.refl _ _).drew) hRb
  have hm := metr_many
  have hv := nilr_many
  have HBX := Lib.hid (And.intro hbx (And.intro hpb (hbx.ne h)))
  have H := Lib.hid (And.intro hc (And.intro h0 (And.intro hRb hbw)))
  have hrl := rL_range st
  obtain ⟨m, hm'⟩ : ∃ m : Nat, (rL st).1 = (m : Int) := ⟨(rL st).1.toNat, by omega⟩
  obtain ⟨s1, hs1⟩ : ∃ s, s = (rL st).2 := ⟨_, rfl⟩
  have HE : Hid (rList rPP st = rMany rPP m s1) := Lib.hid (by unfold rList; rw [hm', hs1]; rfl)
  have hm31 : m ≤ 2147483647 := by omega
  rw [hm', ← hs1] at cM
  clear h hc hbx hpb hRb hbw hrl hm' hs1
  go_enter Try.func88, Try.ntmps88
  go_wp2_with fail
  apply cut_goal
  case h =>
    intro key
    go_region_with (go_at_call 162; refine cM.mono ?_; rintro e w1 ⟨rfl, hr⟩)
    all_goals (revert hr; revert w1; exact key)
  intro w1 hr
  have hS1 : SetTo w w1 b R o [] := (SetTo.of_below (w' := w.drew) (Below.refl _ _).drew b R o).pre (hr.set.nil_any o)
  have H0 : Hid (Far rPP m s1 0 [] s1 ∧ LiAt pairR 67 w w1 R b o s1 none 0 []) := Lib.hid ⟨Far.start _ _ _, ⟨⟨hr.rd, hS1.keep H.out.2.1⟩, Rec.Own.none _ _ _ _⟩⟩
  clear cM hm hv hr hS1 h0
  have hm := metr_stopped
  have hv := nilr_stopped
  go_wp2_with fail
  go_loopw [7, 8] (fun s7 _ wr => ∃ (i : Nat) (L : List PP) (A : Option Addr) (c : Nat) (s : RS), s7 = .int .i64 (i : Int) ∧ i ≤ m ∧ Hid (Far rPP m s1 i L s ∧ LiAt pairR 67 w wr R b o s A c L)) (fun s7 _ _ => m - (intOf s7).toNat)
  case atStart => exact ⟨0, [], none, 0, s1, rfl, Nat.zero_le _, H0⟩
  case round =>
    clear H0
    obtain ⟨i, L, A, c, s, rfl, hi, hR⟩ := hrel
    obtain ⟨wz, hwz⟩ : ∃ wz : World, wz = wr := ⟨_, rfl⟩
    subst hwz
    by_cases hil : i < m
    · have a1 : (i : Int) < (m : Int) := by omega
      have a0 : (0 : Int) ≤ (i : Int) := by omega
      have cS := r_stopped R s wz hR.out.2.sto.rd
      cases hs : s.isSome with
      | false =>
        rw [hs] at cS
        have HF : Hid (∀ W, Below wz.heap.size wz W → ∃ A c, LiAt pairR 67 w W R b o (rList rPP st).2 A c (rList rPP st).1) := Lib.hid fun W hW => by
          rw [HE.out, hR.out.1.stop (.inr hs)]
          exact ⟨A, c, hR.out.2.sto.below hW, hR.out.2.own.below hW⟩
        clear hR hs
        go_wp2_with fail
        refine cS.mono ?_
        rintro e w2 ⟨rfl, hb2⟩
        have HG := Lib.hid (HF.out w2 hb2)
        clear cS hb2 HF
        go_wp2_with fail
        go_end0
        exact ⟨rfl, HG.out⟩
      | true =>
        rw [hs] at cS
        have HFar := Lib.hid (hR.out.1.step hil hs)
        have hLi : L.length = i := hR.out.1.1
        have HL2 := Lib.hid hR.out.2
        have HLi := Lib.hid hLi
        clear hR hs
        go_wp2_with fail
        refine cS.mono ?_
        rintro e w2 ⟨rfl, hb2⟩
        clear cS
        have hS2 := HL2.out.sto.below hb2
        have hO2 := HL2.out.own.below hb2
        have hrd2 := (hS2.set.read H.out.1).1
        rw [hLi] at hrd2
        have hws : w.heap.size ≤ w2.heap.size := hS2.set.size
        obtain ⟨x5, hx5⟩ : ∃ x, x = w2.alloc (.cells #[.string ⟨#[]⟩, .string ⟨#[]⟩] 67) := ⟨_, rfl⟩
        have hb5 : Below w2.heap.size w2 x5 := by rw [hx5]; exact (Below.refl _ _).alloc (Nat.le_refl _) _
        obtain ⟨p5, hp5⟩ : ∃ p, p = w2.heap.size := ⟨_, rfl⟩
        have hg5 : x5.heap[p5]? = some (.cells #[.string ⟨#[]⟩, .string ⟨#[]⟩] 67 (0, 0)) := by rw [hx5, hp5]; exact heap_alloc_new w2 _
        have hb5d : Below w2.heap.size w2 x5.drew := hb5.drew
        have hS5 := hS2.below hb5d
        have hO5 := hO2.below hb5d
        obtain ⟨A7, c7, w7, hap, ho7, hb7, -⟩ := push_rec (Q := pairR) (T := 67) (t := 33) (zv := .agg #[.string ⟨#[]⟩, .string ⟨#[]⟩]) (bytes := 32) Try.underlying33 info_pair3 rfl (by decide) (by decide) hO5 zPP (by omega) (Nat.le_trans hws hb5d.size)
        obtain ⟨y5, hy5⟩ : ∃ y, y = x5.alloc (.cells #[.string ⟨#[]⟩, .string ⟨#[]⟩] 67) := ⟨_, rfl⟩
        have hby : Below x5.heap.size x5 y5 := by rw [hy5]; exact (Below.refl _ _).alloc (Nat.le_refl _) _
        have hgy : y5.heap[p5]? = some (.cells #[.string ⟨#[]⟩, .string ⟨#[]⟩] 67 (0, 0)) := (hby.block p5 (lt_of_heap hg5)).trans hg5
        have hrdy : y5.cell? ⟨b, o, none⟩ = some (.slice A i c) := (hby.cell (p := ⟨b, o, none⟩) (Nat.lt_of_lt_of_le H.out.2.2.2 (Nat.le_trans hws hb5.size))).trans ((hb5.cell (p := ⟨b, o, none⟩) (Nat.lt_of_lt_of_le H.out.2.2.2 hws)).trans hrd2)
        have hrd5 : x5.cell? ⟨b, o, none⟩ = some (.slice A i c) := (hb5.cell (p := ⟨b, o, none⟩) (Nat.lt_of_lt_of_le H.out.2.2.2 hws)).trans hrd2
        rw [hy5] at hgy hrdy
        have e50 := (blk_cells hg5).1 0
        have f50 := (blk_cells hgy).1 0
        have e51 := (blk_cells hg5).1 1
        have f51 := (blk_cells hgy).1 1
        have hS7 := hS5.set.far hb7 H.out.2.2.2
        obtain ⟨hrd7, hfz7, cs7, T7, hk7, hsz7⟩ := hS7.read H.out.1
        have hr7 : Rdr 151 w7 R s := hS5.rd.keepB (Joins.below_le hb7 (by have := H.out.2.2.1; have := H.out.2.2.2; omega))
        rw [hLi] at hap ho7
        have hap' : (Builtin.append_ #[33, 33] 33 #[.slice A i c, .slice (some ⟨x5.heap.size, 0, none⟩) 1 1]).run Try.prog ((x5.alloc (.cells #[.string ⟨#[]⟩, .string ⟨#[]⟩] 67)).drew) = .ok (.slice A7 (i + 1) c7) w7 := hap
        obtain ⟨w8, hw8⟩ : ∃ w8, w8 = w7.setCell ⟨b, o, none⟩ (.slice A7 (i + 1) c7) := ⟨_, rfl⟩
        have hS8 : SetTo w w8 b R o [.slice A7 (i + 1) c7] := by rw [hw8]; exact hS7.again hk7 _
        have hrd8 := (hS8.read H.out.1).1
        have hr8 : Rdr 151 w8 R s := by rw [hw8]; exact hr7.setB H.out.2.2.1 _
        have ho8 : pairR.Own w8 w.heap.size 67 (.slice A7 (i + 1) c7) (L ++ [zPP]) := by
          rw [hw8]
          exact row_same ho7 fun n hn => Below.heap_setCell w7 ⟨b, o, none⟩ _ n (show n ≠ b by have := (ho7.lt n hn).1; have := H.out.2.2.2; omega)
        obtain ⟨g, hA7, hgB, hgl, csg, hkg, hsg⟩ := own_head ho8 (by simp)
        subst hA7
        have hRg : R < g := by have := H.out.2.2.1; have := H.out.2.2.2; omega
        have hB8 : BoxR w8 pb R := HBX.out.1.set hS8 HBX.out.2.1 HBX.out.2.2
        have hpg : pb ≠ g := by have := lt_of_heap HBX.out.1; omega
        have cN := r_msg2 R g (i * 2) pb s w8 hr8 ⟨hRg, csg, _, hkg, by rw [List.length_append, hLi, show ([zPP] : List PP).length = 1 from rfl, show pairR.size = 2 from rfl] at hsg; omega⟩ hB8 hpg
        have HAP := Lib.hid hap'
        have HX5 := Lib.hid hx5
        have HP5 := Lib.hid hp5
        have HW8 := Lib.hid hw8
        have HN : Hid (∀ W, RdTo w8 W R g (i * 2) (rPP s).2 (pairR.vals (rPP s).1) → LiAt pairR 67 w W R b o (rPP s).2 (some ⟨g, 0, none⟩) c7 (L ++ [(rPP s).1])) := Lib.hid fun W hW => by
          have hlen : (L ++ [(rPP s).1]).length = i + 1 := by rw [List.length_append, hLi]; rfl
          refine ⟨⟨hW.rd, ?_⟩, ?_⟩
          · rw [hlen]
            exact hS8.beside hW.set hgB H.out.2.2.2 (by have := H.out.2.2.1; omega)
          · rw [hlen]
            refine fill_own (R := R) ho8 ?_
            rw [hLi]
            have e : i * pairR.size = i * 2 := rfl
            rw [e]
            exact hW.set
        have b1 : (i : Int) < ((i + 1 : Nat) : Int) := by omega
        have b2 : (i : Int) < (i : Int) + 1 := by omega
        obtain ⟨s2, hs2⟩ : ∃ s2, s2 = (rPP s).2 := ⟨_, rfl⟩
        obtain ⟨n2, hn2⟩ : ∃ n2, n2 = (rPP s).1 := ⟨_, rfl⟩
        rw [← hs2, ← hn2] at cN HN HFar
        clear hs2 hn2 hap hap' hx5 hp5 hg5 hb5 hb5d hS5 hO5 hby hgy hy5 hB8 hpg hw8 hS2 hO2 hb2 hws ho7 hb7 hS7 hk7 hsz7 hr7 hS8 hr8 ho8 hgB hgl hkg hsg hRg HL2 hLi
        go_upto_region 6 with fail
        rw [← HX5.out, ← HP5.out]
        apply cut_goal
        case h =>
          intro key
          go_region_law (refine step_app rfl (.tmp 37) (.tmp 39) 33 rfl (.slice A i c) (.slice (some ⟨x5.heap.size, 0, none⟩) 1 1) rfl rfl (by with_reducible exact HAP.out) ?_)
          all_goals exact key
        rw [← HW8.out]
        clear HAP HW8 HX5 HP5 hrd5 hrdy e50 f50 e51 f51
        go_wp2_with fail
        refine cN.mono ?_
        intro e w9 hz
        obtain ⟨rfl, hr9⟩ := hz.out
        have HX := Lib.hid (HN.out w9 hr9)
        clear cN hr9 HN hz
        go_wp2_with fail
        exact ⟨⟨i + 1, _, _, _, _, by go_num, by omega, Lib.hid ⟨HFar.out, HX.out⟩⟩, by simp [intOf]; omega⟩
    · have a1 : ¬ (i : Int) < (m : Int) := by omega
      have HG : Hid (∃ A c, LiAt pairR 67 w wz R b o (rList rPP st).2 A c (rList rPP st).1) := Lib.hid (by
        rw [HE.out, hR.out.1.stop (.inl (by omega))]
        exact ⟨A, c, hR.out.2⟩)
      clear hR
      go_wp2_with fail
      go_end0
      exact ⟨rfl, HG.out⟩
set_option maxHeartbeats 8000000 in
set_option maxRecDepth 100000 in
/-- list of last -/
theorem r_list_last (R b o pb : Nat) (st : RS) (w : World) (h : Rdr 151 w R st) (hc : CellOf w R b o 1) (h0 : w.cell? ⟨b, o, none⟩ = some (.slice none 0 0)) (hbx : BoxR w pb R) (hpb : pb ≠ b) :
    Calls Try.prog 91 #[.iface 77 (.agg #[.pointer (some ⟨R, 0, none⟩)]), .pointer (some ⟨b, o, none⟩), .func (.func 92) #[] #[.pointer (some ⟨pb, 0, none⟩)]] w fun e w' => e = .returned (.tuple #[]) ∧ ∃ A c, LiAt lastR 88 w w' R b o (rList rPL st).2 A c (rList rPL st).1 := by
  have hRb := hc.lt
  have hbw : b < w.heap.size := by obtain ⟨cs, T, h1, -⟩ := hc.ex; exact lt_of_heap h1
  have cM := r_many R b 0 st w.drew (h.grow (Below.refl _ _).drew) hRb
  have hm := metr_many
  have hv := nilr_many
  have HBX := Lib.hid (And.intro hbx (And.intro hpb (hbx.ne h)))
  have H := Lib.hid (And.intro hc (And.intro h0 (And.intro hRb hbw)))
  have hrl := rL_range st
  obtain ⟨m, hm'⟩ : ∃ m : Nat, (rL st).1 = (m : Int) := ⟨(rL st).1.toNat, by omega⟩
  obtain ⟨s1, hs1⟩ : ∃ s, s = (rL st).2 := ⟨_, rfl⟩
  have HE : Hid (rList rPL st = rMany rPL m s1) := Lib.hid (by unfold rList; rw [hm', hs1]; rfl)
  have hm31 : m ≤ 2147483647 := by omega
  rw [hm', ← hs1] at cM
  clear h hc hbx hpb hRb hbw hrl hm' hs1
  go_enter Try.func91, Try.ntmps91
  go_wp2_with fail
  apply cut_goal
  case h =>
    intro key
    go_region_with (go_at_call 162; refine cM.mono ?_; rintro e w1 ⟨rfl, hr⟩)
    all_goals (revert hr; revert w1; exact key)
  intro w1 hr
  have hS1 : SetTo w w1 b R o [] := (SetTo.of_below (w' := w.drew) (Below.refl _ _).drew b R o).pre (hr.set.nil_any o)
  have H0 : Hid (Far rPL m s1 0 [] s1 ∧ LiAt lastR 88 w w1 R b o s1 none 0 []) := Lib.hid ⟨Far.start _ _ _, ⟨⟨hr.rd, hS1.keep H.out.2.1⟩, Rec.Own.none _ _ _ _⟩⟩
  clear cM hm hv hr hS1 h0
  have hm := metr_stopped
  have hv := nilr_stopped
  go_wp2_with fail
  go_loopw [7, 8] (fun s7 _ wr => ∃ (i : Nat) (L : List PL) (A : Option Addr) (c : Nat) (s : RS), s7 = .int .i64 (i : Int) ∧ i ≤ m ∧ Hid (Far rPL m s1 i L s ∧ LiAt lastR 88 w wr R b o s A c L)) (fun s7 _ _ => m - (intOf s7).toNat)
  case atStart => exact ⟨0, [], none, 0, s1, rfl, Nat.zero_le _, H0⟩
  case round =>
    clear H0
    obtain ⟨i, L, A, c, s, rfl, hi, hR⟩ := hrel
    obtain ⟨wz, hwz⟩ : ∃ wz : World, wz = wr := ⟨_, rfl⟩
    subst hwz
    by_cases hil : i < m
    · have a1 : (i : Int) < (m : Int) := by omega
      have a0 : (0 : Int) ≤ (i : Int) := by omega
      have cS := r_stopped R s wz hR.out.2.sto.rd
      cases hs : s.isSome with
      | false =>
        rw [hs] at cS
        have HF : Hid (∀ W, Below wz.heap.size wz W → ∃ A c, LiAt lastR 88 w W R b o (rList rPL st).2 A c (rList rPL st).1) := Lib.hid fun W hW => by
          rw [HE.out, hR.out.1.stop (.inr hs)]
          exact ⟨A, c, hR.out.2.sto.below hW, hR.out.2.own.below hW⟩
        clear hR hs
        go_wp2_with fail
        refine cS.mono ?_
        rintro e w2 ⟨rfl, hb2⟩
        have HG := Lib.hid (HF.out w2 hb2)
        clear cS hb2 HF
        go_wp2_with fail
        go_end0
        exact ⟨rfl, HG.out⟩
      | true =>
        rw [hs] at cS
        have HFar := Lib.hid (hR.out.1.step hil hs)
        have hLi : L.length = i := hR.out.1.1
        have HL2 := Lib.hid hR.out.2
        have HLi := Lib.hid hLi
        clear hR hs
        go_wp2_with fail
        refine cS.mono ?_
        rintro e w2 ⟨rfl, hb2⟩
        clear cS
        have hS2 := HL2.out.sto.below hb2
        have hO2 := HL2.out.own.below hb2
        have hrd2 := (hS2.set.read H.out.1).1
        rw [hLi] at hrd2
        have hws : w.heap.size ≤ w2.heap.size := hS2.set.size
        obtain ⟨x5, hx5⟩ : ∃ x, x = w2.alloc (.cells #[.int .i64 0, .int .i64 0, .int .u8 0, .bool false, .string ⟨#[]⟩] 88) := ⟨_, rfl⟩
        have hb5 : Below w2.heap.size w2 x5 := by rw [hx5]; exact (Below.refl _ _).alloc (Nat.le_refl _) _
        obtain ⟨p5, hp5⟩ : ∃ p, p = w2.heap.size := ⟨_, rfl⟩
        have hg5 : x5.heap[p5]? = some (.cells #[.int .i64 0, .int .i64 0, .int .u8 0, .bool false, .string ⟨#[]⟩] 88 (0, 0)) := by rw [hx5, hp5]; exact heap_alloc_new w2 _
        have hb5d : Below w2.heap.size w2 x5.drew := hb5.drew
        have hS5 := hS2.below hb5d
        have hO5 := hO2.below hb5d
        obtain ⟨A7, c7, w7, hap, ho7, hb7, -⟩ := push_rec (Q := lastR) (T := 88) (t := 34) (zv := .agg #[.int .i64 0, .int .i64 0, .int .u8 0, .bool false, .string ⟨#[]⟩]) (bytes := 40) Try.underlying34 info_last3 rfl (by decide) (by decide) hO5 zPL (by omega) (Nat.le_trans hws hb5d.size)
        obtain ⟨y5, hy5⟩ : ∃ y, y = x5.alloc (.cells #[.int .i64 0, .int .i64 0, .int .u8 0, .bool false, .string ⟨#[]⟩] 88) := ⟨_, rfl⟩
        have hby : Below x5.heap.size x5 y5 := by rw [hy5]; exact (Below.refl _ _).alloc (Nat.le_refl _) _
        have hgy : y5.heap[p5]? = some (.cells #[.int .i64 0, .int .i64 0, .int .u8 0, .bool false, .string ⟨#[]⟩] 88 (0, 0)) := (hby.block p5 (lt_of_heap hg5)).trans hg5
        have hrdy : y5.cell? ⟨b, o, none⟩ = some (.slice A i c) := (hby.cell (p := ⟨b, o, none⟩) (Nat.lt_of_lt_of_le H.out.2.2.2 (Nat.le_trans hws hb5.size))).trans ((hb5.cell (p := ⟨b, o, none⟩) (Nat.lt_of_lt_of_le H.out.2.2.2 hws)).trans hrd2)
        have hrd5 : x5.cell? ⟨b, o, none⟩ = some (.slice A i c) := (hb5.cell (p := ⟨b, o, none⟩) (Nat.lt_of_lt_of_le H.out.2.2.2 hws)).trans hrd2
        rw [hy5] at hgy hrdy
        have e50 := (blk_cells hg5).1 0
        have f50 := (blk_cells hgy).1 0
        have e51 := (blk_cells hg5).1 1
        have f51 := (blk_cells hgy).1 1
        have e52 := (blk_cells hg5).1 2
        have f52 := (blk_cells hgy).1 2
        have e53 := (blk_cells hg5).1 3
        have f53 := (blk_cells hgy).1 3
        have e54 := (blk_cells hg5).1 4
        have f54 := (blk_cells hgy).1 4
        have hS7 := hS5.set.far hb7 H.out.2.2.2
        obtain ⟨hrd7, hfz7, cs7, T7, hk7, hsz7⟩ := hS7.read H.out.1
        have hr7 : Rdr 151 w7 R s := hS5.rd.keepB (Joins.below_le hb7 (by have := H.out.2.2.1; have := H.out.2.2.2; omega))
        rw [hLi] at hap ho7
        have hap' : (Builtin.append_ #[34, 34] 34 #[.slice A i c, .slice (some ⟨x5.heap.size, 0, none⟩) 1 1]).run Try.prog ((x5.alloc (.cells #[.int .i64 0, .int .i64 0, .int .u8 0, .bool false, .string ⟨#[]⟩] 88)).drew) = .ok (.slice A7 (i + 1) c7) w7 := hap
        obtain ⟨w8, hw8⟩ : ∃ w8, w8 = w7.setCell ⟨b, o, none⟩ (.slice A7 (i + 1) c7) := ⟨_, rfl⟩
        have hS8 : SetTo w w8 b R o [.slice A7 (i + 1) c7] := by rw [hw8]; exact hS7.again hk7 _
        have hrd8 := (hS8.read H.out.1).1
        have hr8 : Rdr 151 w8 R s := by rw [hw8]; exact hr7.setB H.out.2.2.1 _
        have ho8 : lastR.Own w8 w.heap.size 88 (.slice A7 (i + 1) c7) (L ++ [zPL]) := by
          rw [hw8]
          exact row_same ho7 fun n hn => Below.heap_setCell w7 ⟨b, o, none⟩ _ n (show n ≠ b by have := (ho7.lt n hn).1; have := H.out.2.2.2; omega)
        obtain ⟨g, hA7, hgB, hgl, csg, hkg, hsg⟩ := own_head ho8 (by simp)
        subst hA7
        have hRg : R < g := by have := H.out.2.2.1; have := H.out.2.2.2; omega
        have hB8 : BoxR w8 pb R := HBX.out.1.set hS8 HBX.out.2.1 HBX.out.2.2
        have hpg : pb ≠ g := by have := lt_of_heap HBX.out.1; omega
        have cN := r_msg3 R g (i * 5) pb s w8 hr8 ⟨hRg, csg, _, hkg, by rw [List.length_append, hLi, show ([zPL] : List PL).length = 1 from rfl, show lastR.size = 5 from rfl] at hsg; omega⟩ hB8 hpg
        have HAP := Lib.hid hap'
        have HX5 := Lib.hid hx5
        have HP5 := Lib.hid hp5
        have HW8 := Lib.hid hw8
        have HN : Hid (∀ W, RdTo w8 W R g (i * 5) (rPL s).2 (lastR.vals (rPL s).1) → LiAt lastR 88 w W R b o (rPL s).2 (some ⟨g, 0, none⟩) c7 (L ++ [(rPL s).1])) := Lib.hid fun W hW => by
          have hlen : (L ++ [(rPL s).1]).length = i + 1 := by rw [List.length_append, hLi]; rfl
          refine ⟨⟨hW.rd, ?_⟩, ?_⟩
          · rw [hlen]
            exact hS8.beside hW.set hgB H.out.2.2.2 (by have := H.out.2.2.1; omega)
          · rw [hlen]
            refine fill_own (R := R) ho8 ?_
            rw [hLi]
            have e : i * lastR.size = i * 5 := rfl
            rw [e]
            exact hW.set
        have b1 : (i : Int) < ((i + 1 : Nat) : Int) := by omega
        have b2 : (i : Int) < (i : Int) + 1 := by omega
        obtain ⟨s2, hs2⟩ : ∃ s2, s2 = (rPL s).2 := ⟨_, rfl⟩
        obtain ⟨n2, hn2⟩ : ∃ n2, n2 = (rPL s).1 := ⟨_, rfl⟩
        rw [← hs2, ← hn2] at cN HN HFar
        clear hs2 hn2 hap hap' hx5 hp5 hg5 hb5 hb5d hS5 hO5 hby hgy hy5 hB8 hpg hw8 hS2 hO2 hb2 hws ho7 hb7 hS7 hk7 hsz7 hr7 hS8 hr8 ho8 hgB hgl hkg hsg hRg HL2 hLi
        go_upto_region 6 with fail
        rw [← HX5.out, ← HP5.out]
        apply cut_goal
        case h =>
          intro key
          go_region_law (refine step_app rfl (.tmp 37) (.tmp 39) 34 rfl (.slice A i c) (.slice (some ⟨x5.heap.size, 0, none⟩) 1 1) rfl rfl (by with_reducible exact HAP.out) ?_)
          all_goals exact key
        rw [← HW8.out]
        clear HAP HW8 HX5 HP5 hrd5 hrdy e50 f50 e51 f51 e52 f52 e53 f53 e54 f54
        go_wp2_with fail
        refine cN.mono ?_
        intro e w9 hz
        obtain ⟨rfl, hr9⟩ := hz.out
        have HX := Lib.hid (HN.out w9 hr9)
        clear cN hr9 HN hz
        go_wp2_with fail
        exact ⟨⟨i + 1, _, _, _, _, by go_num, by omega, Lib.hid ⟨HFar.out, HX.out⟩⟩, by simp [intOf]; omega⟩
    · have a1 : ¬ (i : Int) < (m : Int) := by omega
      have HG : Hid (∃ A c, LiAt lastR 88 w wz R b o (rList rPL st).2 A c (rList rPL st).1) := Lib.hid (by
        rw [HE.out, hR.out.1.stop (.inl (by omega))]
        exact ⟨A, c, hR.out.2⟩)
      clear hR
      go_wp2_with fail
      go_end0
      exact ⟨rfl, HG.out⟩
end Go.Proofs.Ytblbcoknefgcaaa
