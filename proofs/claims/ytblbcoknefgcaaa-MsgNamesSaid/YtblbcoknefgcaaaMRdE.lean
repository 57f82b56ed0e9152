/-
  A list of entries, read. No statement is proved here. No condition.
-/
import Derived.Test.YtblbcoknefgcaaaMRdP
namespace Go.Proofs.Ytblbcoknefgcaaa
open Go.RowKit

def zRE : RE := ⟨0, 0, ⟨#[]⟩, none, 0, 0⟩
theorem info_entry3 : (Try.prog.info? 79).map (fun i => (i.zero, i.size, i.bytes)) = some (some (.agg #[.int .i64 0, .int .u8 0, .string ⟨#[]⟩, .slice none 0 0]), 4, 56) := by kernel_rfl
/-- a list of entries while it is read -/
structure LiEn (w wr : World) (R b o : Nat) (st : RS) (A : Option Addr) (c : Nat) (rs : List RE) (L : List EN) : Prop where
  sto : RdTo w wr R b o st [.slice A L.length c]
  ent : EntO wr w.heap.size (.slice A L.length c) rs L
theorem ent_keep {w w' : World} {B : Nat} {rs : List RE} {L : List EN} (h : ∀ (i : Nat) (r : RE) (e : EN), rs[i]? = some r → L[i]? = some e → EntIs r e ∧ inR.Own w B 3 r.lv e.list)
    (hb : ∀ (n : Nat) (cur : Array Value), B ≤ n → n < w.heap.size → w.heap[n]? = some (.cells cur 3 (0, 0)) → w'.heap[n]? = w.heap[n]?) : ∀ (i : Nat) (r : RE) (e : EN), rs[i]? = some r → L[i]? = some e → EntIs r e ∧ inR.Own w' B 3 r.lv e.list := fun i r e hr he => by
  obtain ⟨h1, h2⟩ := h i r e hr he
  refine ⟨h1, row_same h2 fun n hn => ?_⟩
  obtain ⟨cur, hc⟩ := row_type h2 hn
  exact hb n cur (h2.lt n hn).1 (h2.lt n hn).2 hc
set_option maxHeartbeats 8000000 in
set_option maxRecDepth 100000 in
/-- list of entries -/
theorem r_list_entry (R b o pb : Nat) (st : RS) (w : World) (h : Rdr 151 w R st) (hc : CellOf w R b o 1) (h0 : w.cell? ⟨b, o, none⟩ = some (.slice none 0 0)) (hbx : BoxR w pb R) (hpb : pb ≠ b) :
    Calls Try.prog 84 #[.iface 77 (.agg #[.pointer (some ⟨R, 0, none⟩)]), .pointer (some ⟨b, o, none⟩), .func (.func 85) #[] #[.pointer (some ⟨pb, 0, none⟩)]] w fun e w' => e = .returned (.tuple #[]) ∧ ∃ A c rs, LiEn w w' R b o (rList rEN st).2 A c rs (rList rEN st).1 := by
  have hRb := hc.lt
  have hbw : b < w.heap.size := by obtain ⟨cs, T, h1, -⟩ := hc.ex; exact lt_of_heap h1
  have cM := r_many R b 0 st w.drew (h.grow (Below.refl _ _).drew) hRb
  have hm := metr_many
  have hv := nilr_many
  have HBX := Lib.hid (And.intro hbx (And.intro hpb (hbx.ne h)))
  have H := Lib.hid (And.intro hc (And.intro h0 (And.intro hRb hbw)))
  have hrl := rL_range st
  obtain ⟨m, hm'⟩ : ∃ m : Nat, (rL st).1 = (m : Int) := ⟨(rL st).1.toNat, by omega⟩
  obtain ⟨s1, hs1⟩ : ∃ s, s = (rL st).2 := ⟨_, rfl⟩
  have HE : Hid (rList rEN st = rMany rEN m s1) := Lib.hid (by unfold rList; rw [hm', hs1]; rfl)
  have hm31 : m ≤ 2147483647 := by omega
  rw [hm', ← hs1] at cM
  clear h hc hbx hpb hRb hbw hrl hm' hs1
  go_enter Try.func84, Try.ntmps84
  go_wp2_with fail
  apply cut_goal
  case h =>
    intro key
    go_region_with (go_at_call 162; refine cM.mono ?_; rintro e w1 ⟨rfl, hr⟩)
    all_goals (revert hr; revert w1; exact key)
  intro w1 hr
  have hS1 : SetTo w w1 b R o [] := (SetTo.of_below (w' := w.drew) (Below.refl _ _).drew b R o).pre (hr.set.nil_any o)
  have H0 : Hid (Far rEN m s1 0 [] s1 ∧ LiEn w w1 R b o s1 none 0 [] []) := Lib.hid ⟨Far.start _ _ _, ⟨⟨hr.rd, hS1.keep H.out.2.1⟩, ⟨Rec.Own.none _ _ _ _, rfl, fun i r e h => by simp at h⟩⟩⟩
  clear cM hm hv hr hS1 h0
  have hm := metr_stopped
  have hv := nilr_stopped
  go_wp2_with fail
  go_loopw [7, 8] (fun s7 _ wr => ∃ (i : Nat) (L : List EN) (rs : List RE) (A : Option Addr) (c : Nat) (s : RS), s7 = .int .i64 (i : Int) ∧ i ≤ m ∧ Hid (Far rEN m s1 i L s ∧ LiEn w wr R b o s A c rs L)) (fun s7 _ _ => m - (intOf s7).toNat)
  case atStart => exact ⟨0, [], [], none, 0, s1, rfl, Nat.zero_le _, H0⟩
  case round =>
    clear H0
    obtain ⟨i, L, rs, A, c, s, rfl, hi, hR⟩ := hrel
    obtain ⟨wz, hwz⟩ : ∃ wz : World, wz = wr := ⟨_, rfl⟩
    subst hwz
    by_cases hil : i < m
    · have a1 : (i : Int) < (m : Int) := by omega
      have a0 : (0 : Int) ≤ (i : Int) := by omega
      have cS := r_stopped R s wz hR.out.2.sto.rd
      cases hs : s.isSome with
      | false =>
        rw [hs] at cS
        have HF : Hid (∀ W, Below wz.heap.size wz W → ∃ A c rs, LiEn w W R b o (rList rEN st).2 A c rs (rList rEN st).1) := Lib.hid fun W hW => by
          rw [HE.out, hR.out.1.stop (.inr hs)]
          exact ⟨A, c, rs, hR.out.2.sto.below hW, hR.out.2.ent.below hW⟩
        clear hR hs
        go_wp2_with fail
        refine cS.mono ?_
        rintro e w2 ⟨rfl, hb2⟩
        have HG := Lib.hid (HF.out w2 hb2)
        clear cS hb2 HF
        go_wp2_with fail
        go_end0
        exact ⟨rfl, HG.out⟩
      | true =>
        rw [hs] at cS
        have HFar := Lib.hid (hR.out.1.step hil hs)
        have hLi : L.length = i := hR.out.1.1
        have HL2 := Lib.hid hR.out.2
        have HLi := Lib.hid hLi
        clear hR hs
        go_wp2_with fail
        refine cS.mono ?_
        rintro e w2 ⟨rfl, hb2⟩
        clear cS
        have hS2 := HL2.out.sto.below hb2
        have hE2 := HL2.out.ent.below hb2
        have hrl : rs.length = i := HL2.out.ent.len.trans hLi
        have hO2 : entR.Own w2 w.heap.size 79 (.slice A rs.length c) rs := by have := hE2.row; rw [hLi, ← hrl] at this; exact this
        have hrd2 := (hS2.set.read H.out.1).1
        rw [hLi] at hrd2
        have hws : w.heap.size ≤ w2.heap.size := hS2.set.size
        obtain ⟨x5, hx5⟩ : ∃ x, x = w2.alloc (.cells #[.int .i64 0, .int .u8 0, .string ⟨#[]⟩, .slice none 0 0] 79) := ⟨_, rfl⟩
        have hb5 : Below w2.heap.size w2 x5 := by rw [hx5]; exact (Below.refl _ _).alloc (Nat.le_refl _) _
        obtain ⟨p5, hp5⟩ : ∃ p, p = w2.heap.size := ⟨_, rfl⟩
        have hg5 : x5.heap[p5]? = some (.cells #[.int .i64 0, .int .u8 0, .string ⟨#[]⟩, .slice none 0 0] 79 (0, 0)) := by rw [hx5, hp5]; exact heap_alloc_new w2 _
        have hb5d : Below w2.heap.size w2 x5.drew := hb5.drew
        have hS5 := hS2.below hb5d
        have hO5 := hO2.below hb5d
        obtain ⟨A7, c7, w7, hap, ho7, hb7, hk7b⟩ := push_rec (Q := entR) (T := 79) (t := 31) (zv := .agg #[.int .i64 0, .int .u8 0, .string ⟨#[]⟩, .slice none 0 0]) (bytes := 56) Try.underlying31 info_entry3 rfl (by decide) (by decide) hO5 zRE (by omega) (Nat.le_trans hws hb5d.size)
        obtain ⟨y5, hy5⟩ : ∃ y, y = x5.alloc (.cells #[.int .i64 0, .int .u8 0, .string ⟨#[]⟩, .slice none 0 0] 79) := ⟨_, rfl⟩
        have hby : Below x5.heap.size x5 y5 := by rw [hy5]; exact (Below.refl _ _).alloc (Nat.le_refl _) _
        have hgy : y5.heap[p5]? = some (.cells #[.int .i64 0, .int .u8 0, .string ⟨#[]⟩, .slice none 0 0] 79 (0, 0)) := (hby.block p5 (lt_of_heap hg5)).trans hg5
        have hrdy : y5.cell? ⟨b, o, none⟩ = some (.slice A i c) := (hby.cell (p := ⟨b, o, none⟩) (Nat.lt_of_lt_of_le H.out.2.2.2 (Nat.le_trans hws hb5.size))).trans ((hb5.cell (p := ⟨b, o, none⟩) (Nat.lt_of_lt_of_le H.out.2.2.2 hws)).trans hrd2)
        have hrd5 : x5.cell? ⟨b, o, none⟩ = some (.slice A i c) := (hb5.cell (p := ⟨b, o, none⟩) (Nat.lt_of_lt_of_le H.out.2.2.2 hws)).trans hrd2
        rw [hy5] at hgy hrdy
        have e50 := (blk_cells hg5).1 0
        have f50 := (blk_cells hgy).1 0
        have e51 := (blk_cells hg5).1 1
        have f51 := (blk_cells hgy).1 1
        have e52 := (blk_cells hg5).1 2
        have f52 := (blk_cells hgy).1 2
        have e53 := (blk_cells hg5).1 3
        have f53 := (blk_cells hgy).1 3
        have hS7 := hS5.set.far hb7 H.out.2.2.2
        obtain ⟨hrd7, hfz7, cs7, T7, hk7, hsz7⟩ := hS7.read H.out.1
        have hr7 : Rdr 151 w7 R s := hS5.rd.keepB (Joins.below_le hb7 (by have := H.out.2.2.1; have := H.out.2.2.2; omega))
        rw [hrl] at hap ho7 hk7b
        have hap' : (Builtin.append_ #[31, 31] 31 #[.slice A i c, .slice (some ⟨x5.heap.size, 0, none⟩) 1 1]).run Try.prog ((x5.alloc (.cells #[.int .i64 0, .int .u8 0, .string ⟨#[]⟩, .slice none 0 0] 79)).drew) = .ok (.slice A7 (i + 1) c7) w7 := hap
        obtain ⟨w8, hw8⟩ : ∃ w8, w8 = w7.setCell ⟨b, o, none⟩ (.slice A7 (i + 1) c7) := ⟨_, rfl⟩
        have hS8 : SetTo w w8 b R o [.slice A7 (i + 1) c7] := by rw [hw8]; exact hS7.again hk7 _
        have hrd8 := (hS8.read H.out.1).1
        have hr8 : Rdr 151 w8 R s := by rw [hw8]; exact hr7.setB H.out.2.2.1 _
        have ho8 : entR.Own w8 w.heap.size 79 (.slice A7 (i + 1) c7) (rs ++ [zRE]) := by
          rw [hw8]
          exact row_same ho7 fun n hn => Below.heap_setCell w7 ⟨b, o, none⟩ _ n (show n ≠ b by have := (ho7.lt n hn).1; have := H.out.2.2.2; omega)
        obtain ⟨g, hA7, hgB, hgl, csg, hkg, hsg⟩ := own_head ho8 (by simp)
        subst hA7
        have hRg : R < g := by have := H.out.2.2.1; have := H.out.2.2.2; omega
        have hB8 : BoxR w8 pb R := HBX.out.1.set hS8 HBX.out.2.1 HBX.out.2.2
        have hpg : pb ≠ g := by have := lt_of_heap HBX.out.1; omega
        have h3 : w8.cell? ⟨g, i * 4 + 3, none⟩ = some (.slice none 0 0) := by
          have hx : (rs ++ [zRE])[i]? = some zRE := by rw [List.getElem?_append_right (by omega), hrl, Nat.sub_self]; rfl
          have ho8' : entR.N w8 Any (.slice (some ⟨g, 0, none⟩) (rs ++ [zRE]).length c7) (rs ++ [zRE]) := by rw [List.length_append, hrl]; exact ho8.n.any
          obtain ⟨g1, o1, n1, k1, hv1, -, -, hc1⟩ := ho8'.cell hx
          injection hv1 with e1
          injection e1 with e1
          injection e1 with e1 e2
          subst e1 e2
          have := hc1 3 _ rfl
          rw [Nat.zero_add] at this
          exact this
        have cN := r_msg1 R g (i * 4) pb s w8 hr8 ⟨hRg, csg, _, hkg, by rw [List.length_append, hrl, show ([zRE] : List RE).length = 1 from rfl, show entR.size = 4 from rfl] at hsg; omega⟩ h3 hB8
        have hin5 := (hE2.below hb5d).ent
        have hin7 := ent_keep (w' := w7) hin5 fun n cur hn1 hn2 hn3 => hk7b n hn2 fun e => by
          obtain ⟨c1, hc1⟩ := row_type hO5 (by rw [hrl]; exact e)
          exact apart_T hn3 hc1 (by decide) rfl
        have hin8 := ent_keep (w' := w8) hin7 fun n cur hn1 hn2 hn3 => by rw [hw8]; exact Below.heap_setCell w7 ⟨b, o, none⟩ _ n (show n ≠ b by have := H.out.2.2.2; omega)
        have HAP := Lib.hid hap'
        have HX5 := Lib.hid hx5
        have HP5 := Lib.hid hp5
        have HW8 := Lib.hid hw8
        have HN : Hid (∀ W, (∃ A c, EnTo w8 W R g (i * 4) (rEN s).2 (rEN s).1 A c) → ∃ rs', LiEn w W R b o (rEN s).2 (some ⟨g, 0, none⟩) c7 rs' (L ++ [(rEN s).1])) := Lib.hid fun W hW => by
          obtain ⟨A3, c3, hW1, hW2⟩ := hW
          have hlen : (L ++ [(rEN s).1]).length = i + 1 := by rw [List.length_append, hLi]; rfl
          refine ⟨rs ++ [⟨(rEN s).1.term, (rEN s).1.kind, (rEN s).1.data, A3, (rEN s).1.list.length, c3⟩], ⟨hW1.rd, ?_⟩, ?_, ?_, ?_⟩
          · rw [hlen]
            exact hS8.beside hW1.set hgB H.out.2.2.2 (by have := H.out.2.2.1; omega)
          · rw [hlen]
            refine fill_own (R := R) ho8 ?_
            rw [hrl]
            have e : i * entR.size = i * 4 := rfl
            rw [e]
            exact hW1.set
          · rw [List.length_append, List.length_append, hrl, hLi]
            rfl
          · intro j r e hr he
            have hinW := ent_keep (w' := W) hin8 fun n cur hn1 hn2 hn3 => hW1.set.block n hn2 (fun e => by subst e; exact apart_T hn3 hkg (by decide) rfl) (by have := H.out.2.2.1; have := H.out.2.2.2; omega)
            by_cases hj : j < i
            · rw [List.getElem?_append_left (by omega)] at hr he
              exact hinW j r e hr he
            · rw [List.getElem?_append_right (by omega)] at hr he
              obtain ⟨q, hq⟩ : ∃ q, q = j - i := ⟨_, rfl⟩
              rw [hrl, ← hq] at hr
              rw [hLi, ← hq] at he
              match q, hr, he with
              | 0, hr, he =>
                simp at hr he
                subst hr he
                exact ⟨⟨rfl, rfl, rfl, rfl⟩, own_base hW2 hS8.size⟩
              | q + 1, hr, he => simp at hr
        have b1 : (i : Int) < ((i + 1 : Nat) : Int) := by omega
        have b2 : (i : Int) < (i : Int) + 1 := by omega
        obtain ⟨s2, hs2⟩ : ∃ s2, s2 = (rEN s).2 := ⟨_, rfl⟩
        obtain ⟨n2, hn2⟩ : ∃ n2, n2 = (rEN s).1 := ⟨_, rfl⟩
        rw [← hs2, ← hn2] at cN HN HFar
        clear hs2 hn2 h3 hin5 hin7 hin8 hk7b hrl hE2 hap hap' hx5 hp5 hg5 hb5 hb5d hS5 hO5 hby hgy hy5 hB8 hpg hw8 hS2 hO2 hb2 hws ho7 hb7 hS7 hk7 hsz7 hr7 hS8 hr8 ho8 hgB hgl hkg hsg hRg HL2 hLi
        go_upto_region 6 with fail
        rw [← HX5.out, ← HP5.out]
        apply cut_goal
        case h =>
          intro key
          go_region_law (refine step_app rfl (.tmp 37) (.tmp 39) 31 rfl (.slice A i c) (.slice (some ⟨x5.heap.size, 0, none⟩) 1 1) rfl rfl (by with_reducible exact HAP.out) ?_)
          all_goals exact key
        rw [← HW8.out]
        clear HAP HW8 HX5 HP5 hrd5 hrdy e50 f50 e51 f51 e52 f52 e53 f53
        go_wp2_with fail
        refine cN.mono ?_
        intro e w9 hz
        obtain ⟨rfl, hr9⟩ := hz.out
        have HX := Lib.hid (HN.out w9 hr9)
        clear cN hr9 HN hz
        go_wp2_with fail
        obtain ⟨rs', HX'⟩ := HX.out
        exact ⟨⟨i + 1, _, rs', _, _, _, by go_num, by omega, Lib.hid ⟨HFar.out, HX'⟩⟩, by simp [intOf]; omega⟩
    · have a1 : ¬ (i : Int) < (m : Int) := by omega
      have HG : Hid (∃ A c rs, LiEn w wz R b o (rList rEN st).2 A c rs (rList rEN st).1) := Lib.hid (by
        rw [HE.out, hR.out.1.stop (.inl (by omega))]
        exact ⟨A, c, rs, hR.out.2⟩)
      clear hR
      go_wp2_with fail
      go_end0
      exact ⟨rfl, HG.out⟩
end Go.Proofs.Ytblbcoknefgcaaa
