/-
  The program's own disk: wait. No statement is proved here. No condition.
-/
import Derived.Test.YtplpfhgdanclhaaPTick
import Derived.Laws.CopyRow
import Derived.Laws.CopyOwn
namespace Go.Proofs.Ytplpfhgdanclhaa
open Go.RowKit Go.Maps

theorem info_Sec : (Try.prog.info? 99).map (fun i => (i.zero, i.size)) = some (some (.agg (sec (List.replicate 512 0))), 512) := by kernel_rfl
theorem sec_zero (w : World) : (zeroValue 99).run Try.prog w = .ok (.agg (sec (List.replicate 512 0))) w := (zero_of_info info_Sec).1 w
theorem sec_info : (Try.prog.info? 99).map (·.size) = some 512 := (zero_of_info info_Sec).2
theorem u8_one : (Try.prog.info? 5).map (·.size) = some 1 := by kernel_rfl

/-- copy(s[:], b) into a new sector -/
theorem run_copy_sec {w : World} {G m cc : Nat} (ty : TypeId) (Z : Array Value) (ad : Addr) (l : List UInt8) (hg : w.heap[G]? = some (.cells Z 99 (0, 0))) (hZ : Z.size = 512) (hl : l.length = 512) (hm : 512 ≤ m)
    (hsrc : ∀ j u, (BS l)[j]? = some u → w.cell? (ad.add j) = some u) :
    (Builtin.copy_ #[39, 39] ty #[.slice (some ⟨G, 0, none⟩) 512 512, .slice (some ad) m cc]).run Try.prog w = .ok (.int .i64 512) (w.setRow G (sec l)) := by
  have h := run_copy_row (P := Try.prog) w 39 39 ty 5 G 0 512 512 ad m cc Z 99 (BS l) Try.underlying39 u8_one hg (by rw [BS_length, hl]; exact (Nat.min_eq_right hm).symm) hsrc (by rw [BS_length]; omega) (BS_one l)
  have e : (Z.toList.take 0 ++ BS l ++ Z.toList.drop (0 + (BS l).length)) = BS l := by
    rw [List.take_zero, List.nil_append, List.drop_eq_nil_of_le (by rw [BS_length, Array.length_toList]; omega), List.append_nil]
  rw [e, BS_length, hl] at h
  exact h

theorem own_map_count {w : World} {m n n' : Nat} {D : DataW Unit} (h : w.ownsMap Try.prog 3 Rp m n D) (e : n = n') : w.ownsMap Try.prog 3 Rp m n' D := e ▸ h
/-- What waits is another row now. -/
theorem PR.waiting {w w2 : World} {G S G' S' : Nat → Prop} {q : Nat} {D : DS} {vl vw vm v' : Value} {st : Bool} {left : Int} {ks : ByteArray} {pl : List (Option Nat)} {pw pw' : List (Nat × Nat)} {ws : List (Nat × List UInt8)} (h : PR w G S q D vl vw vm st left ks pl pw) (hG : ∀ b, G b → G' b) (hS : ∀ b, S b → S' b) (hk : ∀ b, b < w.heap.size → vw.ownBlock ≠ some b → w2.heap[b]? = w.heap[b]?)
    (ho : w2.ownsRow 0 105 2 v' ws.length (PW pw')) (hvG : ∀ b, v'.ownBlock = some b → G' b) (hw : Wts w S' pw' ws) : PR (w2.setCell ⟨q, 1, none⟩ v') G' S' q { D with waits := ws } vl v' vm st left ks pl pw' := by
  have hpw : vw.ownBlock ≠ some q := fun e => row_not h.cells h.waits (by decide) q e rfl
  have hc2 := (hk q h.lt hpw).trans h.cells
  have hl2 : w2.ownsRow 0 95 1 vl D.lasts.length (PS pl) := row_same h.lasts fun b hb => hk b (h.lasts.lt b hb).2 fun e => rows_apart h.waits h.lasts (by decide) e hb rfl
  have hsec : ∀ b, IsSec w b → b < w.heap.size → (w2.setCell ⟨q, 1, none⟩ v').heap[b]? = w.heap[b]? := fun b hi hb => (set_other (by rintro rfl; exact not_sec h.cells (by decide) hi)).trans (hk b hb fun e => row_not_sec h.waits (by decide) e hi)
  refine ⟨hG q h.inG, ?_, h.fz, row_same hl2 fun b hb => set_other (row_not hc2 hl2 (by decide) b hb), fun b hb => hG b (h.lastsG b hb), row_same ho fun b hb => set_other (row_not hc2 ho (by decide) b hb), hvG, h.secs.kept hS fun b _ hi hb => hsec b hi hb, hw.kept (fun _ h => h) fun b _ hi hb => hsec b hi hb⟩
  rw [Joins.block_setCell hc2 _]
  simp

set_option maxHeartbeats 2000000 in
theorem p_wait (G S : Nat → Prop) (q : Nat) (D : DS) (a : Nat) (v : Value) (s : List UInt8) (w : World) (h : PD w G S q D) (hs : s.length = 512) (hv : Rd w w.heap.size v s) (ha : a < D.lasts.length) (hlen : D.waits.length < 1000000) (hll : D.lasts.length ≤ 1000000) :
    Calls Try.prog 46 #[.pointer (some ⟨q, 0, none⟩), .int .i64 (a : Int), v] w fun e w' => e = .returned (.tuple #[]) ∧ Kept w w' (Mut G w) ∧ PD w' (More G w w') (More S w w') q (D.wrote a s) := by
  obtain ⟨vl, vw, m, st, left, ks, pl, pw, h, hm, hM⟩ := h
  obtain ⟨A, c, rfl, h1, h2, h3, h4⟩ := hv
  obtain ⟨b, o, rfl, hbs, hcell⟩ := h4 (by intro e; rw [e] at hs; simp at hs)
  rw [hs] at h1 ⊢
  obtain ⟨i0, hi0, hz0, hz1, hz2⟩ := info_parts info_PW
  have hq := h.lt
  have H := Lib.hid h
  have HM := Lib.hid hM
  have HGM := Lib.hid hm
  have HC := Lib.hid hcell
  have hzero := sec_zero
  have hZs : (sec (List.replicate 512 0)).size = 512 := by rw [sec_size, List.length_replicate]
  obtain ⟨Z, hZ⟩ : ∃ Z, Z = sec (List.replicate 512 0) := ⟨_, rfl⟩
  rw [← hZ] at hZs
  simp only [← hZ] at hzero
  have hnewb := heap_alloc_new w (.cells Z 99)
  have hb1 := Below.alloc (Below.refl w.heap.size w) (Nat.le_refl _) (.cells Z 99)
  clear h hM hm hcell h4 hZ
  go_enter Try.func46, Try.ntmps46
  go_upto_region 1 with fail
  obtain ⟨g, hg⟩ : ∃ g, g = w.heap.size := ⟨_, rfl⟩
  have hgq : q < g := by omega
  have hgw : w.heap.size ≤ g := by omega
  have hgb : b < g := by omega
  rw [← hg] at hnewb ⊢
  obtain ⟨w1, hw1⟩ : ∃ w1, w1 = w.alloc (.cells Z 99) := ⟨_, rfl⟩
  rw [← hw1] at hb1 hnewb ⊢
  have hz1' : w1.heap.size = g + 1 := by rw [hw1, hg]; simp
  have hcp := run_copy_sec (w := w1) (G := g) (m := 512) (cc := c) 3 Z ⟨b, o, none⟩ s hnewb hZs hs (Nat.le_refl _) (fun j u hu => by
    obtain ⟨x, hx, rfl⟩ := BS_get hu
    rw [plus_zero]
    exact (hb1.cell (p := ⟨b, o + j, none⟩) hbs).trans (HC.out j x hx))
  have HG := Lib.hid hg
  have HZ1 := Lib.hid hz1'
  clear hw1 hg hz1'
  go_upto_region 2 with fail
  have hb2 := below_setRow hb1 hgw (sec s)
  have hsec2 := setRow_heap w1 g Z (sec s) _ _ hnewb
  have hz2' := setRow_size w1 g (sec s)
  obtain ⟨w2, hw2⟩ : ∃ w2, w2 = w1.setRow g (sec s) := ⟨_, rfl⟩
  rw [← hw2] at hb2 hsec2 hz2' ⊢
  have hz2 : w2.heap.size = g + 1 := hz2'.trans HZ1.out
  have HZ2 := Lib.hid hz2
  have hx2 : PR w2 G S q D vl vw (.map (some m)) st left ks pl pw := H.out.kept (fun _ h => h) (fun _ h => h) (fun b hb _ => hb2.block b hb) (fun b _ _ hb => hb2.block b hb)
  have hM2 : MapAt w2 m D.waits.length pw := HM.out.same (hb2.block m HM.out.lt)
  have d1 : w2.cell? ⟨q, 1, none⟩ = some vw := (row7 hx2.cells).1 1
  have hq2 : q < w2.heap.size := by omega
  have hrow : RowAt (w2.alloc (.cells #[.int .i64 (a : Int), .pointer (some ⟨g, 0, none⟩)] 105)) (.slice (some ⟨w2.heap.size, 0, none⟩) 1 1) 1 2 (PW [(a, g)]) := by
    have ho := World.ownsRow_lit (base := 0) (e := 105) (size := 2) w2 #[.int .i64 (a : Int), .pointer (some ⟨g, 0, none⟩)] 1 (Nat.zero_le _) (by unfold maxLen; omega) rfl
    exact RowAt.of_own ho
  have hpc : ∀ W : World, Kept w2 W (fun n => vw.ownBlock = some n) → W.frozen? ⟨q, 1, none⟩ = false ∧ W.cell? ⟨q, 1, none⟩ = some vw := by
    intro W hW
    have hc := (hW.block q hq2 (fun e => row_not hx2.cells hx2.waits (by decide) q e rfl)).trans hx2.cells
    exact ⟨(row7 hc).2 1, (row7 hc).1 1⟩
  have HPC := Lib.hid hpc
  have HX2 := Lib.hid hx2
  have HM2 := Lib.hid hM2
  have HSEC2 := Lib.hid hsec2
  have HB2 := Lib.hid hb2
  have HROW := Lib.hid hrow
  clear hpc hx2 hM2 hsec2 hb2 hcp hnewb hb1 hw2 hz2' hz2 hrow
  go_upto_region 3 with (at_builtin; go_must (refine wpList_appL rfl (.tmp 17) (.tmp 21) 84 rfl 0 105 i0 _ 2 16 Try.underlying84 hi0 hz0 hz1 hz2 rfl (by decide) vw _ D.waits.length (PW pw) 1 (PW [(a, g)]) rfl rfl (HX2.out.waits.alloc _) HROW.out (PW_one _) (by decide) (by unfold maxLen; omega) (by omega) (Nat.zero_le _) ?_; intro g3 cp3 w3 ho3 hg3 hgl hg33; have hk3 : Kept w2 w3 (fun n => vw.ownBlock = some n) := (Kept.alloc w2 _ _).trans (Kept.grown (F := fun n => vw.ownBlock = some n) hg3 (fun _ h => h)) (fun _ h => .inl h); obtain ⟨y1, d1'⟩ := HPC.out w3 hk3; have HO3 := Lib.hid ho3; have HGL := Lib.hid hgl; have HK3 := Lib.hid hk3; clear ho3 hg3 hgl hk3))
  have hgG : ∀ b, (Value.slice (some ⟨g3, 0, none⟩) (D.waits.length + 1) cp3).ownBlock = some b → G b ∨ (w.heap.size ≤ b ∧ b < w3.heap.size) := by
    intro b hb
    injection hb with hb
    subst hb
    rcases HGL.out with h1 | h1
    · exact .inl (HX2.out.waitsG _ h1)
    · right
      refine ⟨?_, hg33⟩
      rw [h1]
      have := HZ2.out
      simp
      omega
  have hzset : (w3.setCell ⟨q, 1, none⟩ (.slice (some ⟨g3, 0, none⟩) (D.waits.length + 1) cp3)).heap.size = w3.heap.size := by simp
  have hk3 := HK3.out
  have hz3 := hk3.size
  have hHG := HG.out
  have hHZ := HZ2.out
  have hx4 : PR (w3.setCell ⟨q, 1, none⟩ (.slice (some ⟨g3, 0, none⟩) (D.waits.length + 1) cp3)) (More G w w3) (More S w w3) q (D.wrote a s) vl (.slice (some ⟨g3, 0, none⟩) (D.waits.length + 1) cp3) (.map (some m)) st left ks pl (pw ++ [(a, g)]) := by
    refine HX2.out.waiting More.here More.here (fun b hb hne => hk3.block b hb hne) (own_eq HO3.out (by simp) (PW_append _ _).symm (Nat.le_refl _)) hgG ?_
    refine (HX2.out.wts.kept More.here (fun _ _ _ _ => rfl)).snoc a g ⟨.inr ⟨hgw, by omega⟩, HSEC2.out, hs⟩
  have hmw : vw.ownBlock ≠ some m := by
    intro e
    obtain ⟨cur, hc⟩ := row_type HX2.out.waits e
    exact HM2.out.other hc rfl
  have hmq : m ≠ q := HM2.out.other HX2.out.cells
  have hM4 : MapAt (w3.setCell ⟨q, 1, none⟩ (.slice (some ⟨g3, 0, none⟩) (D.waits.length + 1) cp3)) m D.waits.length pw := HM2.out.same ((set_other hmq).trans (hk3.block m HM2.out.lt hmw))
  have hk4 : Kept w (w3.setCell ⟨q, 1, none⟩ (.slice (some ⟨g3, 0, none⟩) (D.waits.length + 1) cp3)) (Mut G w) := by
    refine ((Kept.ofBelow (F := Mut G w) HB2.out).trans hk3 fun n hn => ?_).trans (Kept.setCell w3 ⟨q, 1, none⟩ _ (Mut G w) H.out.headMut) (fun _ h => .inl h)
    by_cases hs : n < w.heap.size
    · left
      exact ⟨H.out.waitsG n hn, fun hi => row_not_sec H.out.waits (by decide) hn hi⟩
    · right; omega
  obtain ⟨w4, hw4⟩ : ∃ w4, w4 = w3.setCell ⟨q, 1, none⟩ (.slice (some ⟨g3, 0, none⟩) (D.waits.length + 1) cp3) := ⟨_, rfl⟩
  rw [← hw4] at hx4 hM4 hk4 hzset ⊢
  have e2 : w4.cell? ⟨q, 2, none⟩ = some (.map (some m)) := (row7 hx4.cells).1 2
  obtain ⟨Dm, hown, hism, hat⟩ := hM4
  have hll' : a < 9223372036854775808 := by omega
  have hkey := key_i64 hll'
  have hval : Rp (.pointer (some ⟨g, 0, none⟩)) = some (encp (some g), []) := Rp_ptr (some g)
  have HX4 := Lib.hid hx4
  have HK4 := Lib.hid hk4
  have HOWN := Lib.hid hown
  have HZS := Lib.hid hzset
  have HAT := Lib.hid hat
  clear hx4 hk4 hown hw4 hzset hgG hk3 hz3 hHG hHZ hat d1 y1 d1' HPC HROW
  go_wp2_with (at_mapUpdate; refine wpList_mapUpdate_own _ rfl _ _ _ 85 rfl 3 95 law_int Try.underlying85 _ m D.waits.length Dm rfl HOWN.out (by unfold maxLen; omega) _ _ (.int .i64 (a : Int)) rfl rfl hkey (encp (some g)) [] hval ?_; intro w5 hown5 hgr5)
  go_end0
  have hk5 : Kept w4 w5 (fun n => n = m) := Kept.grown hgr5 (fun b hb => (Option.some.inj hb).symm)
  have hx4 := HX4.out
  have hms : ¬ IsSec w m := map_not_sec HM.out
  have hk4 := HK4.out
  have hk3 := HK3.out
  have hsz4 := HZS.out
  have hsz3 := hk3.size
  have hHG := HG.out
  have hHZ := HZ2.out
  have hsz5 := hk5.size
  have hms4 : ¬ IsSec w4 m := by
    rintro ⟨cs, hc⟩
    obtain ⟨es, clock, hb, _⟩ := HOWN.out
    rw [hb] at hc
    cases hc
  have hmv : ∀ b, (Value.slice (some ⟨g3, 0, none⟩) (D.waits.length + 1) cp3).ownBlock = some b → b ≠ m := by
    intro b hb e
    subst e
    obtain ⟨cur, hc⟩ := row_type hx4.waits hb
    obtain ⟨es, clock, hb, _⟩ := HOWN.out
    rw [hb] at hc
    cases hc
  have hml : ∀ b, vl.ownBlock = some b → b ≠ m := by
    intro b hb e
    subst e
    obtain ⟨cur, hc⟩ := row_type hx4.lasts hb
    obtain ⟨es, clock, hb, _⟩ := HOWN.out
    rw [hb] at hc
    cases hc
  have hmq' : q ≠ m := fun e => hmq e.symm
  have hsub : ∀ (F : Nat → Prop) b, More F w w3 b → More F w w5 b := fun F b h => h.elim .inl fun h => .inr ⟨h.1, by omega⟩
  have hs5 : ∀ b, IsSec w4 b → b < w4.heap.size → w5.heap[b]? = w4.heap[b]? := fun b hi hb => hk5.block b hb (by rintro rfl; exact hms4 hi)
  have hx5 : PR w5 (More G w w5) (More S w w5) q (D.wrote a s) vl (.slice (some ⟨g3, 0, none⟩) (D.waits.length + 1) cp3) (.map (some m)) st left ks pl (pw ++ [(a, g)]) :=
    ⟨hsub G q hx4.inG, (hk5.block q hx4.lt hmq').trans hx4.cells, hx4.fz, row_same hx4.lasts fun b hb => hk5.block b (hx4.lasts.lt b hb).2 (hml b hb), fun b hb => hsub G b (hx4.lastsG b hb), row_same hx4.waits fun b hb => hk5.block b (hx4.waits.lt b hb).2 (hmv b hb), fun b hb => hsub G b (hx4.waitsG b hb), hx4.secs.kept (hsub S) fun b _ hi hb => hs5 b hi hb, hx4.wts.kept (hsub S) fun b _ hi hb => hs5 b hi hb⟩
  refine ⟨rfl, hk4.trans hk5 (fun n hn => .inl (by subst hn; exact ⟨HGM.out, hms⟩)), vl, _, m, st, left, ks, pl, pw ++ [(a, g)], hx5, .inl HGM.out, ?_⟩
  refine ⟨_, own_map_count hown5 (by unfold DS.wrote; simp), hism.put _ _, fun x hx => ?_⟩
  rw [lastOf_snoc]
  by_cases hxa : a = x
  · subst hxa
    rw [if_pos rfl, atKey_put_same hism (law_int.key hkey)]
  · rw [if_neg hxa, atKey_put_other (by intro e; injection e with _ e; omega), HAT.out x hx]
end Go.Proofs.Ytplpfhgdanclhaa
