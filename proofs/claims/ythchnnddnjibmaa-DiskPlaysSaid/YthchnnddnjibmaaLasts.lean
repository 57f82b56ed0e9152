/-
  DiskLasts, walked: what was flushed lasts. No condition but that its arguments lie in memory.
-/
import Derived.Test.YthchnnddnjibmaaApart
namespace Go.Proofs.Ythchnnddnjibmaa
open Go.RowKit Go.Maps

/-- the writes that a law keeps in mind -/
def WP (l : List (Nat × UInt8)) : List Value := l.flatMap fun x => [.int .u8 (x.1 : Int), .int .u8 (x.2.toNat : Int), .bool false]
def asWaits (l : List (Nat × UInt8)) : List (Nat × List UInt8) := l.map fun x => (x.1, all512 x.2)
theorem WP_append (l m : List (Nat × UInt8)) : WP (l ++ m) = WP l ++ WP m := by unfold WP; rw [List.flatMap_append]
theorem WP_one (l : List (Nat × UInt8)) : ∀ u ∈ WP l, u.oneCell' = true := by
  intro u hu
  unfold WP at hu
  obtain ⟨x, _, hx⟩ := List.mem_flatMap.1 hu
  simp at hx
  rcases hx with rfl | rfl | rfl <;> rfl
theorem WP_length (l : List (Nat × UInt8)) : (WP l).length = l.length * 3 := by
  induction l with
  | nil => rfl
  | cons x l ih => show (_ ++ WP l).length = _; rw [List.length_append, ih]; simp; omega
theorem WP_get {l : List (Nat × UInt8)} {k : Nat} {x : Nat × UInt8} (h : l[k]? = some x) : (WP l)[k * 3]? = some (.int .u8 (x.1 : Int)) ∧ (WP l)[k * 3 + 1]? = some (.int .u8 (x.2.toNat : Int)) := by
  induction l generalizing k with
  | nil => simp at h
  | cons y l ih =>
    cases k with
    | zero =>
      simp only [List.getElem?_cons_zero, Option.some.injEq] at h
      subst h
      exact ⟨rfl, rfl⟩
    | succ k =>
      have := ih (k := k) (by simpa using h)
      rw [show (k + 1) * 3 = k * 3 + 1 + 1 + 1 by omega]
      exact this
theorem asWaits_get {l : List (Nat × UInt8)} {k : Nat} {x : Nat × UInt8} (h : l[k]? = some x) : (asWaits l)[k]? = some (x.1, all512 x.2) := by unfold asWaits; rw [List.getElem?_map, h]; rfl
theorem asWaits_length (l : List (Nat × UInt8)) : (asWaits l).length = l.length := by unfold asWaits; rw [List.length_map]
theorem map_all_set (L : List UInt8) (a : Nat) (c : UInt8) : (L.set a c).map all512 = (L.map all512).set a (all512 c) := by rw [List.map_set]

theorem info_Put : (Try.prog.info? 56).map (fun i => (i.zero, i.size, i.bytes)) = some (some (.agg #[.int .u8 0, .int .u8 0, .bool false]), 3, 3) := by kernel_rfl

/-- a disk is there still behind a row's growth -/
theorem PD.grown {w w' : World} {G S : Nat → Prop} {q : Nat} {D : DS} (h : PD w G S q D) {row : Option Nat} (hg : w.grownBy w' row) (hr : ∀ b, row = some b → ¬ G b ∧ ¬ IsSec w b) : PD w' G S q D :=
  h.kept (fun _ h => h) (fun _ h => h) (fun b hb hm => hg.block b hb fun e => (hr b e.symm).1 hm.1) (fun b _ hi hb => hg.block b hb fun e => (hr b e.symm).2 hi)

theorem at_mod (x : UInt8) (N : Nat) : (wrap64 (x.toNat : Int)).tmod (N : Int) = ((x.toNat % N : Nat) : Int) := by
  have h1 := UInt8.toNat_lt x
  have h2 : wrap64 (x.toNat : Int) = (x.toNat : Int) := by unfold wrap64; omega
  rw [h2, Int.tmod_eq_emod_of_nonneg (Int.natCast_nonneg _)]
  exact (Int.natCast_emod _ _).symm

/-- what the law's first loop keeps -/
def LInv (B : Nat) (w0 wr : World) (N d gl : Nat) (vw : Value) (j : Nat) : Prop := ∃ (LB : List UInt8) (WB : List (Nat × UInt8)) (G S : Nat → Prop) (D : DS),
  Live D N ∧ Fit D (2 * j) ∧ D.lasts = LB.map all512 ∧ D.waits = asWaits WB ∧ (∀ x ∈ WB, x.1 < N) ∧ WB.length ≤ j ∧ PD wr G S d D ∧ In B wr G ∧ wr.ownsRow B 5 1 (.slice (some ⟨gl, 0, none⟩) N N) N (BS LB) ∧ ¬ G gl ∧
    wr.ownsRow B 56 3 vw WB.length (WP WB) ∧ (∀ b, vw.ownBlock = some b → ¬ G b) ∧ Below B w0 wr

/-- 1 + uint(n) % 12 -/
theorem count_of (n : Int) : ∃ N : Nat, 1 ≤ N ∧ N ≤ 12 ∧ wrap64 (1 + wrap64 ((IntKind.u64.wrap n).tmod 12)) = (N : Int) := by
  have h1 : IntKind.u64.wrap n = n % 18446744073709551616 := IntKind.wrap_u64 n
  have h2 : (n % 18446744073709551616).tmod 12 = n % 18446744073709551616 % 12 := Int.tmod_eq_emod_of_nonneg (by omega)
  rw [h1, h2]
  refine ⟨(1 + n % 18446744073709551616 % 12).toNat, by omega, by omega, ?_⟩
  unfold wrap64
  omega

set_option maxHeartbeats 8000000 in
set_option maxRecDepth 100000 in
theorem lasts_walk (n : Int) (l : List PutT) (kl : List Bool) (a b : Value) (w : World) (ha : RdP w w.heap.size a l) (hb : RowAt w b kl.length 1 (KS kl)) (hl : l.length ≤ 9223372036854775807) (hkl : kl.length ≤ 140737488355328) :
    Calls Try.prog 5 #[.int .i64 n, a, b] w fun e w' => e = .returned (.bool true) ∧ Below w.heap.size w w' := by
  have HA := Lib.hid ha
  have HB := Lib.hid hb
  obtain ⟨A, ca, rfl, -⟩ := ha
  obtain ⟨A2, cb, rfl, -⟩ := hb
  by_cases hlong : 80 < l.length
  · have h1 : (80 : Int) < (l.length : Int) := by omega
    clear hlong
    go_enter Try.func5, Try.ntmps5
    go_wp2_with fail
    refine (works_any w).mono ?_
    rintro e w1 ⟨rfl, hb1⟩
    go_wp2_with fail
    refine (works_any w1).mono ?_
    rintro e w2 ⟨rfl, hb2⟩
    go_wp2_with fail
    go_ret
    exact ⟨rfl, hb1.trans (Joins.below_le hb2 hb1.size)⟩
  · have h1 : ¬ (80 : Int) < (l.length : Int) := by omega
    have hl80 : l.length ≤ 80 := by omega
    clear hlong hl
    go_enter Try.func5, Try.ntmps5
    go_wp2_with fail
    refine (works_any w).mono ?_
    rintro e w1 ⟨rfl, hb1⟩
    have hs1 := hb1.size
    go_upto_region 4 with fail
    obtain ⟨N, hN1, hN2, hN⟩ := count_of n
    rw [hN]
    clear hN
    go_wp2_with fail
    refine (pNew_yes N w1 hN1 (by omega)).mono ?_
    rintro e w2 ⟨hb2, d, rfl, hd2⟩
    have hs2 := hb2.size
    have l2 := hb1.trans (Joins.below_le hb2 hs1)
    obtain ⟨w3, hmk, ho3, hb3⟩ := made_marks N (by omega) w2
    have hs3 := hb3.size
    have l3 := l2.trans (Joins.below_le hb3 l2.size)
    have hd3 : PD w3 (Made w1 w2) Nil d (DS.new N) := hd2.kept (fun _ h => h) (fun _ h => h) (fun b hb _ => hb3.block b hb) (fun b _ _ hb => hb3.block b hb)
    obtain ⟨gl, hgl⟩ : ∃ gl, gl = w2.heap.size := ⟨_, rfl⟩
    rw [← hgl] at hmk ho3
    have HGL := Lib.hid hgl
    have HD3 := Lib.hid hd3
    have HO3 := Lib.hid ho3
    clear hd2 hd3 ho3 hgl
    go_wp2_with fail
    have h0 : LInv w.heap.size w w3 N d gl (.slice none 0 0) 0 := by
      have hgl := HGL.out
      refine ⟨List.replicate N 0, [], Made w1 w2, Nil, DS.new N, Live.new N, Fit.new (by omega), ?_, rfl, fun x hx => by simp at hx, Nat.le_refl _, HD3.out, ?_, own_eq HO3.out rfl rfl (by omega), ?_, World.ownsRow_nil _ _ _ _, (fun b hb => by cases hb), l3⟩
      · unfold DS.new all512
        rw [List.map_replicate]
      · exact (In.made hs1).grow hs3
      · intro h
        have := h.2
        omega
    have H0 := Lib.hid h0
    clear h0 hb1 hb2 hb3 hmk HGL HD3 HO3 l2 l3
    obtain ⟨ip, hip, hpz0, hpz1, hpz2⟩ := info_parts info_Put
    have hN0 : ((N : Int) == 0) = false := by simp; omega
    go_loopw [10, 11, 12, 13] (fun vw i _ _ wr => ∃ j : Nat, i = .int .i64 j ∧ j ≤ l.length ∧ Hid (LInv w.heap.size w wr N d gl vw j)) (fun _ i _ _ _ => l.length - (intOf i).toNat)
    case atStart => exact ⟨0, rfl, by omega, H0⟩
    case round =>
      obtain ⟨j, rfl, hj, hinv⟩ := hrel
      clear H0
      obtain ⟨LB, WB, G, S, D, hlive, hfit, hDl, hDw, hWB, hWl, hpd, hIn, hrl, hgl, hrw, hgw, hbel⟩ := hinv.out
      have hsr := hbel.size
      by_cases hjl : j < l.length
      · have i1 : (j : Int) < (l.length : Int) := by omega
        have i0 : (0 : Int) ≤ (j : Int) := by omega
        have hxj : l[j]? = some l[j] := List.getElem?_eq_getElem hjl
        obtain ⟨⟨xa, xw, xf⟩, hxx⟩ : ∃ x, x = l[j] := ⟨_, rfl⟩
        rw [← hxx] at hxj
        obtain ⟨b, o, hA, hbB, hcell⟩ : ∃ b o, A = some ⟨b, o, none⟩ ∧ b < w.heap.size ∧ _ := by
          obtain ⟨A', c', he, hh⟩ := HA.out
          injection he with e1 _ _
          subst e1
          exact hh (by rintro rfl; simp at hjl)
        subst hA
        obtain ⟨n0, n1, n2⟩ := hcell j _ hxj
        have hat := at_mod xa N
        have k0 : wr.cell? ⟨b, o + j * 3, none⟩ = some (.int .u8 (xa.toNat : Int)) := (hbel.cell (p := ⟨b, o + j * 3, none⟩) hbB).trans n0
        have k1 : wr.cell? ⟨b, o + j * 3 + 1, none⟩ = some (.int .u8 (xw.toNat : Int)) := (hbel.cell (p := ⟨b, o + j * 3 + 1, none⟩) hbB).trans n1
        have N1 := Lib.hid n1
        have N2 := Lib.hid n2
        have hPD := Lib.hid hpd
        have hRL := Lib.hid hrl
        have hRW := Lib.hid hrw
        have hIN := Lib.hid hIn
        have hBEL := Lib.hid hbel
        have hLIVE := Lib.hid hlive
        have hFIT := Lib.hid hfit
        have HAT := Lib.hid hat
        clear n0 n1 n2 hcell hxx hxj hinv hpd hrl hrw hIn hbel hlive hfit hat
        go_upto_region 13 with fail
        rw [HAT.out]
        have haN : xa.toNat % N < N := Nat.mod_lt _ (by omega)
        obtain ⟨at', hat'⟩ : ∃ at', at' = xa.toNat % N := ⟨_, rfl⟩
        rw [← hat'] at haN ⊢
        clear HAT hat' k0
        go_wp2_with fail
        refine (full_c xw _ wr rfl).mono ?_
        rintro e w4 ⟨g4, rfl, hr4, hb4⟩
        have hs4 := hb4.size
        have hPD4 : PD w4 G S d D := hPD.out.kept (fun _ h => h) (fun _ h => h) (fun b hb _ => hb4.block b hb) (fun b _ _ hb => hb4.block b hb)
        have cW := pWrite_any G S d D (at' : Int) _ _ w4 hPD4 hr4 (hFIT.out.fine (by omega))
        rw [hLIVE.out.write_eq haN (all512_length xw)] at cW
        clear hPD4 hr4 k1
        go_wp2_with fail
        refine cW.mono ?_
        rintro e w5 ⟨rfl, hk5, hd5⟩
        have hs5 := hk5.size
        have hI4 : In w.heap.size w4 G := hIN.out.grow hs4
        have hbel4 := hBEL.out.trans (Joins.below_le hb4 hBEL.out.size)
        have hbel5 := hbel4.trans (hk5.belowIn hI4 hbel4.size)
        have hI5 : In w.heap.size w5 (More G w4 w5) := hI4.more hbel4.size hs5
        have hrow : ∀ (e : TypeId) (sz : Nat) (v : Value) (n : Nat) (xs : List Value), wr.ownsRow w.heap.size e sz v n xs → (∀ b, v.ownBlock = some b → ¬ G b) → w5.ownsRow w.heap.size e sz v n xs ∧ ∀ b, v.ownBlock = some b → ¬ More G w4 w5 b := fun e sz v n xs ho hn =>
          ⟨row_same ho fun b hb => (hk5.block b (by have := (ho.lt b hb).2; omega) (fun hm => hn b hb hm.1)).trans (hb4.block b (ho.lt b hb).2), fun b hb hm => hm.elim (hn b hb) fun h => by have := (ho.lt b hb).2; omega⟩
        have hrl5 := hrow _ _ _ _ _ hRL.out (fun b hb => by injection hb with hb; subst hb; exact hgl)
        have hrw5 := hrow _ _ _ _ _ hRW.out hgw
        have m1 : w5.cell? ⟨b, o + j * 3 + 1, none⟩ = some (.int .u8 (xw.toNat : Int)) := (hbel5.cell (p := ⟨b, o + j * 3 + 1, none⟩) hbB).trans N1.out
        have hlive5 := hLIVE.out.wrote at' (all512 xw)
        have hfit5 : Fit (D.wrote at' (all512 xw)).tick (2 * j + 1) := hFIT.out.wroteTick (by rw [hLIVE.out.lasts]; exact haN) (all512_length xw)
        have hDw5 : (D.wrote at' (all512 xw)).tick.waits = asWaits (WB ++ [(at', xw)]) := by
          show D.waits ++ [(at', all512 xw)] = _
          rw [hDw]
          unfold asWaits
          rw [List.map_append]
          rfl
        have hDl5 : (D.wrote at' (all512 xw)).tick.lasts = LB.map all512 := hDl
        obtain ⟨D5, hD5⟩ : ∃ D5, D5 = (D.wrote at' (all512 xw)).tick := ⟨_, rfl⟩
        rw [← hD5] at hd5 hlive5 hfit5 hDw5 hDl5
        obtain ⟨G5, hG5⟩ : ∃ G5, G5 = More G w4 w5 := ⟨_, rfl⟩
        rw [← hG5] at hd5 hI5 hrl5 hrw5
        obtain ⟨S5, hS5⟩ : ∃ S5, S5 = More S w4 w5 := ⟨_, rfl⟩
        rw [← hS5] at hd5
        obtain ⟨_, _, hvw, -⟩ := RowAt.of_own hrw5.1
        have hvw' : ∃ Aw cw, u10 = .slice Aw WB.length cw := ⟨_, _, hvw⟩
        clear hvw
        obtain ⟨Aw, cw, rfl⟩ := hvw'
        have hu8 : IntKind.u8.wrap (at' : Int) = (at' : Int) := by rw [IntKind.wrap_u8]; omega
        have hrow6 : RowAt (w5.alloc (.cells #[.int .u8 (at' : Int), .int .u8 (xw.toNat : Int), .bool false] 56)) (.slice (some ⟨w5.heap.size, 0, none⟩) 1 1) 1 3 (WP [(at', xw)]) := by
          have ho := World.ownsRow_lit (base := 0) (e := 56) (size := 3) w5 #[.int .u8 (at' : Int), .int .u8 (xw.toNat : Int), .bool false] 1 (Nat.zero_le _) (by unfold maxLen; omega) rfl
          exact RowAt.of_own ho
        have hRL5 := Lib.hid hrl5
        have hRW5 := Lib.hid hrw5
        have hPD5 := Lib.hid hd5
        have hBEL5 := Lib.hid hbel5
        have hI5' := Lib.hid hI5
        have HROW6 := Lib.hid hrow6
        have hbase : w.heap.size ≤ (w5.alloc (.cells #[.int .u8 (at' : Int), .int .u8 (xw.toNat : Int), .bool false] 56)).heap.size := by simp; omega
        clear hrl5 hrw5 hd5 hbel5 hI5 hrow6 hrow hk5 hbel4 hI4 hD5 hG5 hS5 cW hb4 hPD hRL hRW hIN hBEL hFIT hLIVE hgl hgw hDl hDw
        go_upto_region 16 with (at_builtin; go_must (refine wpList_appL rfl (.tmp 66) (.tmp 75) 54 rfl w.heap.size 56 ip _ 3 3 Try.underlying54 hip hpz0 hpz1 hpz2 rfl (by decide) _ _ WB.length (WP WB) 1 (WP [(at', xw)]) rfl rfl (hRW5.out.1.alloc _) HROW6.out (WP_one _) (by decide) (by unfold maxLen; omega) (by omega) hbase ?_; intro g6 cp6 w6 ho6 hg6 hgl6 hg66; have hb6 : Below w.heap.size w5 w6 := ((Below.refl _ _).alloc (by omega) _).grown hg6 hbase (fun k hk => (hRW5.out.1.lt k hk).1)))
        have hRW5a := hRW5.out.1.alloc (.cells #[.int .u8 (at' : Int), .int .u8 (xw.toNat : Int), .bool false] 56)
        have hs6 := hb6.size
        have hPD6 : PD w6 G5 S5 d D5 := (hPD5.out.kept (fun _ h => h) (fun _ h => h) (fun b hb _ => Below.heap_alloc w5 _ b hb) (fun b _ _ hb => Below.heap_alloc w5 _ b hb) : PD (w5.alloc (.cells #[.int .u8 (at' : Int), .int .u8 (xw.toNat : Int), .bool false] 56)) G5 S5 d D5).grown hg6 (fun b hb => ⟨hRW5.out.2 b hb, row_not_sec hRW5a (by decide) hb⟩)
        have hI6 : In w.heap.size w6 G5 := hI5'.out.grow hs6
        have hgl5 : ¬ G5 gl := hRL5.out.2 gl rfl
        have hgw6 : ¬ G5 g6 := by
          rcases hgl6 with h | h
          · exact hRW5.out.2 g6 h
          · intro hg
            have h2 := (hI5'.out g6 hg).2
            have h3 : ∀ o : Obj, (w5.alloc o).heap.size = w5.heap.size + 1 := fun o => by simp
            rw [h, h3] at h2
            omega
        have hRL6 : w6.ownsRow w.heap.size 5 1 (.slice (some ⟨gl, 0, none⟩) N N) N (BS LB) := row_same (hRL5.out.1.alloc _) fun b hb => hg6.block b ((hRL5.out.1.alloc _).lt b hb).2 (fun e => rows_apart (hRL5.out.1.alloc _) hRW5a (by decide) hb e.symm rfl)
        have hRW6 : w6.ownsRow w.heap.size 56 3 (.slice (some ⟨g6, 0, none⟩) (WB.length + 1) cp6) (WB ++ [(at', xw)]).length (WP (WB ++ [(at', xw)])) := own_eq ho6 (by simp) (WP_append _ _).symm (Nat.le_refl _)
        have hbel6 := hBEL5.out.trans hb6
        have m2 : w6.cell? ⟨b, o + j * 3 + 2, none⟩ = some (.bool xf) := (hbel6.cell (p := ⟨b, o + j * 3 + 2, none⟩) hbB).trans N2.out
        have hWB6 : ∀ x ∈ WB ++ [(at', xw)], x.1 < N := fun x hx => by
          rcases List.mem_append.1 hx with h | h
          · exact hWB x h
          · simp at h; subst h; exact haN
        have hWl6 : (WB ++ [(at', xw)]).length ≤ j + 1 := by rw [List.length_append]; simp; omega
        have hwlen : (WB ++ [(at', xw)]).length = WB.length + 1 := by simp
        obtain ⟨WB6, hWBe⟩ : ∃ WB6, WB6 = WB ++ [(at', xw)] := ⟨_, rfl⟩
        rw [← hWBe] at hRW6 hWB6 hWl6 hDw5 hwlen
        rw [← hwlen] at hRW6 ⊢
        have HPD6 := Lib.hid hPD6
        have HRL6 := Lib.hid hRL6
        have HRW6 := Lib.hid hRW6
        have HBEL6 := Lib.hid hbel6
        have HI6 := Lib.hid hI6
        clear hPD6 hRL6 hRW6 hbel6 hI6 hRW5a hRL5 hRW5 hPD5 hBEL5 hI5' HROW6 hb6 ho6 hg6 hgl6 hg66 hWBe hwlen hu8 m1 hbase hWB hWl
        cases xf with
        | false =>
          have hnx : Hid (LInv w.heap.size w w6 N d gl (.slice (some ⟨g6, 0, none⟩) WB6.length cp6) (j + 1)) :=
            ⟨LB, WB6, G5, S5, D5, hlive5, hfit5.mono (by omega), hDl5, hDw5, hWB6, hWl6, HPD6.out, HI6.out, HRL6.out, hgl5, HRW6.out, (fun b hb => by injection hb with hb; subst hb; exact hgw6), HBEL6.out⟩
          clear hlive5 hfit5 hDl5 hDw5 hWB6 HPD6 HI6 HRL6 HRW6 HBEL6
          go_wp2_with fail
          exact ⟨⟨j + 1, by go_num, hjl, hnx⟩, by simp [intOf]; omega⟩
        | true =>
          have cF := pFlush_any G5 S5 d D5 w6 HPD6.out (hfit5.fine (by omega))
          rw [hlive5.flush_eq] at cF
          have hlive7 := hlive5.flushed
          have hfit7 : Fit D5.tick.flushed (2 * j + 1 + 1) := hfit5.tick.flushed
          have hDl7 : D5.tick.flushed.lasts = setAll (LB.map all512) (asWaits WB6) := by
            show setAll D5.lasts D5.waits = _
            rw [hDl5, hDw5]
          have hDw7 : D5.tick.flushed.waits = [] := rfl
          obtain ⟨D7, hD7⟩ : ∃ D7, D7 = D5.tick.flushed := ⟨_, rfl⟩
          rw [← hD7] at cF hlive7 hfit7 hDl7 hDw7
          clear hlive5 hfit5 hDl5 hDw5 hD7
          go_wp2_with fail
          refine cF.mono ?_
          rintro e w7 ⟨rfl, hk7, hd7⟩
          have hs7 := hk7.size
          have cw := pWaits_any _ _ d D7 w7 hd7
          rw [hDw7] at cw
          have hI7 : In w.heap.size w7 (More G5 w6 w7) := HI6.out.more HBEL6.out.size hs7
          have hbel7 := HBEL6.out.trans (hk7.belowIn HI6.out HBEL6.out.size)
          have hgl7 : ¬ More G5 w6 w7 gl := fun h => h.elim hgl5 fun h => by have := (HRL6.out.lt gl rfl).2; omega
          have hRL7 : w7.ownsRow w.heap.size 5 1 (.slice (some ⟨gl, 0, none⟩) N N) N (BS LB) := row_same HRL6.out fun b hb => hk7.block b (HRL6.out.lt b hb).2 (fun hm => by injection hb with hb; subst hb; exact hgl5 hm.1)
          have hRW7 : w7.ownsRow w.heap.size 56 3 (.slice (some ⟨g6, 0, none⟩) WB6.length cp6) WB6.length (WP WB6) := row_same HRW6.out fun b hb => hk7.block b (HRW6.out.lt b hb).2 (fun hm => by injection hb with hb; subst hb; exact hgw6 hm.1)
          have HPD7 := Lib.hid hd7
          have HI7 := Lib.hid hI7
          have HBEL7 := Lib.hid hbel7
          have HRL7 := Lib.hid hRL7
          have HRW7 := Lib.hid hRW7
          clear hd7 hI7 hbel7 hRL7 hRW7 HPD6 HI6 HRL6 HRW6 HBEL6 hk7 cF
          go_wp2_with fail
          refine cw.mono ?_
          rintro e w8 ⟨rfl, rfl⟩
          clear cw
          go_wp2_with fail
          have hWl := asWaits_length WB6
          go_loopw [13] (fun i wr => ∃ (k : Nat) (L : List UInt8), i = .int .i64 k ∧ k ≤ WB6.length ∧ Hid (L.map all512 = setAll (LB.map all512) ((asWaits WB6).take k)) ∧ wr.ownsRow w.heap.size 5 1 (.slice (some ⟨gl, 0, none⟩) N N) N (BS L) ∧ w7.grownBy wr (some gl)) (fun i _ => WB6.length - (intOf i).toNat)
          case atStart => exact ⟨0, LB, rfl, by omega, rfl, HRL7.out, ⟨rfl, rfl, rfl, Nat.le_refl _, fun _ _ _ => rfl⟩⟩
          case round =>
            obtain ⟨k, L, rfl, hk, hL, hrl, hg⟩ := hrel
            have hsz := hg.size
            by_cases hkl' : k < WB6.length
            · have i2 : (k : Int) < (WB6.length : Int) := by omega
              have i3 : (0 : Int) ≤ (k : Int) := by omega
              have hxk : WB6[k]? = some WB6[k] := List.getElem?_eq_getElem hkl'
              obtain ⟨⟨ya, yc⟩, hyy⟩ : ∃ y, y = WB6[k] := ⟨_, rfl⟩
              rw [← hyy] at hxk
              have hyN : ya < N := hWB6 (ya, yc) (List.mem_of_getElem? hxk)
              obtain ⟨p1, p2⟩ := WP_get hxk
              have hne : ¬ (some g6 = some gl) := fun e => by
                injection e with e
                exact rows_apart HRW7.out HRL7.out (by decide) rfl rfl e
              have hg6lt : g6 < w7.heap.size := (HRW7.out.lt g6 rfl).2
              have k0 : wr.cell? ⟨g6, k * 3, none⟩ = some (.int .u8 (ya : Int)) := (hg.cell_far ⟨g6, k * 3, none⟩ hg6lt hne).trans ((HRW7.out.cellAt (k * 3) (by omega)).trans p1)
              have k1 : wr.cell? ⟨g6, k * 3 + 1, none⟩ = some (.int .u8 (yc.toNat : Int)) := (hg.cell_far ⟨g6, k * 3 + 1, none⟩ hg6lt hne).trans ((HRW7.out.cellAt (k * 3 + 1) (by omega)).trans p2)
              obtain ⟨u, hu⟩ : ∃ u, wr.cell? ⟨gl, ya, none⟩ = some u := by
                rw [hrl.cellAt ya (by omega)]
                have := hrl.1
                exact ⟨_, List.getElem?_eq_getElem (by omega)⟩
              have z3 : wr.frozen? ⟨gl, ya, none⟩ = false := hrl.frozenAt ya
              have a0 : (0 : Int) ≤ (ya : Int) := by omega
              have a1 : (ya : Int) < (N : Int) := by omega
              have hst := hrl.stored ya (.int .u8 (yc.toNat : Int))
              rw [← BS_set] at hst
              have hL' : (L.set ya yc).map all512 = setAll (LB.map all512) ((asWaits WB6).take (k + 1)) := by
                rw [map_all_set, hL.out, take_snoc (asWaits_get hxk), setAll_snoc]
              have HST := Lib.hid hst.1
              have hgn : w7.grownBy (wr.setCell ⟨gl, ya, none⟩ (.int .u8 (yc.toNat : Int))) (some gl) := ⟨hst.2.os.trans hg.os, hst.2.tape.trans hg.tape, hst.2.output.trans hg.output, Nat.le_trans hg.size hst.2.size, fun q hq hqg => (hst.2.block q (by omega) hqg).trans (hg.block q hq hqg)⟩
              have HGN := Lib.hid hgn
              have HL' := Lib.hid hL'
              clear hst hgn hrl hL hg p1 p2 hyy hxk hL'
              go_wp2_with fail
              go_region
              all_goals go_wp2_with fail
              all_goals exact ⟨⟨k + 1, _, by go_num, hkl', HL'.out, HST.out, ⟨HGN.out.os, HGN.out.tape, HGN.out.output, HGN.out.size, HGN.out.block⟩⟩, by simp [intOf]; omega⟩
            · have i2 : ¬ (k : Int) < (WB6.length : Int) := by omega
              rw [List.take_of_length_le (by omega)] at hL
              have hnx : Hid (LInv w.heap.size w wr N d gl (.slice none 0 0) (j + 1)) := by
                refine ⟨L, [], More G5 w6 w7, More S5 w6 w7, D7, hlive7, hfit7.mono (by omega), hDl7.trans hL.out.symm, hDw7, fun x hx => by simp at hx, Nat.zero_le _, HPD7.out.grown hg (fun b hb => ?_), HI7.out.grow hsz, hrl, hgl7, World.ownsRow_nil _ _ _ _, (fun b hb => by cases hb), HBEL7.out.grown hg HBEL7.out.size (fun b hb => ?_)⟩
                · injection hb with hb
                  subst hb
                  exact ⟨hgl7, row_not_sec HRL7.out (by decide) rfl⟩
                · injection hb with hb
                  subst hb
                  exact (HRL7.out.lt gl rfl).1
              clear hrl hg hL HPD7 HI7 HBEL7 HRL7 HRW7
              go_wp2_with fail
              exact ⟨⟨j + 1, by go_num, hjl, hnx⟩, by simp [intOf]; omega⟩
      · have i1 : ¬ (j : Int) < (l.length : Int) := by omega
        have hWlen : D.waits.length = WB.length := by rw [hDw, asWaits_length]
        have cw := pWaits_any G S d D wr hpd
        rw [hWlen] at cw
        obtain ⟨_, _, hvw, -⟩ := RowAt.of_own hrw
        have hvw' : ∃ Aw cw, u10 = .slice Aw WB.length cw := ⟨_, _, hvw⟩
        clear hvw
        obtain ⟨Aw, cwa, rfl⟩ := hvw'
        have cc := pCrash_any G S d D (.slice A2 kl.length cb) kl wr hpd (HB.out.grow hbel) hkl (hfit.fine (by omega))
        have hcr : D.crashed kl = (0, D.crash kl) := by unfold DS.crashed; rw [hlive.dead]; rfl
        rw [hcr] at cc
        have hfit4 : Fit (D.crash kl) (2 * j) := hfit.crash kl
        have hdead4 : (D.crash kl).dead = true := rfl
        have hDl4 : (D.crash kl).lasts = setAll (LB.map all512) (keptOf (asWaits WB) kl) := by
          show setAll D.lasts (keptOf D.waits kl) = _
          rw [hDl, hDw]
        have hll4 : (D.crash kl).lasts.length = N := by rw [hDl4, setAll_length, ← hDl]; exact hlive.lasts
        obtain ⟨D4, hD4⟩ : ∃ D4, D4 = D.crash kl := ⟨_, rfl⟩
        rw [← hD4] at cc hfit4 hdead4 hDl4 hll4
        have hBEL := Lib.hid hbel
        have hRL := Lib.hid hrl
        have hRW := Lib.hid hrw
        have hIN := Lib.hid hIn
        clear hinv hpd hbel hrl hrw hIn hD4 hcr hlive hfit hDl hDw
        go_wp2_with fail
        refine cw.mono ?_
        rintro e w4 ⟨rfl, rfl⟩
        clear cw
        go_wp2_with fail
        refine cc.mono ?_
        rintro e w4 ⟨rfl, hk4, hd4⟩
        have hs4 := hk4.size
        have cdd := pDead_any _ _ d D4 w4 hd4
        rw [hdead4] at cdd
        have cf := pFlush_any _ _ d D4 w4 hd4 (hfit4.fine (by omega))
        have hfl : D4.flush = (20, D4) := by unfold DS.flush; rw [hdead4]; rfl
        rw [hfl] at cf
        have hbel4 := hBEL.out.trans (hk4.belowIn hIN.out hBEL.out.size)
        have hI4 : In w.heap.size w4 (More G wr w4) := hIN.out.more hBEL.out.size hs4
        have hRL4 : w4.ownsRow w.heap.size 5 1 (.slice (some ⟨gl, 0, none⟩) N N) N (BS LB) := row_same hRL.out fun b hb => hk4.block b (hRL.out.lt b hb).2 (fun hm => by injection hb with hb; subst hb; exact hgl hm.1)
        have hgl4 : ¬ More G wr w4 gl := fun h => h.elim hgl fun h => by have := (hRL.out.lt gl rfl).2; omega
        have hRW4 : w4.ownsRow w.heap.size 56 3 (.slice Aw WB.length cwa) WB.length (WP WB) := row_same hRW.out fun b hb => hk4.block b (hRW.out.lt b hb).2 (fun hm => hgw b hb hm.1)
        have hgw4 : ∀ b, (Value.slice Aw WB.length cwa).ownBlock = some b → ¬ More G wr w4 b := fun b hb h => h.elim (hgw b hb) fun h => by have := (hRW.out.lt b hb).2; omega
        obtain ⟨G4, hG4⟩ : ∃ G4, G4 = More G wr w4 := ⟨_, rfl⟩
        obtain ⟨S4, hS4⟩ : ∃ S4, S4 = More S wr w4 := ⟨_, rfl⟩
        rw [← hG4, ← hS4] at cf
        rw [← hG4] at hI4 hgl4 hgw4
        have hRL4' := Lib.hid hRL4
        have hRW4' := Lib.hid hRW4
        have hI4' := Lib.hid hI4
        have hBEL4 := Lib.hid hbel4
        clear hd4 hk4 hRL4 hRW4 hI4 hbel4 hRL hRW hIN hBEL hG4 hS4 hfl cc hgl hgw
        go_wp2_with fail
        refine cdd.mono ?_
        rintro e w5 ⟨rfl, rfl⟩
        clear cdd
        go_wp2_with fail
        refine cf.mono ?_
        rintro e w5 ⟨rfl, hk5, hd5⟩
        have hs5 := hk5.size
        have hbel5 := hBEL4.out.trans (hk5.belowIn hI4'.out hBEL4.out.size)
        have hRL5 : w5.ownsRow w.heap.size 5 1 (.slice (some ⟨gl, 0, none⟩) N N) N (BS LB) := row_same hRL4'.out fun b hb => hk5.block b (hRL4'.out.lt b hb).2 (fun hm => by injection hb with hb; subst hb; exact hgl4 hm.1)
        have hRW5 : w5.ownsRow w.heap.size 56 3 (.slice Aw WB.length cwa) WB.length (WP WB) := row_same hRW4'.out fun b hb => hk5.block b (hRW4'.out.lt b hb).2 (fun hm => hgw4 b hb hm.1)
        have hgl5 : ¬ More G4 w4 w5 gl := fun h => h.elim hgl4 fun h => by have := (hRL4'.out.lt gl rfl).2; omega
        have HRL5 := Lib.hid hRL5
        have HRW5 := Lib.hid hRW5
        have HBEL5 := Lib.hid hbel5
        have HPD5 := Lib.hid hd5
        clear hd5 hk5 hRL5 hRW5 hbel5 hRL4' hRW4' hI4' hBEL4 cf
        go_wp2_with fail
        have hWl := asWaits_length WB
        go_loopw [14] (fun i wr => ∃ (k : Nat) (L : List UInt8), i = .int .i64 k ∧ k ≤ WB.length ∧ k ≤ kl.length ∧ Hid (L.map all512 = setAll (LB.map all512) (keptOf ((asWaits WB).take k) (kl.take k))) ∧ wr.ownsRow w.heap.size 5 1 (.slice (some ⟨gl, 0, none⟩) N N) N (BS L) ∧ w5.grownBy wr (some gl)) (fun i _ => WB.length - (intOf i).toNat)
        case atStart => exact ⟨0, LB, rfl, by omega, by omega, rfl, HRL5.out, ⟨rfl, rfl, rfl, Nat.le_refl _, fun _ _ _ => rfl⟩⟩
        case round =>
          obtain ⟨k, L, rfl, hk, hk2, hL, hrl, hg⟩ := hrel
          have hsz := hg.size
          by_cases hin : k < WB.length ∧ k < kl.length
          · obtain ⟨hkl', hkl2⟩ := hin
            have i2 : (k : Int) < (WB.length : Int) := by omega
            have i2' : (k : Int) < (kl.length : Int) := by omega
            have i3 : (0 : Int) ≤ (k : Int) := by omega
            have hxk : WB[k]? = some WB[k] := List.getElem?_eq_getElem hkl'
            have hbk : kl[k]? = some kl[k] := List.getElem?_eq_getElem hkl2
            obtain ⟨⟨ya, yc⟩, hyy⟩ : ∃ y, y = WB[k] := ⟨_, rfl⟩
            obtain ⟨yb, hyb⟩ : ∃ y, y = kl[k] := ⟨_, rfl⟩
            rw [← hyy] at hxk
            rw [← hyb] at hbk
            have hyN : ya < N := hWB (ya, yc) (List.mem_of_getElem? hxk)
            have hkn := keptOf_snoc (asWaits_get hxk) hbk
            have hglw : w.heap.size ≤ gl := (HRL5.out.lt gl rfl).1
            have hbelr := HBEL5.out.grown hg HBEL5.out.size (fun b hb => by injection hb with hb; omega)
            obtain ⟨b2, o2, hA2, hc2⟩ : ∃ b2 o2, A2 = some ⟨b2, o2, none⟩ ∧ _ := by
              obtain ⟨A', c', he, _, _, _, _, hh⟩ := HB.out
              injection he with e1 _ _
              subst e1
              exact hh (by omega)
            subst hA2
            have kb0 := hc2 k _ (KS_get hbk)
            have kb : wr.cell? ⟨b2, o2 + k, none⟩ = some (.bool yb) := (hbelr.cell (p := ⟨b2, o2 + k, none⟩) (World.block_lt_of_cell? w _ kb0)).trans kb0
            obtain ⟨p1, p2⟩ := WP_get hxk
            obtain ⟨gw, cw', hAw, _, hgwlt⟩ := HRW5.out.form (by omega)
            injection hAw with e1 _ e2
            subst e1
            subst e2
            have hne : ¬ (some gw = some gl) := fun e => by
              injection e with e
              exact rows_apart HRW5.out HRL5.out (by decide) rfl rfl e
            have k0 : wr.cell? ⟨gw, k * 3, none⟩ = some (.int .u8 (ya : Int)) := (hg.cell_far ⟨gw, k * 3, none⟩ hgwlt hne).trans ((HRW5.out.cellAt (k * 3) (by omega)).trans p1)
            have k1 : wr.cell? ⟨gw, k * 3 + 1, none⟩ = some (.int .u8 (yc.toNat : Int)) := (hg.cell_far ⟨gw, k * 3 + 1, none⟩ hgwlt hne).trans ((HRW5.out.cellAt (k * 3 + 1) (by omega)).trans p2)
            clear kb0 hc2 p1 p2 hyy hyb hbelr hxk hbk
            cases yb with
            | false =>
              have hkn' : keptOf ((asWaits WB).take (k + 1)) (kl.take (k + 1)) = keptOf ((asWaits WB).take k) (kl.take k) := hkn.trans (List.append_nil _)
              rw [← hkn'] at hL
              clear hkn hkn'
              go_wp2_with fail
              exact ⟨⟨k + 1, L, by go_num, hkl', hkl2, hL, hrl, hg⟩, by simp [intOf]; omega⟩
            | true =>
              have hkn' : keptOf ((asWaits WB).take (k + 1)) (kl.take (k + 1)) = keptOf ((asWaits WB).take k) (kl.take k) ++ [(ya, all512 yc)] := hkn
              obtain ⟨u, hu⟩ : ∃ u, wr.cell? ⟨gl, ya, none⟩ = some u := by
                rw [hrl.cellAt ya (by omega)]
                have := hrl.1
                exact ⟨_, List.getElem?_eq_getElem (by omega)⟩
              have z3 : wr.frozen? ⟨gl, ya, none⟩ = false := hrl.frozenAt ya
              have a0 : (0 : Int) ≤ (ya : Int) := by omega
              have a1 : (ya : Int) < (N : Int) := by omega
              have hst := hrl.stored ya (.int .u8 (yc.toNat : Int))
              rw [← BS_set] at hst
              have hL' : (L.set ya yc).map all512 = setAll (LB.map all512) (keptOf ((asWaits WB).take (k + 1)) (kl.take (k + 1))) := by
                rw [map_all_set, hL.out, hkn', setAll_snoc]
              have HST := Lib.hid hst.1
              have hgn : w5.grownBy (wr.setCell ⟨gl, ya, none⟩ (.int .u8 (yc.toNat : Int))) (some gl) := ⟨hst.2.os.trans hg.os, hst.2.tape.trans hg.tape, hst.2.output.trans hg.output, Nat.le_trans hg.size hst.2.size, fun q hq hqg => (hst.2.block q (by omega) hqg).trans (hg.block q hq hqg)⟩
              have HGN := Lib.hid hgn
              have HL' := Lib.hid hL'
              clear hst hgn hrl hL hg hL' hkn hkn'
              go_wp2_with fail
              go_region
              all_goals go_wp2_with fail
              all_goals exact ⟨⟨k + 1, _, by go_num, hkl', hkl2, HL'.out, HST.out, ⟨HGN.out.os, HGN.out.tape, HGN.out.output, HGN.out.size, HGN.out.block⟩⟩, by simp [intOf]; omega⟩
          · have hkm : k = min (asWaits WB).length kl.length := by omega
            rw [keptOf_all _ _ hkm, ← hDl4] at hL
            have hglw : w.heap.size ≤ gl := (HRL5.out.lt gl rfl).1
            have hbel6 := HBEL5.out.grown hg HBEL5.out.size (fun b hb => by injection hb with hb; omega)
            have hd6 := HPD5.out.grown hg (fun b hb => by
              injection hb with hb
              subst hb
              exact ⟨hgl5, row_not_sec HRL5.out (by decide) rfl⟩)
            have cr := pReopen_any _ _ d D4 wr hd6 (by have := hfit4.lasts; omega)
            rw [hdead4] at cr
            have hRL6 := Lib.hid hrl
            have hBEL6 := Lib.hid hbel6
            have key : (¬ (k : Int) < (WB.length : Int)) ∨ ((k : Int) < (WB.length : Int) ∧ ¬ (k : Int) < (kl.length : Int)) := by omega
            have hLive : Live D4.again N := ⟨rfl, rfl, hll4⟩
            have hDw6 : D4.again.waits = [] := rfl
            have hDl6 : D4.again.lasts = L.map all512 := hL.out.symm
            have hDn6 : D4.again.done = 0 := rfl
            have hfit6 := hfit4.again
            obtain ⟨D6, hD6⟩ : ∃ D6, D6 = D4.again := ⟨_, rfl⟩
            rw [← hD6] at cr hLive hDw6 hDl6 hDn6 hfit6
            clear hin hkm hrl hbel6 hd6 hg hL hD6 HPD5 HRL5 HRW5 HBEL5 hDl4 hgl5
            rcases key with i2 | ⟨i2, i2'⟩
            all_goals
              go_wp2_with fail
              refine cr.mono ?_
              rintro e w7 ⟨hb7, hq7⟩
              rw [if_pos trivial] at hq7
              obtain ⟨x, rfl, hx7⟩ := hq7
              have hs7 := hb7.size
              have hbel7 := hBEL6.out.trans (Joins.below_le hb7 hBEL6.out.size)
              have hRL7 : w7.ownsRow w.heap.size 5 1 (.slice (some ⟨gl, 0, none⟩) N N) N (BS L) := row_same hRL6.out fun b hb => hb7.block b (hRL6.out.lt b hb).2
              have cw := pWaits_any _ _ x D6 w7 hx7
              have cdn := pDone_any _ _ x D6 w7 hx7
              have cdd := pDead_any _ _ x D6 w7 hx7
              have cln := pLen_any _ _ x D6 w7 hx7
              rw [hDw6] at cw
              rw [hDn6] at cdn
              rw [hLive.dead] at cdd
              rw [hLive.lasts] at cln
              have HX7 := Lib.hid hx7
              have HRL7 := Lib.hid hRL7
              have HBEL7 := Lib.hid hbel7
              clear hx7 hRL7 hbel7 hb7 hRL6 hBEL6 cr
              go_wp2_with fail
              refine cw.mono ?_
              rintro e w8 ⟨rfl, rfl⟩
              clear cw
              go_wp2_with fail
              refine cdn.mono ?_
              rintro e w8 ⟨rfl, rfl⟩
              clear cdn
              go_wp2_with fail
              refine cdd.mono ?_
              rintro e w8 ⟨rfl, rfl⟩
              clear cdd
              go_wp2_with fail
              refine cln.mono ?_
              rintro e w8 ⟨rfl, rfl⟩
              clear cln
              go_wp2_with fail
              go_loopw [16, 17, 18, 19] (fun i _ _ _ wr => ∃ j : Nat, i = .int .i64 j ∧ j ≤ N ∧ Below w7.heap.size w7 wr) (fun i _ _ _ _ => N - (intOf i).toNat)
              case atStart => exact ⟨0, rfl, by omega, Below.refl _ _⟩
              case round =>
                obtain ⟨t, rfl, ht, hbx⟩ := hrel
                have hsx := hbx.size
                by_cases htN : t < N
                · have t1 : (t : Int) < (N : Int) := by omega
                  have t0 : (0 : Int) ≤ (t : Int) := by omega
                  have hLl : L.length = N := by
                    have h := hLive.lasts
                    rw [hDl6, List.length_map] at h
                    exact h
                  have hLt : L[t]? = some (L[t]'(by omega)) := List.getElem?_eq_getElem (by omega)
                  obtain ⟨c, hc⟩ : ∃ c, c = L[t]'(by omega) := ⟨_, rfl⟩
                  rw [← hc] at hLt
                  have hlk : look D6.lasts D6.waits t = all512 c := by
                    rw [hDw6, hDl6]
                    show (L.map all512).getD t [] = _
                    rw [List.getD, List.getElem?_map, hLt]
                    rfl
                  have hxr : PD wr _ _ x D6 := HX7.out.kept (fun _ h => h) (fun _ h => h) (fun b hb _ => hbx.block b hb) (fun b _ _ hb => hbx.block b hb)
                  have crd := pRead_any _ _ x D6 (t : Int) wr hxr hfit6.ok (by have := hfit6.lasts; omega)
                  rw [hLive.read_eq htN, hlk] at crd
                  have kl7 : w7.cell? ⟨gl, t, none⟩ = some (.int .u8 (c.toNat : Int)) := by
                    rw [HRL7.out.cellAt t (by omega)]
                    unfold BS
                    rw [List.getElem?_map, hLt]
                    rfl
                  have hgl7 := (HRL7.out.lt gl rfl).2
                  clear hc hLt hlk hxr hLl
                  go_wp2_with fail
                  refine crd.mono ?_
                  rintro e w8 ⟨v8, n8, rfl, rfl, ho8, hb8⟩
                  obtain ⟨g8, cap8, rfl, hg8, hg8', hc8⟩ := own_at ho8
                  have hs8 := hb8.size
                  have hbel8 : Below w7.heap.size w7 w8 := hbx.trans (Joins.below_le hb8 hsx)
                  have HC8 := Lib.hid hc8
                  clear ho8 hc8 crd
                  go_wp2_with fail
                  go_loopw [19] (fun i wr => ∃ k : Nat, i = .int .i64 k ∧ k ≤ 512 ∧ Below w8.heap.size w8 wr) (fun i _ => 512 - (intOf i).toNat)
                  case atStart => exact ⟨0, rfl, by omega, Below.refl _ _⟩
                  case round =>
                    obtain ⟨r, rfl, hr, hby⟩ := hrel
                    by_cases hr5 : r < 512
                    · have r1 : (r : Int) < 512 := by omega
                      have r0 : (0 : Int) ≤ (r : Int) := by omega
                      have j1 : wr.cell? ⟨g8, r, none⟩ = some (.int .u8 (c.toNat : Int)) := (hby.cell (p := ⟨g8, r, none⟩) hg8').trans (HC8.out r hr5)
                      have j2 : wr.cell? ⟨gl, t, none⟩ = some (.int .u8 (c.toNat : Int)) := (hby.cell (p := ⟨gl, t, none⟩) (show gl < w8.heap.size by omega)).trans ((hbel8.cell (p := ⟨gl, t, none⟩) hgl7).trans kl7)
                      go_wp2_with fail
                      go_region
                      all_goals go_wp2_with fail
                      all_goals exact ⟨⟨r + 1, by go_num, hr5, hby.drew⟩, by simp [intOf]; omega⟩
                    · have r1 : ¬ (r : Int) < 512 := by omega
                      have hbel9 := hbel8.trans (Joins.below_le hby (by omega))
                      go_wp2_with fail
                      exact ⟨⟨t + 1, by go_num, htN, hbel9⟩, by simp [intOf]; omega⟩
                · have t1 : ¬ (t : Int) < (N : Int) := by omega
                  have hend := HBEL7.out.trans (Joins.below_le hbx HBEL7.out.size)
                  go_wp2_with fail
                  go_ret
                  exact ⟨rfl, hend⟩
end Go.Proofs.Ythchnnddnjibmaa
