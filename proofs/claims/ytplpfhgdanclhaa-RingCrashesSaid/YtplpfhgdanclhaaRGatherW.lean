/-
  The program's ring: gather, walked. No statement is proved here. No condition.
-/
import Derived.Test.YtplpfhgdanclhaaRGather
namespace Go.Proofs.Ytplpfhgdanclhaa
open Go.RowKit

theorem pgnext {w wr : World} {r q : Nat} {R : RG} {S : List (List UInt8)} {N : Nat → Prop} {a b g n : Nat} {v5 v6 : Value} {n5 n6 : Nat} {xs : List Value} {L5 : List (List UInt8)} {L6 : List UInt8} {last : Nat}
    (h : GSt w wr r q R S N a b g n v5 v6 n5 n6 xs L5 L6 last) (ha : w.heap.size ≤ a) (hc : 1 ≤ S.length) (hl : S.length ≤ 65536) (hn : n < 9223372036854775806) :
    Calls Try.prog 63 #[.pointer (some ⟨a, 0, none⟩), .pointer (some ⟨b, 0, none⟩)] wr fun e w' => ∃ o Au nu cu, (thereTo S S.length)[(n + 1) % S.length]? = some o ∧ e = .returned (.tuple #[.agg #[.int .i64 (numO o : Int), .bool (lastO o), .slice Au nu cu], .bool (decide (numO o = n + 1))]) ∧ RdN w' N (.slice Au nu cu) (dataO o) ∧ GSt w w' r q R S N a b g (n + 1) v5 v6 n5 n6 xs L5 L6 last ∧ Kept wr w' (fun x => x = a) := by
  have hL := thereTo_length S S.length
  have hm : (n + 1) % S.length < S.length := Nat.mod_lt _ (by omega)
  have ho := thereTo_get S S.length _ hm
  refine (prun1_any h.run (by omega) (by omega) hn _ (by rw [hL]; exact ho)).mono ?_
  rintro e w' ⟨Au, nu, cu, he, hr, hrs, hk⟩
  exact ⟨_, Au, nu, cu, ho, he, hr, h.step ha hk hrs, hk⟩

/-- what gather's loop keeps, k pieces being gathered -/
def GInv (w wr : World) (r q : Nat) (R : RG) (S : List (List UInt8)) (N : Nat → Prop) (a b g k : Nat) (v5 v6 v8 v9 : Value) : Prop :=
  ∃ (g8 : Nat) (o : Option Pc) (Au : Option Addr) (nu cu : Nat) (xs : List Value) (n5 n6 : Nat), v8 = .pointer (some ⟨g8, 0, none⟩) ∧ v9 = .bool (decide (numO o = R.base + k + 1)) ∧
    (thereTo S S.length)[(R.base + k + 1) % S.length]? = some o ∧ wr.heap[g8]? = some (.cells #[.int .i64 (numO o : Int), .bool (lastO o), .slice Au nu cu] 81 (0, 0)) ∧ RdN wr N (.slice Au nu cu) (dataO o) ∧
    (run S k (R.base + 1)).length = k ∧ GSt w wr r q R S N a b g (R.base + k + 1) v5 v6 n5 n6 xs (whole [] (run S k (R.base + 1))) (rest [] (run S k (R.base + 1))) (lastIn R.base (run S k (R.base + 1)))

set_option maxHeartbeats 4000000 in
set_option maxRecDepth 100000 in
theorem pgather_any {w : World} {r q : Nat} {R : RG} {S : List (List UInt8)} {N : Nat → Prop} {g : Nat} (h : RgAt w r q R) (hR : R.fine) (hlast : R.last = R.base) (hS : S.length = R.count) (ht : ThereAt w N g (thereTo S S.length)) (hN : ∀ x, N x → x < w.heap.size ∧ x ≠ r) :
    Calls Try.prog 36 #[.pointer (some ⟨r, 0, none⟩), .slice (some ⟨g, 0, none⟩) R.count R.count] w fun e w' => ∃ v, e = .returned v ∧ LLN w' (fun x => w.heap.size ≤ x) (fun x => w.heap.size ≤ x) v (whole [] (run S S.length (R.base + 1))) ∧ RgAt w' r q { R with last := lastIn R.base (run S S.length (R.base + 1)) } ∧ Kept w w' (fun x => x = r) := by
  have i1 := hR.room
  have i2 := hR.pos
  have i3 := hR.most
  have i4 := hR.up
  have hrun := prun_any g N (thereTo S S.length) R.base w ht (fun x hx => (hN x hx).1)
  rw [thereTo_length, hS] at hrun
  have c3 := h.c3
  have lr := h.lt
  have H := Lib.hid h
  have HT := Lib.hid ht
  have HN := Lib.hid hN
  have HLAST := Lib.hid hlast
  have hgl : g < w.heap.size := by obtain ⟨C, h1, -⟩ := ht; exact (Array.getElem?_eq_some_iff.1 h1).1
  have HGL := Lib.hid hgl
  have HS := Lib.hid hS
  have hbase : R.base ≤ 4611686018427387904 := by omega
  have hSc : 1 ≤ S.length := by omega
  have hSl : S.length ≤ 65536 := by omega
  clear h ht hN hR hlast hS hgl
  go_enter Try.func36, Try.ntmps36
  go_wp2_with fail
  refine hrun.mono ?_
  rintro e w1 ⟨a, b, rfl, hst, la, lb, hb1⟩
  clear hrun
  have hring1 : RgAt w1 r q { R with last := R.base } := by
    have := H.out.kept (hb1.block r lr)
    have e : ∀ l, l = R.last → (RG.mk R.first R.count R.base l R.top) = R := fun l hl => by subst hl; rfl
    rw [show ({ R with last := R.base } : RG) = R from e _ HLAST.out.symm]
    exact this
  have hs0 : GSt w w1 r q R S N a b g R.base (.slice none 0 0) (.slice none 0 0) 0 0 [] [] [] R.base :=
    ⟨by rw [HS.out]; exact hst, World.ownsRow_nil _ _ _ _, World.ownsRow_nil _ _ _ _, Els.nil _ _, hring1, Kept.ofBelow hb1⟩
  have hnx := pgnext hs0 la hSc hSl (by omega)
  clear hst hb1 hring1 hs0
  go_wp2_with fail
  go_at_call 63
  refine hnx.mono ?_
  rintro e w2 ⟨o, Au, nu, cu, ho, rfl, hrd, hg2, hk2⟩
  clear hnx
  obtain ⟨w3, hw3⟩ : ∃ w3, w3 = w2.alloc (.cells #[.int .i64 (numO o : Int), .bool (lastO o), .slice Au nu cu] 81) := ⟨_, rfl⟩
  have hb3 : Below w2.heap.size w2 w3 := by rw [hw3]; exact (Below.refl _ _).alloc (Nat.le_refl _) _
  have hinv0 : GInv w w3 r q R S N a b g 0 (.slice none 0 0) (.slice none 0 0) (.pointer (some ⟨w2.heap.size, 0, none⟩)) (.bool (decide (numO o = R.base + 1))) :=
    ⟨w2.heap.size, o, Au, nu, cu, [], 0, 0, rfl, rfl, ho, by rw [hw3]; exact heap_alloc_new _ _, hrd.kept (fun _ h _ => h) hb3.size (fun x _ hx => hb3.block x hx), rfl, hg2.grow hb3⟩
  have HI0 := Lib.hid hinv0
  have HW3 := Lib.hid hw3
  clear hinv0 hg2 hrd hk2 ho hb3 hw3
  go_wp2_with fail
  rw [← HW3.out]
  clear HW3
  go_loopw [5, 6, 8, 9] (fun v5 v6 v8 v9 wr => ∃ k : Nat, k ≤ S.length ∧ Hid (GInv w wr r q R S N a b g k v5 v6 v8 v9)) (fun _ _ _ _ wr => R.base + S.length + 2 - leftOf wr a)
  case atStart => exact ⟨0, Nat.zero_le _, HI0⟩
  case round =>
    obtain ⟨k, hk, hinv⟩ := hrel
    clear HI0
    obtain ⟨g8, o8, Au8, nu8, cu8, xs, n5, n6, rfl, rfl, ho8, hg8, hrd8, hlen, hgst⟩ := hinv.out
    have hpa := pcAt_there (S := S) (n := R.base + k + 1) (by omega) (by omega) ho8
    have hsn := run_snoc S k (R.base + 1) hlen
    rw [show R.base + 1 + k = R.base + k + 1 by omega, hpa] at hsn
    have hrun := hgst.run.ca
    by_cases hok : numO o8 = R.base + k + 1
    · rw [if_pos hok] at hsn hpa
      rw [decide_eq_true hok]
      cases o8 with
      | none => exact absurd hok (by show ¬ 0 = _; omega)
      | some p =>
        have hkl : k < S.length := by
          rcases Nat.lt_or_ge k S.length with h1 | h1
          · exact h1
          · exfalso
            obtain rfl : k = S.length := by omega
            have := run_full (by omega) hlen
            rw [show R.base + 1 + S.length = R.base + S.length + 1 by omega, hpa] at this
            cases this
        have hsn : run S (k + 1) (R.base + 1) = run S k (R.base + 1) ++ [p] := hsn
        have hpdl : p.data.length ≤ 501 := (pcOf_fine (pcAt_of hpa)).2.2.2
        have hrl : (rest [] (run S k (R.base + 1))).length ≤ 501 * 65536 := by
          have := rest_length (run S k (R.base + 1)) (fun x hx => by
            obtain ⟨i, hi, rfl⟩ := List.getElem_of_mem hx
            exact (pcOf_fine (pcAt_of (run_get S k (R.base + 1) i _ (List.getElem?_eq_getElem hi)))).2.2.2) []
          rw [List.length_nil, hlen] at this
          omega
        have hwl : (whole [] (run S k (R.base + 1))).length ≤ 65536 := by
          have := whole_length (run S k (R.base + 1)) []
          omega
        obtain ⟨PS, hPS⟩ : ∃ PS, PS = run S k (R.base + 1) := ⟨_, rfl⟩
        rw [← hPS] at hsn hrl hwl hgst hlen
        have hsn2 : (run S (k + 1) (R.base + 1)).length = k + 1 := by rw [hsn, List.length_append, hlen]; rfl
        have HSN := Lib.hid hsn
        have HSN2 := Lib.hid hsn2
        obtain ⟨A6, c6, rfl⟩ := own_slice hgst.row
        obtain ⟨A5, c5, rfl⟩ := own_slice hgst.rows
        have hn6 := own_count hgst.row
        have hn5 : n5 = (whole [] PS).length := by have := hgst.rows.1; have := hgst.els.1; omega
        subst hn5
        subst hn6
        have p0 : wr.cell? ⟨g8, 0, none⟩ = some (.int .i64 (p.n : Int)) := (row7 hg8).1 0
        have p1 : wr.cell? ⟨g8, 1, none⟩ = some (.bool p.last) := (row7 hg8).1 1
        have p2 : wr.cell? ⟨g8, 2, none⟩ = some (.slice Au8 nu8 cu8) := (row7 hg8).1 2
        have hrow8 : RowAt wr (.slice Au8 nu8 cu8) p.data.length 1 (BS p.data) := Rd.rowAt hrd8.rd
        have hszw : w.heap.size ≤ wr.heap.size := hgst.kept.size
        have HG8 := Lib.hid hg8
        have HROW8 := Lib.hid hrow8
        have HGST := Lib.hid hgst
        have HRUN := Lib.hid hrun
        have HOK : Hid (p.n = R.base + k + 1) := Lib.hid hok
        obtain ⟨iu, hiu, hzu0, hzu1, hzu2⟩ := info_parts info_U8
        clear hg8 hrow8 hrd8 hgst hrun hPS hsn hsn2 hok hinv ho8 hpa hlen
        go_upto_region 8 with (at_builtin; go_must (refine wpList_appAt rfl (.tmp 27) (.tmp 29) 39 rfl w.heap.size 5 iu _ 1 1 Try.underlying39 hiu hzu0 hzu1 hzu2 rfl (by decide) _ _ (rest [] PS).length (BS (rest [] PS)) p.data.length (BS p.data) rfl rfl HGST.out.row HROW8.out (BS_one _) (by unfold maxLen; omega) (by omega) hszw ?_; intro A7 c7 w7 ho7 hg7 hat7))
        have hg87 : w7.heap[g8]? = some (.cells #[.int .i64 (p.n : Int), .bool p.last, .slice Au8 nu8 cu8] 81 (0, 0)) := by
          have hgl8 : g8 < wr.heap.size := (Array.getElem?_eq_some_iff.1 HG8.out).1
          refine (hg7.block g8 hgl8 (fun e => ?_)).trans HG8.out
          obtain ⟨cur, hcur⟩ := row_type HGST.out.row e.symm
          have h3 := hcur.symm.trans HG8.out
          injection h3 with h3
          injection h3 with _ h3
          exact absurd h3 (by decide)
        rw [← BS_append] at ho7
        have hG7 := HGST.out.more hszw (fun x hx => (HN.out x hx).1) ho7 hg7 hat7
        have hsz7 := hg7.size
        have HG87 := Lib.hid hg87
        have HG7 := Lib.hid hG7
        have HAT := Lib.hid hat7
        clear hg87 ho7 hG7 hg7 hat7 p0 p1 p2
        cases hbl : p.last with
        | false =>
          have G8T : Hid (w7.heap[g8]? = some (.cells #[.int .i64 (p.n : Int), .bool false, .slice Au8 nu8 cu8] 81 (0, 0))) := by rw [← hbl]; exact HG87
          obtain ⟨wt, hwt⟩ : ∃ wt, wt = w7 := ⟨_, rfl⟩
          have GT : Hid (GSt w wt r q R S N a b g (R.base + k + 1) (.slice A5 (whole [] PS).length c5) (.slice A7 ((rest [] PS).length + p.data.length) c7) (whole [] PS).length ((rest [] PS).length + p.data.length) xs (whole [] (PS ++ [p])) (rest [] (PS ++ [p])) (lastIn R.base (PS ++ [p]))) := by
            rw [whole_snoc, rest_snoc, lastIn_snoc, hbl, hwt]
            exact HG7
          have p1 : w7.cell? ⟨g8, 1, none⟩ = some (.bool false) := (row7 G8T.out).1 1
          have hszt : w.heap.size ≤ wt.heap.size := by rw [hwt]; omega
          clear hbl
          rw [← hwt]
          rw [← hwt] at p1 G8T
          have hgT := GT.out
          have hbx : Below wt.heap.size wt (wt.alloc (.cells #[.int .i64 (p.n : Int), .bool false, .slice Au8 nu8 cu8] 81)) := (Below.refl _ _).alloc (Nat.le_refl _) _
          have hgx := hgT.grow hbx
          have hnx := pgnext hgx la hSc hSl (by omega)
          have hnew := heap_alloc_new wt (.cells #[.int .i64 (p.n : Int), .bool false, .slice Au8 nu8 cu8] 81)
          have hlt0 := leftOf_at hgT.run.ca
          clear hwt
          have q0 : wt.cell? ⟨g8, 0, none⟩ = some (.int .i64 (p.n : Int)) := (row7 G8T.out).1 0
          have q1 : wt.cell? ⟨g8, 1, none⟩ = some (.bool false) := (row7 G8T.out).1 1
          have q2 : wt.cell? ⟨g8, 2, none⟩ = some (.slice Au8 nu8 cu8) := (row7 G8T.out).1 2
          have hszx : (wt.alloc (.cells #[.int .i64 (p.n : Int), .bool false, .slice Au8 nu8 cu8] 81)).heap.size = wt.heap.size + 1 := by simp
          have hkl2 : k + 1 ≤ S.length := hkl
          have HNEW := Lib.hid hnew
          have HSX := Lib.hid hszx
          have hna : wt.heap.size ≠ a := by have := (Array.getElem?_eq_some_iff.1 hgT.run.ca).1; omega
          clear hgT hbx hgx hnew hszx hlt0
          go_wp2_with fail
          go_at_call 63
          refine hnx.mono ?_
          rintro e w9 ⟨o9, Au9, nu9, cu9, ho9, rfl, hrd9, hg9, hk9⟩
          clear hnx q0 q1 q2
          have hn9 : w9.heap[wt.heap.size]? = some (.cells #[.int .i64 (p.n : Int), .bool false, .slice Au8 nu8 cu8] 81 (0, 0)) := (hk9.block _ (by rw [HSX.out]; omega) hna).trans HNEW.out
          have q0 : w9.cell? ⟨wt.heap.size, 0, none⟩ = some (.int .i64 (p.n : Int)) := (row7 hn9).1 0
          have q1 : w9.cell? ⟨wt.heap.size, 1, none⟩ = some (.bool false) := (row7 hn9).1 1
          have q2 : w9.cell? ⟨wt.heap.size, 2, none⟩ = some (.slice Au8 nu8 cu8) := (row7 hn9).1 2
          have z0 := (row7 hn9).2 0
          have z1 := (row7 hn9).2 1
          have z2 := (row7 hn9).2 2
          obtain ⟨W, hW⟩ : ∃ W, W = ((w9.setCell ⟨wt.heap.size, 0, none⟩ (.int .i64 (numO o9 : Int))).setCell ⟨wt.heap.size, 1, none⟩ (.bool (lastO o9))).setCell ⟨wt.heap.size, 2, none⟩ (.slice Au9 nu9 cu9) := ⟨_, rfl⟩
          have hoW : ∀ x, x ≠ wt.heap.size → W.heap[x]? = w9.heap[x]? := fun x hx => by rw [hW, set_other hx, set_other hx, set_other hx]
          have hsW : W.heap.size = w9.heap.size := by rw [hW]; simp
          have hgW : W.heap[wt.heap.size]? = some (.cells #[.int .i64 (numO o9 : Int), .bool (lastO o9), .slice Au9 nu9 cu9] 81 (0, 0)) := by
            rw [hW, Joins.block_setCell (Joins.block_setCell (Joins.block_setCell hn9 _) _) _]
            simp
          have hKW : Kept w9 W (fun x => x = wt.heap.size) := by
            rw [hW]
            exact ((Kept.setCell w9 ⟨wt.heap.size, 0, none⟩ _ (fun x => x = wt.heap.size) rfl).trans (Kept.setCell _ ⟨wt.heap.size, 1, none⟩ _ (fun x => x = wt.heap.size) rfl) (fun _ h => .inl h)).trans (Kept.setCell _ ⟨wt.heap.size, 2, none⟩ _ (fun x => x = wt.heap.size) rfl) (fun _ h => .inl h)
          have hGW := hg9.aside hn9 (by have := HGL.out; omega) (fun x hx => by have := (HN.out x hx).1; omega) hszt hKW
          have hrW := hrd9.kept (w' := W) (N' := N) (fun _ h _ => h) (by rw [hsW]; exact Nat.le_refl _) (fun x hx hl => hoW x (by have := (HN.out x hx).1; omega))
          have hinvW : GInv w W r q R S N a b g (k + 1) (.slice A5 (whole [] PS).length c5) (.slice A7 ((rest [] PS).length + p.data.length) c7) (.pointer (some ⟨wt.heap.size, 0, none⟩)) (.bool (decide (numO o9 = R.base + k + 1 + 1))) := by
            refine ⟨wt.heap.size, o9, Au9, nu9, cu9, xs, (whole [] PS).length, ((rest [] PS).length + p.data.length), rfl, by rw [show R.base + (k + 1) + 1 = R.base + k + 1 + 1 by omega], by rw [show R.base + (k + 1) + 1 = R.base + k + 1 + 1 by omega]; exact ho9, hgW, hrW, HSN2.out, ?_⟩
            rw [HSN.out, show R.base + (k + 1) + 1 = R.base + k + 1 + 1 by omega]
            exact hGW
          have HINVW := Lib.hid hinvW
          have hleW : R.base + S.length + 2 - leftOf W a < R.base + S.length + 2 - leftOf wr a := by
            rw [leftOf_at hGW.run.ca, leftOf_at HRUN.out]
            omega
          have HLEW := Lib.hid hleW
          clear hinvW hleW hgW hoW hn9 hg9 hk9 hrd9 ho9 hGW hrW hsW
          go_wp2_with fail
          rw [← hW]
          exact ⟨⟨k + 1, hkl2, HINVW⟩, HLEW.out⟩
        | true =>
          have G87 : Hid (w7.heap[g8]? = some (.cells #[.int .i64 (p.n : Int), .bool true, .slice Au8 nu8 cu8] 81 (0, 0))) := by rw [← hbl]; exact HG87
          obtain ⟨v6, hv6⟩ : ∃ v6, v6 = Value.slice A7 ((rest [] PS).length + p.data.length) c7 := ⟨_, rfl⟩
          obtain ⟨w8, hw8⟩ : ∃ w8, w8 = w7.alloc (.cells #[v6] 39) := ⟨_, rfl⟩
          have hb8 : Below w7.heap.size w7 w8 := by rw [hw8]; exact (Below.refl _ _).alloc (Nat.le_refl _) _
          have hG8 := HG7.out.grow hb8
          have hrow8 : RowAt w8 (.slice (some ⟨w7.heap.size, 0, none⟩) 1 1) 1 1 [v6] := by
            rw [hw8]
            exact RowAt.of_own (World.ownsRow_lit (base := 0) (e := 39) (size := 1) w7 #[v6] 1 (Nat.zero_le _) (by unfold maxLen; omega) rfl)
          have hg88 := (hb8.block g8 (Array.getElem?_eq_some_iff.1 G87.out).1).trans G87.out
          rw [hw8, hv6] at hrow8 hG8
          have hsz8 : w.heap.size ≤ (w7.alloc (.cells #[Value.slice A7 ((rest [] PS).length + p.data.length) c7] 39)).heap.size := by simp; omega
          rw [hw8, hv6] at hg88
          have p1 : w7.cell? ⟨g8, 1, none⟩ = some (.bool true) := (row7 G87.out).1 1
          have HROW8 := Lib.hid hrow8
          have HG8 := Lib.hid hG8
          have HG88 := Lib.hid hg88
          obtain ⟨ib, hib, hzb0, hzb1, hzb2⟩ := info_parts info_BB
          have HBL := Lib.hid hbl
          clear hrow8 hG8 hg88 hb8 hw8 hv6 hbl
          go_upto_region 10 with (at_builtin; go_must (refine wpList_appAt rfl (.tmp 33) (.tmp 35) 28 rfl w.heap.size 39 ib _ 1 24 Try.underlying28 hib hzb0 hzb1 hzb2 rfl (by decide) _ _ (whole [] PS).length xs 1 [Value.slice A7 ((rest [] PS).length + p.data.length) c7] rfl rfl HG8.out.rows HROW8.out (fun u hu => by simp at hu; rw [hu]; rfl) (by unfold maxLen; omega) (by omega) hsz8 ?_; intro A9 c9 w9 ho9 hg9 hat9))
          have hG9 := HG8.out.push (fun x hx => (HN.out x hx).1) rfl ho9 hg9
          have hsz9 := hg9.size
          have hg89 : w9.heap[g8]? = some (.cells #[.int .i64 (p.n : Int), .bool true, .slice Au8 nu8 cu8] 81 (0, 0)) := by
            refine (hg9.block g8 (Array.getElem?_eq_some_iff.1 HG88.out).1 (fun e => ?_)).trans HG88.out
            obtain ⟨cur, hcur⟩ := row_type HG8.out.rows e.symm
            have h3 := hcur.symm.trans HG88.out
            injection h3 with h3
            injection h3 with _ h3
            exact absurd h3 (by decide)
          have q0 : w9.cell? ⟨g8, 0, none⟩ = some (.int .i64 (p.n : Int)) := (row7 hg89).1 0
          have q4 := hG9.ring.c4
          have z4 := hG9.ring.fz 4
          obtain ⟨wt, hwt⟩ : ∃ wt, wt = w9.setCell ⟨r, 4, none⟩ (.int .i64 (p.n : Int)) := ⟨_, rfl⟩
          have hGt := hG9.noted (fun x hx => (HN.out x hx).2) p.n
          rw [← hwt] at hGt
          have hgr : g8 ≠ r := by
            rintro rfl
            have h3 := hG9.ring.symm.trans hg89
            injection h3 with h3
            injection h3 with _ h3
            exact absurd h3 (by decide)
          have G8T : Hid (wt.heap[g8]? = some (.cells #[.int .i64 (p.n : Int), .bool true, .slice Au8 nu8 cu8] 81 (0, 0))) := by rw [hwt, set_other hgr]; exact hg89
          have GT : Hid (GSt w wt r q R S N a b g (R.base + k + 1) (.slice A9 ((whole [] PS).length + 1) c9) (.slice none 0 0) ((whole [] PS).length + 1) 0 (xs ++ [Value.slice A7 ((rest [] PS).length + p.data.length) c7]) (whole [] (PS ++ [p])) (rest [] (PS ++ [p])) (lastIn R.base (PS ++ [p]))) := by
            rw [whole_snoc, rest_snoc, lastIn_snoc, HBL.out, if_pos rfl, if_pos rfl, if_pos rfl]
            exact hGt
          have hszt : w.heap.size ≤ wt.heap.size := by rw [hwt]; simp at hsz9 ⊢; omega
          have HWT := Lib.hid hwt
          clear hG9 hGt hg89 hgr ho9 hg9 hat9 HG8 HG88 HROW8 p1 hwt
          go_upto_region 11 with fail
          rw [← HWT.out]
          have hwt := HWT.out
          clear q0 q4 z4
          have hgT := GT.out
          have hbx : Below wt.heap.size wt (wt.alloc (.cells #[.int .i64 (p.n : Int), .bool true, .slice Au8 nu8 cu8] 81)) := (Below.refl _ _).alloc (Nat.le_refl _) _
          have hgx := hgT.grow hbx
          have hnx := pgnext hgx la hSc hSl (by omega)
          have hnew := heap_alloc_new wt (.cells #[.int .i64 (p.n : Int), .bool true, .slice Au8 nu8 cu8] 81)
          have hlt0 := leftOf_at hgT.run.ca
          clear hwt
          have q0 : wt.cell? ⟨g8, 0, none⟩ = some (.int .i64 (p.n : Int)) := (row7 G8T.out).1 0
          have q1 : wt.cell? ⟨g8, 1, none⟩ = some (.bool true) := (row7 G8T.out).1 1
          have q2 : wt.cell? ⟨g8, 2, none⟩ = some (.slice Au8 nu8 cu8) := (row7 G8T.out).1 2
          have hszx : (wt.alloc (.cells #[.int .i64 (p.n : Int), .bool true, .slice Au8 nu8 cu8] 81)).heap.size = wt.heap.size + 1 := by simp
          have hkl2 : k + 1 ≤ S.length := hkl
          have HNEW := Lib.hid hnew
          have HSX := Lib.hid hszx
          have hna : wt.heap.size ≠ a := by have := (Array.getElem?_eq_some_iff.1 hgT.run.ca).1; omega
          clear hgT hbx hgx hnew hszx hlt0
          go_wp2_with fail
          go_at_call 63
          refine hnx.mono ?_
          rintro e w9 ⟨o9, Au9, nu9, cu9, ho9, rfl, hrd9, hg9, hk9⟩
          clear hnx q0 q1 q2
          have hn9 : w9.heap[wt.heap.size]? = some (.cells #[.int .i64 (p.n : Int), .bool true, .slice Au8 nu8 cu8] 81 (0, 0)) := (hk9.block _ (by rw [HSX.out]; omega) hna).trans HNEW.out
          have q0 : w9.cell? ⟨wt.heap.size, 0, none⟩ = some (.int .i64 (p.n : Int)) := (row7 hn9).1 0
          have q1 : w9.cell? ⟨wt.heap.size, 1, none⟩ = some (.bool true) := (row7 hn9).1 1
          have q2 : w9.cell? ⟨wt.heap.size, 2, none⟩ = some (.slice Au8 nu8 cu8) := (row7 hn9).1 2
          have z0 := (row7 hn9).2 0
          have z1 := (row7 hn9).2 1
          have z2 := (row7 hn9).2 2
          obtain ⟨W, hW⟩ : ∃ W, W = ((w9.setCell ⟨wt.heap.size, 0, none⟩ (.int .i64 (numO o9 : Int))).setCell ⟨wt.heap.size, 1, none⟩ (.bool (lastO o9))).setCell ⟨wt.heap.size, 2, none⟩ (.slice Au9 nu9 cu9) := ⟨_, rfl⟩
          have hoW : ∀ x, x ≠ wt.heap.size → W.heap[x]? = w9.heap[x]? := fun x hx => by rw [hW, set_other hx, set_other hx, set_other hx]
          have hsW : W.heap.size = w9.heap.size := by rw [hW]; simp
          have hgW : W.heap[wt.heap.size]? = some (.cells #[.int .i64 (numO o9 : Int), .bool (lastO o9), .slice Au9 nu9 cu9] 81 (0, 0)) := by
            rw [hW, Joins.block_setCell (Joins.block_setCell (Joins.block_setCell hn9 _) _) _]
            simp
          have hKW : Kept w9 W (fun x => x = wt.heap.size) := by
            rw [hW]
            exact ((Kept.setCell w9 ⟨wt.heap.size, 0, none⟩ _ (fun x => x = wt.heap.size) rfl).trans (Kept.setCell _ ⟨wt.heap.size, 1, none⟩ _ (fun x => x = wt.heap.size) rfl) (fun _ h => .inl h)).trans (Kept.setCell _ ⟨wt.heap.size, 2, none⟩ _ (fun x => x = wt.heap.size) rfl) (fun _ h => .inl h)
          have hGW := hg9.aside hn9 (by have := HGL.out; omega) (fun x hx => by have := (HN.out x hx).1; omega) hszt hKW
          have hrW := hrd9.kept (w' := W) (N' := N) (fun _ h _ => h) (by rw [hsW]; exact Nat.le_refl _) (fun x hx hl => hoW x (by have := (HN.out x hx).1; omega))
          have hinvW : GInv w W r q R S N a b g (k + 1) (.slice A9 ((whole [] PS).length + 1) c9) (.slice none 0 0) (.pointer (some ⟨wt.heap.size, 0, none⟩)) (.bool (decide (numO o9 = R.base + k + 1 + 1))) := by
            refine ⟨wt.heap.size, o9, Au9, nu9, cu9, xs ++ [Value.slice A7 ((rest [] PS).length + p.data.length) c7], (whole [] PS).length + 1, 0, rfl, by rw [show R.base + (k + 1) + 1 = R.base + k + 1 + 1 by omega], by rw [show R.base + (k + 1) + 1 = R.base + k + 1 + 1 by omega]; exact ho9, hgW, hrW, HSN2.out, ?_⟩
            rw [HSN.out, show R.base + (k + 1) + 1 = R.base + k + 1 + 1 by omega]
            exact hGW
          have HINVW := Lib.hid hinvW
          have hleW : R.base + S.length + 2 - leftOf W a < R.base + S.length + 2 - leftOf wr a := by
            rw [leftOf_at hGW.run.ca, leftOf_at HRUN.out]
            omega
          have HLEW := Lib.hid hleW
          clear hinvW hleW hgW hoW hn9 hg9 hk9 hrd9 ho9 hGW hrW hsW
          go_wp2_with fail
          rw [← hW]
          exact ⟨⟨k + 1, hkl2, HINVW⟩, HLEW.out⟩
    · rw [if_neg hok] at hpa
      rw [decide_eq_false hok]
      have hstop := run_stop S k (R.base + 1) (S.length - k) hlen (by rw [show R.base + 1 + k = R.base + k + 1 by omega]; exact hpa)
      rw [show k + (S.length - k) = S.length by omega] at hstop
      have HST := Lib.hid hstop
      have HGST := Lib.hid hgst
      clear hsn hpa hinv hg8 hrd8 hrun hgst hstop ho8
      go_wp2_with fail
      go_ret
      rw [HST.out]
      exact ⟨_, rfl, LLN.own HGST.out.rows (HGST.out.els.kept (fun x hx _ => hx.1) (Nat.le_refl _) (fun _ _ _ => rfl)) (fun x hx => (HGST.out.rows.lt x hx).1), HGST.out.ring, HGST.out.kept⟩
end Go.Proofs.Ytplpfhgdanclhaa
