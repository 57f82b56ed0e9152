/-
  DiskApart, walked: a copy goes its own way. No condition but that its arguments lie in memory.
-/
import Derived.Test.YthchnnddnjibmaaPuts
namespace Go.Proofs.Ythchnnddnjibmaa
open Go.RowKit Go.Maps

/-- a disk that lives, without a fuse, of n sectors -/
structure Live (D : DS) (n : Nat) : Prop where
  dead : D.dead = false
  fuse : D.fuse = none
  lasts : D.lasts.length = n
theorem Live.new (n : Nat) : Live (DS.new n) n := ⟨rfl, rfl, List.length_replicate⟩
theorem Live.write_eq {D : DS} {n : Nat} (h : Live D n) {i : Nat} (hi : i < n) {s : List UInt8} (hs : s.length = 512) : D.write (i : Int) s = (0, (D.wrote i s).tick) := by
  unfold DS.write inside
  rw [h.dead, h.fuse, h.lasts, decide_eq_true hs, decide_eq_true (show (0 : Int) ≤ (i : Int) by omega), decide_eq_true (show (i : Int) < (n : Int) by omega), Int.toNat_natCast]
  rfl
theorem Live.flush_eq {D : DS} {n : Nat} (h : Live D n) : D.flush = (0, D.tick.flushed) := by
  unfold DS.flush
  rw [h.dead, h.fuse]
  rfl
theorem Live.wrote {D : DS} {n : Nat} (h : Live D n) (i : Nat) (s : List UInt8) : Live (D.wrote i s).tick n := ⟨h.dead, by unfold DS.tick DS.wrote; simp [h.fuse], h.lasts⟩
theorem Live.flushed {D : DS} {n : Nat} (h : Live D n) : Live D.tick.flushed n := ⟨h.dead, by unfold DS.flushed DS.tick; simp [h.fuse], by unfold DS.flushed; rw [setAll_length]; exact h.lasts⟩
theorem Live.put {D : DS} {n : Nat} (h : Live D n) {m : Nat} (hm : 0 < m) (hmn : m ≤ n) (x : PutT) : Live (D.put m x) n := by
  have hi : x.1.toNat % m < n := Nat.lt_of_lt_of_le (Nat.mod_lt _ hm) hmn
  unfold DS.put
  rw [h.write_eq hi (all512_length _)]
  split
  · rw [(h.wrote _ _).flush_eq]
    exact (h.wrote _ _).flushed
  · exact h.wrote _ _
theorem Live.puts {D : DS} {n : Nat} (h : Live D n) {m : Nat} (hm : 0 < m) (hmn : m ≤ n) (l : List PutT) : Live (D.puts m l) n := by
  unfold DS.puts
  induction l generalizing D with
  | nil => exact h
  | cons x l ih => exact ih (h.put hm hmn x)
theorem Live.read_eq {D : DS} {n : Nat} (h : Live D n) {i : Nat} (hi : i < n) : D.read (i : Int) = (0, look D.lasts D.waits i) := by
  unfold DS.read inside
  rw [h.dead, h.lasts, decide_eq_true (show (0 : Int) ≤ (i : Int) by omega), decide_eq_true (show (i : Int) < (n : Int) by omega), Int.toNat_natCast]
  rfl

/-- what the sectors read as, as a row of texts -/
def sees (D : DS) (j : Nat) : List (List UInt8) := (List.range j).map fun i => look D.lasts D.waits i
theorem sees_length (D : DS) (j : Nat) : (sees D j).length = j := by unfold sees; simp
theorem sees_snoc (D : DS) (j : Nat) : sees D (j + 1) = sees D j ++ [look D.lasts D.waits j] := by unfold sees; rw [List.range_succ, List.map_append]; rfl
theorem sees_get (D : DS) {j i : Nat} (h : i < j) : (SS (sees D j))[i]? = some (.string ⟨(look D.lasts D.waits i).toArray⟩) := by
  unfold SS sees
  rw [List.getElem?_map, List.getElem?_map, List.getElem?_range h]
  rfl

set_option maxHeartbeats 8000000 in
set_option maxRecDepth 100000 in
theorem apart_walk (l m : List PutT) (a b : Value) (w : World) (ha : RdP w w.heap.size a l) (hb : RdP w w.heap.size b m) (hl : l.length ≤ 9223372036854775807) (hm : m.length ≤ 9223372036854775807) :
    Calls Try.prog 7 #[a, b] w fun e w' => e = .returned (.bool true) ∧ Below w.heap.size w w' := by
  have HA := Lib.hid ha
  have HB := Lib.hid hb
  obtain ⟨A, ca, rfl, -⟩ := ha
  obtain ⟨A2, cb, rfl, -⟩ := hb
  by_cases hlong : 80 < l.length ∨ 80 < m.length
  · rcases (show (80 : Int) < (l.length : Int) ∨ (¬ (80 : Int) < (l.length : Int) ∧ (80 : Int) < (m.length : Int)) by omega) with h1 | ⟨h1, h2⟩
    all_goals
      clear hlong
      go_enter Try.func7, Try.ntmps7
      go_wp2_with fail
      refine (works_any w).mono ?_
      rintro e w1 ⟨rfl, hb1⟩
      go_wp2_with fail
      refine (works_any w1).mono ?_
      rintro e w2 ⟨rfl, hb2⟩
      go_wp2_with fail
      go_ret
      exact ⟨rfl, hb1.trans (Joins.below_le hb2 hb1.size)⟩
  · have h1 : ¬ (80 : Int) < (l.length : Int) := by omega
    have h2 : ¬ (80 : Int) < (m.length : Int) := by omega
    have hl80 : l.length ≤ 80 := by omega
    have hm80 : m.length ≤ 80 := by omega
    clear hlong hl hm
    go_enter Try.func7, Try.ntmps7
    go_wp2_with fail
    refine (works_any w).mono ?_
    rintro e w1 ⟨rfl, hb1⟩
    have hs1 := hb1.size
    go_wp2_with fail
    refine (pNew_yes 5 w1 (by omega) (by omega)).mono ?_
    rintro e w2 ⟨hb2, d, rfl, hd2⟩
    have hs2 := hb2.size
    have l2 := hb1.trans (Joins.below_le hb2 hs1)
    have HD2 := Lib.hid hd2
    clear hd2
    go_wp2_with fail
    refine (puts_any w.heap.size (Made w1 w2) Nil d (DS.new 5) _ l w2 HD2.out (In.made hs1) l2.size (HA.out.below l2) 0 (Fit.new (by omega)) (by omega) hl80).mono ?_
    rintro e w3 ⟨rfl, hk3, hd3⟩
    have hs3 := hk3.size
    have hG3 : In w.heap.size w3 (More (Made w1 w2) w2 w3) := (In.made hs1).more l2.size hs3
    have l3 := l2.trans (hk3.belowIn (In.made hs1) l2.size)
    have hlive : Live ((DS.new 5).puts 5 l) 5 := (Live.new 5).puts (by omega) (Nat.le_refl _) l
    have hfit : Fit ((DS.new 5).puts 5 l) 160 := ((Fit.new (n := 5) (by omega)).puts 5 l).mono (by omega)
    obtain ⟨D, hD⟩ : ∃ D, D = (DS.new 5).puts 5 l := ⟨_, rfl⟩
    rw [← hD] at hd3 hlive hfit
    obtain ⟨G, hG⟩ : ∃ G, G = More (Made w1 w2) w2 w3 := ⟨_, rfl⟩
    obtain ⟨S, hS⟩ : ∃ S, S = More Nil w2 w3 := ⟨_, rfl⟩
    rw [← hG] at hd3 hG3
    rw [← hS] at hd3
    have HD3 := Lib.hid hd3
    have HF := Lib.hid hfit
    have HL := Lib.hid hlive
    clear hd3 hfit hlive hD hG hS hk3 hb1 hb2 l2 HD2
    go_wp2_with fail
    refine (pCopy_any G S d D w3 HD3.out (by have := HF.out.waits; omega) (by have := HF.out.lasts; omega)).mono ?_
    rintro e w4 ⟨hb4, c, rfl, hc4⟩
    have hs4 := hb4.size
    have hd4 : PD w4 G S d D := HD3.out.kept (fun _ h => h) (fun _ h => h) (fun b hb _ => hb4.block b hb) (fun b _ _ hb => hb4.block b hb)
    have l4 := l3.trans (Joins.below_le hb4 l3.size)
    have HD4 := Lib.hid hd4
    have HC4 := Lib.hid hc4
    clear hd4 hc4
    go_wp2_with fail
    obtain ⟨is, his, hz0, hz1, hz2⟩ := info_parts info_S
    go_loopw [8, 9, 10, 11] (fun s i _ _ wr => ∃ j : Nat, i = .int .i64 j ∧ j ≤ 5 ∧ Hid (wr.ownsRow w4.heap.size 9 1 s j (SS (sees D j))) ∧ Below w4.heap.size w4 wr) (fun _ i _ _ _ => 5 - (intOf i).toNat)
    case atStart => exact ⟨0, rfl, by omega, World.ownsRow_nil _ _ _ _, Below.refl _ _⟩
    case round =>
      obtain ⟨j, rfl, hj, how, hbr⟩ := hrel
      have hsr := hbr.size
      by_cases hj5 : j < 5
      · have i1 : (j : Int) < 5 := by omega
        have hdr : PD wr G S d D := HD4.out.kept (fun _ h => h) (fun _ h => h) (fun b hb _ => hbr.block b hb) (fun b _ _ hb => hbr.block b hb)
        have hrd := pRead_any G S d D (j : Int) wr hdr HF.out.ok (by have := HF.out.lasts; omega)
        rw [HL.out.read_eq hj5] at hrd
        have hsn := sees_snoc D j
        obtain ⟨T, hT⟩ : ∃ T, T = look D.lasts D.waits j := ⟨_, rfl⟩
        rw [← hT] at hrd hsn
        have HSN := Lib.hid hsn
        clear hT hsn hdr
        go_wp2_with fail
        refine hrd.mono ?_
        rintro e w5 ⟨v5, n5, rfl, rfl, ho5, hb5⟩
        obtain ⟨_, _, hv5, -⟩ := RowAt.of_own ho5
        have hv5' : ∃ A5 c5, v5 = .slice A5 T.length c5 := ⟨_, _, hv5⟩
        clear hv5
        obtain ⟨A5, c5, rfl⟩ := hv5'
        have hconv := run_str (P := Try.prog) 27 5 9 Try.underlying27 Try.underlying5 Try.underlying9 (Rd.own ho5)
        have hs5 := hb5.size
        have how5 : Hid (w5.ownsRow w4.heap.size 9 1 u8 j (SS (sees D j))) := row_same how.out fun b hb => hb5.block b (how.out.lt b hb).2
        have hrow : RowAt (w5.alloc (.cells #[.string ⟨T.toArray⟩] 9)) (.slice (some ⟨w5.heap.size, 0, none⟩) 1 1) 1 1 (SS [T]) := by
          have ho := World.ownsRow_lit (base := 0) (e := 9) (size := 1) w5 #[.string ⟨T.toArray⟩] 1 (Nat.zero_le _) (by unfold maxLen; omega) rfl
          exact RowAt.of_own ho
        have hb5w : Below w4.heap.size w4 w5 := hbr.trans (Joins.below_le hb5 hsr)
        have hbase : w4.heap.size ≤ (w5.alloc (.cells #[.string ⟨T.toArray⟩] 9)).heap.size := by simp; omega
        clear ho5 hrd how
        go_wp2_with (at_builtin; go_must (refine wpList_appG rfl (.tmp 53) (.tmp 56) 60 rfl w4.heap.size 9 is _ 1 16 Try.underlying60 his hz0 hz1 hz2 rfl (by decide) u8 _ j (SS (sees D j)) 1 (SS [T]) rfl rfl (how5.out.alloc _) hrow (SS_one _) (by unfold maxLen; omega) (by omega) hbase ?_; intro v6 w6 ho6 hg6; have hb6 : Below w4.heap.size w4 w6 := (hb5w.alloc hb5w.size _).grown hg6 hbase (fun k hk => (how5.out.lt k hk).1)))
        have ho7 : w6.ownsRow w4.heap.size 9 1 v6 (j + 1) (SS (sees D (j + 1))) := by
          rw [HSN.out]
          unfold SS at ho6 ⊢
          rw [List.map_append]
          exact ho6
        exact ⟨⟨j + 1, by go_num, hj5, ho7, hb6⟩, by simp [intOf]; omega⟩
      · have i1 : ¬ (j : Int) < 5 := by omega
        obtain rfl : j = 5 := by omega
        have hG5 : In w.heap.size wr G := hG3.grow (by omega)
        have hd5 : PD wr G S d D := HD4.out.kept (fun _ h => h) (fun _ h => h) (fun b hb _ => hbr.block b hb) (fun b _ _ hb => hbr.block b hb)
        have hc5 : PD wr (Made w3 w4) S c D := HC4.out.kept (fun _ h => h) (fun _ h => h) (fun b hb _ => hbr.block b hb) (fun b _ _ hb => hbr.block b hb)
        have l5 := l4.trans (Joins.below_le hbr l4.size)
        have cw := pWaits_any G S d D wr hd5
        have cd := pDone_any G S d D wr hd5
        have cp := puts_any w.heap.size G S d D (.slice A2 m.length cb) m wr hd5 hG5 l5.size (HB.out.below l5) 160 HF.out (by omega) hm80
        have HC5 := Lib.hid hc5
        clear hc5 hd5 l4
        go_wp2_with fail
        refine cw.mono ?_
        rintro e w5 ⟨rfl, rfl⟩
        go_wp2_with fail
        refine cd.mono ?_
        rintro e w5 ⟨rfl, rfl⟩
        go_wp2_with fail
        refine cp.mono ?_
        rintro e w6 ⟨rfl, hk6, -⟩
        have hs6 := hk6.size
        have l6 := l5.trans (hk6.belowIn hG5 l5.size)
        have hc6 : PD w6 (Made w3 w4) S c D := HC5.out.beside hk6 (fun b hb hm hg => by have h1 := (hG3 b hg).2; have h2 := hm.1; omega)
        have how6 : Hid (w6.ownsRow w4.heap.size 9 1 u8 5 (SS (sees D 5))) := row_same how.out fun b hb => hk6.block b (how.out.lt b hb).2 (fun hm => by have h1 := (hG3 b hm.1).2; have h2 := (how.out.lt b hb).1; omega)
        have cl := pLen_any _ S c D w6 hc6
        rw [HL.out.lasts] at cl
        have cw6 := pWaits_any _ S c D w6 hc6
        have cd6 := pDone_any _ S c D w6 hc6
        have HC6 := Lib.hid hc6
        clear hc6 cw cd cp how hk6
        go_wp2_with fail
        refine cw6.mono ?_
        rintro e w7 ⟨rfl, rfl⟩
        go_wp2_with fail
        refine cd6.mono ?_
        rintro e w7 ⟨rfl, rfl⟩
        go_wp2_with fail
        refine cl.mono ?_
        rintro e w7 ⟨rfl, rfl⟩
        clear cw6 cd6 cl
        go_wp2_with fail
        go_loopw [14, 15, 16] (fun i _ _ wx => ∃ j : Nat, i = .int .i64 j ∧ j ≤ 5 ∧ Below w6.heap.size w6 wx) (fun i _ _ _ => 5 - (intOf i).toNat)
        case atStart => exact ⟨0, rfl, by omega, Below.refl _ _⟩
        case round =>
          obtain ⟨j, rfl, hj', hbx⟩ := hrel
          have hsx := hbx.size
          by_cases hj5' : j < 5
          · have i2 : (j : Int) < 5 := by omega
            have i3 : (0 : Int) ≤ (j : Int) := by omega
            have hcx : PD wr (Made w3 w4) S c D := HC6.out.kept (fun _ h => h) (fun _ h => h) (fun b hb _ => hbx.block b hb) (fun b _ _ hb => hbx.block b hb)
            have hrd := pRead_any _ S c D (j : Int) wr hcx HF.out.ok (by have := HF.out.lasts; omega)
            rw [HL.out.read_eq hj5'] at hrd
            have hsg := sees_get D hj5'
            obtain ⟨gs, cs, hu8, hgs1, hgs2⟩ := how6.out.form (by omega)
            have hu8' : u8 = .slice (some ⟨gs, 0, none⟩) 5 cs := hu8
            subst hu8'
            have k6 : w6.cell? ⟨gs, j, none⟩ = some (.string ⟨(look D.lasts D.waits j).toArray⟩) := (how6.out.cellAt j (by omega)).trans hsg
            obtain ⟨T, hT⟩ : ∃ T, T = look D.lasts D.waits j := ⟨_, rfl⟩
            rw [← hT] at hrd k6
            clear hT hsg hcx hu8
            go_wp2_with fail
            refine hrd.mono ?_
            rintro e w7 ⟨v7, n7, rfl, rfl, ho7, hb7⟩
            obtain ⟨_, _, hv7, -⟩ := RowAt.of_own ho7
            have hv7' : ∃ A5 c5, v7 = .slice A5 T.length c5 := ⟨_, _, hv7⟩
            clear hv7
            obtain ⟨A7, c7, rfl⟩ := hv7'
            have hconv : ∀ W : World, W.heap = w7.heap → (convert 27 9 (.slice A7 T.length c7)).run Try.prog W = .ok (.string ⟨T.toArray⟩) W := fun W hW => run_str (P := Try.prog) 27 5 9 Try.underlying27 Try.underlying5 Try.underlying9 (B := w7.heap.size) ((Rd.own ho7).keep (Nat.le_refl _) fun p _ => World.cell?_of_block (by rw [hW]))
            have hconv1 := hconv w7 rfl
            have hconv2 := hconv w7.drew rfl
            have hb7w : Below w6.heap.size w6 w7 := hbx.trans (Joins.below_le hb7 hsx)
            have k7 : w7.cell? ⟨gs, j, none⟩ = some (.string ⟨T.toArray⟩) := (hb7w.cell (p := ⟨gs, j, none⟩) hgs2).trans k6
            clear hrd ho7 hconv k6
            go_wp2_with fail
            go_region
            all_goals go_wp2_with fail
            all_goals exact ⟨⟨j + 1, by go_num, hj5', hb7w.drew⟩, by simp [intOf]; omega⟩
          · have i2 : ¬ (j : Int) < 5 := by omega
            go_wp2_with fail
            go_ret
            exact ⟨rfl, l6.trans (Joins.below_le hbx l6.size)⟩
end Go.Proofs.Ythchnnddnjibmaa
