/-
  The walk of the law CodeRow: a row of numbers is read as it was written, and what stands behind it is left. Condition: the numbers fit their kind.
-/
import Derived.Test.YtfpammdpnccciaaWorks
import Derived.Test.YtfpammdpnccciaaPlainC
import Derived.Deep.DeepCutAuto
import Derived.Deep.RegionWith
namespace Go.Proofs.Ytfpammdpnccciaa
open Go.RowKit

/-- The slice value reads as the numbers zs, all of them below block B. -/
def RdN (w : World) (B : Nat) (v : Value) (zs : List Int) : Prop :=
  ∃ A c, v = .slice A zs.length c ∧ (∀ n ∈ zs, I64 n) ∧
    (zs ≠ [] → ∃ b o, A = some ⟨b, o, none⟩ ∧ b < B ∧ ∀ i n, zs[i]? = some n → w.cell? ⟨b, o + i, none⟩ = some (.int .i64 n))

/-- a row of numbers as bytes -/
def enc (zs : List Int) : List UInt8 := zs.flatMap fun n => uv (zz n)
theorem enc_snoc (zs : List Int) (n : Int) : enc (zs ++ [n]) = enc zs ++ uv (zz n) := by simp [enc]
theorem enc_cons (n : Int) (zs : List Int) : enc (n :: zs) = uv (zz n) ++ enc zs := by simp [enc]
theorem enc_length (zs : List Int) (h : ∀ n ∈ zs, I64 n) : (enc zs).length ≤ 10 * zs.length := by
  induction zs with
  | nil => simp [enc]
  | cons n zs ih =>
    rw [enc_cons, List.length_append, List.length_cons]
    have h1 := uv_length64 _ (zz_fits n (h n (by simp)))
    have h2 := ih fun m hm => h m (by simp [hm])
    omega

set_option maxRecDepth 100000 in
set_option maxHeartbeats 1000000 in
theorem row_walk (zs : List Int) (l : List UInt8) (a b : Value) (w : World) (ha : RdN w w.heap.size a zs) (hb : Rd w w.heap.size b l) (hlz : zs.length ≤ 9223372036854775807) (hll : l.length ≤ 9223372036854775807) :
    Calls Try.prog 8 #[a, b] w fun e w' => e = .returned (.bool true) ∧ Below w.heap.size w w' := by
  have HA := Lib.hid ha
  have HB := Lib.hid hb
  obtain ⟨A, c, rfl, hfit, hcell⟩ := ha
  obtain ⟨A2, c2, rfl, -⟩ := hb
  by_cases hz : 1000 < zs.length
  · have hz' : (1000 : Int) < (zs.length : Int) := by omega
    clear hcell hfit
    go_enter Try.func8, Try.ntmps8
    go_wp2_with fail
    refine (works_any _).mono ?_
    rintro e w1 ⟨rfl, hb1⟩
    go_wp2_with fail
    refine (works_any _).mono ?_
    rintro e w2 ⟨rfl, hb2⟩
    go_wp2_with fail
    go_ret
    exact ⟨rfl, hb1.trans (hb2.mono hb1.size)⟩
  · have hz' : ¬ (1000 : Int) < (zs.length : Int) := by omega
    by_cases ht : 1000 < l.length
    · have ht' : (1000 : Int) < (l.length : Int) := by omega
      clear hcell hfit
      go_enter Try.func8, Try.ntmps8
      go_wp2_with fail
      refine (works_any _).mono ?_
      rintro e w1 ⟨rfl, hb1⟩
      go_wp2_with fail
      refine (works_any _).mono ?_
      rintro e w2 ⟨rfl, hb2⟩
      go_wp2_with fail
      go_ret
      exact ⟨rfl, hb1.trans (hb2.mono hb1.size)⟩
    · have ht' : ¬ (1000 : Int) < (l.length : Int) := by omega
      obtain ⟨i0, hi, hz0, hz1, hz2⟩ := info_parts info_u8
      have hel : ∀ k, k ≤ zs.length → (enc (zs.take k)).length ≤ 10 * k := fun k hk => by
        have := enc_length (zs.take k) (fun n hn => hfit n (List.mem_of_mem_take hn))
        rw [List.length_take] at this
        omega
      have HEL := Lib.hid hel
      have HF := Lib.hid hfit
      have HC := Lib.hid hcell
      clear hel hfit hcell
      go_enter Try.func8, Try.ntmps8
      go_wp2_with fail
      refine (works_any _).mono ?_
      rintro e w1 ⟨rfl, hb1⟩
      go_wp2_with fail
      go_loopw [5, 6] (fun s i wr => ∃ (k : Nat) (B : Option Addr) (d : Nat), i = .int .i64 k ∧ k ≤ zs.length ∧ s = .slice B (enc (zs.take k)).length d ∧ Rd wr wr.heap.size s (enc (zs.take k)) ∧ Below w.heap.size w wr) (fun _ i _ => zs.length - (intOf i).toNat)
      case atStart => exact ⟨0, none, 0, rfl, by omega, rfl, Rd.nil _ _, hb1⟩
      case round =>
        obtain ⟨k, B, d, rfl, hk, rfl, hrd, hbr⟩ := hrel
        by_cases hlt : k < zs.length
        · obtain ⟨g, o, rfl, hg, hc⟩ := HC.out (fun h => by subst h; exact absurd hlt (Nat.not_lt_zero _))
          have hlt' : (k : Int) < (zs.length : Int) := by omega
          have hx : wr.cell? ⟨g, o + k, none⟩ = some (.int .i64 zs[k]) := (hbr.cell (p := ⟨g, o + k, none⟩) hg).trans (hc k _ (List.getElem?_eq_getElem hlt))
          have hfk := HF.out zs[k] (List.getElem_mem _)
          have hen := HEL.out k hk
          have hts : zs.take (k + 1) = zs.take k ++ [zs[k]] := by rw [List.take_succ_eq_append_getElem hlt]
          have HTS := Lib.hid hts
          obtain ⟨x, hxx⟩ : ∃ x, x = zs[k] := ⟨_, rfl⟩
          rw [← hxx] at hx hfk HTS
          clear hc hts hxx
          go_wp2_with fail
          refine (num_any _ _ x _ hrd hfk (by omega)).mono ?_
          rintro e w2 ⟨v2, rfl, ho2, hb2⟩
          have hb2' := hbr.trans (hb2.mono hbr.size)
          have hr2 := Rd.own ho2
          rw [← enc_snoc, ← HTS.out] at hr2
          have hr2' := hr2
          obtain ⟨B', d', rfl, -⟩ := hr2
          clear ho2 hb2 hrd
          go_wp2_with fail
          refine ⟨⟨k + 1, B', d', by go_num, hlt, rfl, hr2', hb2'⟩, by simp [intOf]; omega⟩
        · have hlt' : ¬ (k : Int) < (zs.length : Int) := by omega
          obtain rfl : k = zs.length := by omega
          rw [List.take_of_length_le (Nat.le_refl _)] at hrd
          rw [List.take_of_length_le (Nat.le_refl _)]
          have hen := HEL.out zs.length (Nat.le_refl _)
          rw [List.take_of_length_le (Nat.le_refl _)] at hen
          have hsr := hbr.size
          have hr0 : Rd (wr.alloc (.cells #[] 5)) (wr.heap.size + 1) (.slice B (enc zs).length d) (enc zs) := hrd.below ((Below.refl _ _).alloc (Nat.le_refl _) _) (by omega)
          have hlit : (wr.alloc (.cells #[] 5)).ownsRow w.heap.size 5 1 (.slice (some ⟨wr.heap.size, 0, none⟩) 0 0) 0 (BS []) := World.ownsRow_lit wr #[] 0 hbr.size (by unfold maxLen; omega) rfl
          have hbl := hbr.alloc hbr.size (.cells #[] 5)
          go_wp2_with (first
            | (at_builtin; refine wpList_app rfl (.tmp 34) (.tmp 35) 23 rfl w.heap.size 5 i0 Try.underlying23 hi hz0 hz1 hz2 _ _ [] (enc zs) 0 rfl rfl hlit _ hr0 (by simp only [List.length_nil]; omega) (by simp; omega) ?_; intro v1 y1 ho1 hg1; have hb1' := hbl.grown hg1 hbl.size (fun k h => (hlit.lt k h).1))
            | (at_builtin; refine wpList_app rfl (.tmp 36) (.tmp 37) 23 rfl w.heap.size 5 i0 Try.underlying23 hi hz0 hz1 hz2 _ _ _ l _ rfl rfl ho1 _ (HB.out.below hb1' hb1'.size) (by simp only [List.nil_append]; omega) hb1'.size ?_; intro v2 y2 ho2 hg2; have hb2' := hb1'.grown hg2 hb1'.size (fun k h => (ho1.lt k h).1)))
          have hr2 := Rd.own ho2
          rw [List.nil_append] at hr2
          clear hr0 hlit hbl ho1 hg1 ho2 hg2 hb1' hrd
          refine (New_any _ v2 _ hr2 (by rw [List.length_append]; omega)).mono ?_
          rintro e y3 ⟨R, rfl, hR, hd3, hb3⟩
          have hb3' := hb2'.trans (hb3.mono hb2'.size)
          have hRw : w.heap.size ≤ R := Nat.le_trans hb2'.size hR
          clear hb2' hb3 hr2 hR hbr hsr
          go_wp2_with fail
          go_loopw [8] (fun i wx => ∃ k : Nat, i = .int .i64 k ∧ k ≤ zs.length ∧ Rdr 56 wx R (some (enc (zs.drop k) ++ l)) ∧ Below w.heap.size w wx) (fun i _ => zs.length - (intOf i).toNat)
          case atStart => exact ⟨0, rfl, by omega, hd3, hb3'⟩
          case round =>
            obtain ⟨k, rfl, hk, hd, hbx⟩ := hrel
            clear hd3 hb3'
            by_cases hlt : k < zs.length
            · obtain ⟨g, o, rfl, hg, hc⟩ := HC.out (fun h => by subst h; exact absurd hlt (Nat.not_lt_zero _))
              have hlt2 : (k : Int) < (zs.length : Int) := by omega
              have hck : w.cell? ⟨g, o + k, none⟩ = some (.int .i64 zs[k]) := hc k _ (List.getElem?_eq_getElem hlt)
              have hdr : zs.drop k = zs[k] :: zs.drop (k + 1) := List.drop_eq_getElem_cons hlt
              have htold : told 0 gNum (some (enc (zs.drop k) ++ l)) = (zs[k], some (enc (zs.drop (k + 1)) ++ l)) := told_some (by rw [hdr, enc_cons, List.append_assoc]; exact gNum_uv _ _ (HF.out _ (List.getElem_mem _)))
              obtain ⟨x, hxx⟩ : ∃ x, x = zs[k] := ⟨_, rfl⟩
              rw [← hxx] at hck htold
              have c1 := Num_any R _ _ (show Rdr 56 wr.drew R (some (enc (zs.drop k) ++ l)) from hd)
              rw [htold] at c1
              have hx0 : wr.drew.cell? ⟨g, o + k, none⟩ = some (.int .i64 x) := (hbx.drew.cell (p := ⟨g, o + k, none⟩) hg).trans hck
              have hbd := hbx.drew
              have HK := Lib.hid hck
              clear hc hck hdr htold hxx hd
              go_upto_region 12 with fail
              go_cut [52] (fun s wx => s = .bool false ∧ Below w.heap.size w wx ∧ Rdr 56 wx R (some (enc (zs.drop (k + 1)) ++ l)))
              case first =>
                go_region_with (go_at_call 13; refine c1.mono ?_; rintro e z1 ⟨rfl, hgz, hdz⟩; have hbz := hbd.grown hgz hbd.size (fun k h => by injection h with h; omega); have hxz : z1.cell? ⟨g, o + k, none⟩ = some (.int .i64 x) := (hbz.cell (p := ⟨g, o + k, none⟩) hg).trans HK.out)
                all_goals
                  go_wp2_with fail
                  go_meet
                  exact ⟨rfl, hbz, hdz⟩
              case rest =>
                obtain ⟨rfl, hbz, hdz⟩ := hcut
                go_wp2_with fail
                refine ⟨⟨k + 1, by go_num, hlt, hdz, hbz⟩, by simp [intOf]; omega⟩
            · have hlt2 : ¬ (k : Int) < (zs.length : Int) := by omega
              obtain rfl : k = zs.length := by omega
              have hde : enc (zs.drop zs.length) ++ l = l := by simp [enc]
              rw [hde] at hd
              clear hde
              have hen' : ((enc zs).length : Int) ≤ 10 * (zs.length : Int) := by omega
              go_wp2_with fail
              refine (ok_any R _ _ hd).mono ?_
              rintro e y4 ⟨rfl, rfl⟩
              go_wp2_with fail
              refine (left_any R _ _ hd).mono ?_
              rintro e y4 ⟨rfl, rfl⟩
              go_wp2_with fail
              go_ret
              exact ⟨rfl, hbx⟩
end Go.Proofs.Ytfpammdpnccciaa
