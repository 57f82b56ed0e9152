/-
  The laws' own helper 'puts', walked; rows of writes as an argument. No condition.
-/
import Derived.Test.YthchnnddnjibmaaWorks
import Derived.Deep.RegionWith
namespace Go.Proofs.Ythchnnddnjibmaa
open Go.RowKit Go.Maps

abbrev PutT : Type := UInt8 × UInt8 × Bool
/-- A slice that reads as a row of writes, all of it below block B. -/
def RdP (w : World) (B : Nat) (v : Value) (l : List PutT) : Prop :=
  ∃ A c, v = .slice A l.length c ∧ (l ≠ [] → ∃ b o, A = some ⟨b, o, none⟩ ∧ b < B ∧ ∀ (i : Nat) (x : PutT), l[i]? = some x → w.cell? ⟨b, o + i * 3, none⟩ = some (.int .u8 (x.1.toNat : Int)) ∧ w.cell? ⟨b, o + i * 3 + 1, none⟩ = some (.int .u8 (x.2.1.toNat : Int)) ∧ w.cell? ⟨b, o + i * 3 + 2, none⟩ = some (.bool x.2.2))
theorem RdP.below {w w' : World} {B : Nat} {v : Value} {l : List PutT} (h : RdP w B v l) (hb : Below B w w') : RdP w' B v l := by
  obtain ⟨A, c, rfl, h⟩ := h
  refine ⟨A, c, rfl, fun hn => ?_⟩
  obtain ⟨b, o, rfl, hb', hc⟩ := h hn
  exact ⟨b, o, rfl, hb', fun i x hx => ⟨(hb.cell (p := ⟨b, o + i * 3, none⟩) hb').trans (hc i x hx).1, (hb.cell (p := ⟨b, o + i * 3 + 1, none⟩) hb').trans (hc i x hx).2.1, (hb.cell (p := ⟨b, o + i * 3 + 2, none⟩) hb').trans (hc i x hx).2.2⟩⟩

/-- one write, and a flush where it says so -/
def DS.put (m : Nat) (D : DS) (x : PutT) : DS := if x.2.2 then (D.write ((x.1.toNat % m : Nat) : Int) (all512 x.2.1)).2.flush.2 else (D.write ((x.1.toNat % m : Nat) : Int) (all512 x.2.1)).2
def DS.puts (m : Nat) (D : DS) (l : List PutT) : DS := l.foldl (DS.put m) D
theorem DS.puts_snoc (m : Nat) (D : DS) (l : List PutT) (x : PutT) : D.puts m (l ++ [x]) = (D.puts m l).put m x := by unfold DS.puts; rw [List.foldl_append]; rfl
theorem Fit.put {D : DS} {k : Nat} (h : Fit D k) (m : Nat) (x : PutT) : Fit (D.put m x) (k + 2) := by
  unfold DS.put
  split
  · exact (h.write _ _).flush
  · exact (h.write _ _).mono (Nat.le_succ _)
theorem Fit.puts {D : DS} {k : Nat} (h : Fit D k) (m : Nat) (l : List PutT) : Fit (D.puts m l) (k + 2 * l.length) := by
  unfold DS.puts
  induction l generalizing D k with
  | nil => exact h
  | cons x l ih => exact (ih (h.put m x)).mono (by simp; omega)

set_option maxHeartbeats 4000000 in
theorem puts_any (B : Nat) (G S : Nat → Prop) (q : Nat) (D : DS) (v : Value) (l : List PutT) (w : World) (h : PD w G S q D) (hG : In B w G) (hB : B ≤ w.heap.size) (hv : RdP w B v l) (k : Nat) (hF : Fit D k) (hk : k ≤ 1000) (hl : l.length ≤ 80) :
    Calls Try.prog 32 #[.pointer (some ⟨q, 0, none⟩), v] w fun e w' => e = .returned (.tuple #[]) ∧ Kept w w' (Mut G w) ∧ PD w' (More G w w') (More S w w') q (D.puts 5 l) := by
  have HV := Lib.hid hv
  obtain ⟨A, c, rfl, -⟩ := hv
  go_enter Try.func32, Try.ntmps32
  go_wp2_with fail
  go_loopw [4] (fun i wr => ∃ j : Nat, i = .int .i64 j ∧ j ≤ l.length ∧ Hid (PD wr (More G w wr) (More S w wr) q (D.puts 5 (l.take j))) ∧ Kept w wr (Mut G w)) (fun i _ => l.length - (intOf i).toNat)
  case atStart => exact ⟨0, rfl, by omega, h.mono More.here More.here, Kept.refl _ _⟩
  case round =>
    obtain ⟨j, rfl, hj, hx, hkept⟩ := hrel
    clear h
    have hsz := hkept.size
    by_cases hjl : j < l.length
    · have i1 : (j : Int) < (l.length : Int) := by omega
      have i0 : (0 : Int) ≤ (j : Int) := by omega
      have hxj : l[j]? = some l[j] := List.getElem?_eq_getElem hjl
      obtain ⟨⟨xa, xw, xf⟩, hxx⟩ : ∃ x, x = l[j] := ⟨_, rfl⟩
      rw [← hxx] at hxj
      have htk : D.puts 5 (l.take (j + 1)) = (D.puts 5 (l.take j)).put 5 (xa, xw, xf) := by rw [take_snoc hxj, DS.puts_snoc]
      have hFj : Fit (D.puts 5 (l.take j)) 1200 := (hF.puts 5 (l.take j)).mono (by rw [List.length_take]; omega)
      obtain ⟨b, o, hA, hb, hcell⟩ : ∃ b o, A = some ⟨b, o, none⟩ ∧ b < B ∧ _ := by
        obtain ⟨A', c', he, hh⟩ := HV.out
        injection he with e1 _ _
        subst e1
        exact hh (by rintro rfl; simp at hjl)
      subst hA
      obtain ⟨n0, n1, n2⟩ := hcell j _ hxj
      have hbel := hkept.belowIn hG hB
      have k0 : wr.cell? ⟨b, o + j * 3, none⟩ = some (.int .u8 (xa.toNat : Int)) := (hbel.cell (p := ⟨b, o + j * 3, none⟩) hb).trans n0
      have k1 : wr.cell? ⟨b, o + j * 3 + 1, none⟩ = some (.int .u8 (xw.toNat : Int)) := (hbel.cell (p := ⟨b, o + j * 3 + 1, none⟩) hb).trans n1
      have k2 : wr.cell? ⟨b, o + j * 3 + 2, none⟩ = some (.bool xf) := (hbel.cell (p := ⟨b, o + j * 3 + 2, none⟩) hb).trans n2
      clear n0 n1 n2 hcell hxx hxj
      obtain ⟨Dj, hDj⟩ : ∃ Dj, Dj = D.puts 5 (l.take j) := ⟨_, rfl⟩
      rw [← hDj] at hx htk hFj
      clear hDj
      go_upto_region 3 with fail
      have hmod : (IntKind.i64.wrap (xa.toNat : Int)).tmod 5 = ((xa.toNat % 5 : Nat) : Int) := by
        have h1 := UInt8.toNat_lt xa
        have h2 : IntKind.i64.wrap (xa.toNat : Int) = (xa.toNat : Int) := by rw [IntKind.wrap_i64]; omega
        rw [h2, Int.tmod_eq_emod_of_nonneg (by omega)]
        omega
      have HMOD := Lib.hid hmod
      clear hmod
      have hx' : Hid (PD wr.drew (More G w wr) (More S w wr) q Dj) := hx.out.kept (fun _ h => h) (fun _ h => h) (fun _ _ _ => rfl) (fun _ _ _ _ => rfl)
      have HKEPT := Lib.hid hkept
      clear hx hkept hbel
      go_region_with (first
        | (go_at_call 14; refine (full_c xw _ _ rfl).mono ?_; rintro e wa ⟨ga, rfl, hra, hba⟩; have ka0 := (hba.cell (p := ⟨b, o + j * 3, none⟩) (World.block_lt_of_cell? wr _ k0)).trans k0; have HRA := Lib.hid hra; clear hra)
        | (go_at_call 13; refine (pWrite_any (More G w wr) (More S w wr) q Dj _ _ _ _ (hx'.out.kept (fun _ h => h) (fun _ h => h) (fun b hb _ => hba.block b hb) (fun b _ _ hb => hba.block b hb)) HRA.out (hFj.fine (by omega))).mono ?_; rintro e wb ⟨rfl, hkb, hxb⟩))
      all_goals
        rw [HMOD.out] at hxb
        have hsa : wr.heap.size ≤ wa.heap.size := hba.size
        have hsb := hkb.size
        have hkwb : Kept w wb (Mut G w) := (HKEPT.out.transM ((Kept.drew wr (Mut G wr)).transM (Kept.ofBelow (F := Mut G wr.drew) hba) (fun _ h _ => h)) (fun _ h _ => h)).transM hkb (fun n hn hs => More.trans n hn hs)
        have hbb := hkwb.belowIn hG hB
        have kb2 : wb.cell? ⟨b, o + j * 3 + 2, none⟩ = some (.bool xf) := (hbb.cell (p := ⟨b, o + j * 3 + 2, none⟩) hb).trans ((HKEPT.out.belowIn hG hB).cell (p := ⟨b, o + j * 3 + 2, none⟩) hb |>.symm.trans k2)
        have HKWB := Lib.hid hkwb
        have HXB := Lib.hid hxb
        have hsub : ∀ (F : Nat → Prop) n, More (More F w wr) wa wb n → More F w wb n := fun F n h => by
          rcases h with (h | h) | h
          · exact .inl h
          · exact .inr ⟨h.1, by omega⟩
          · exact .inr ⟨by omega, h.2⟩
        clear hkwb hxb hbb k0 k1 k2 ka0 hkb HRA
        cases xf with
        | false =>
          have hput : Dj.put 5 (xa, xw, false) = (Dj.write ((xa.toNat % 5 : Nat) : Int) (all512 xw)).2 := rfl
          rw [hput] at htk
          have hxn : Hid (PD wb (More G w wb) (More S w wb) q (D.puts 5 (l.take (j + 1)))) := by
            rw [htk]
            exact HXB.out.mono (hsub G) (hsub S)
          clear htk hput
          go_wp2_with fail
          exact ⟨⟨j + 1, by go_num, hjl, hxn, HKWB.out⟩, by simp [intOf]; omega⟩
        | true =>
          have hput : Dj.put 5 (xa, xw, true) = (Dj.write ((xa.toNat % 5 : Nat) : Int) (all512 xw)).2.flush.2 := rfl
          rw [hput] at htk
          have hfl := pFlush_any _ _ q _ wb HXB.out ((hFj.write ((xa.toNat % 5 : Nat) : Int) (all512 xw)).fine (by omega))
          have HTK := Lib.hid htk
          clear htk hput
          go_wp2_with fail
          refine hfl.mono ?_
          rintro e wc ⟨rfl, hkc, hxc⟩
          have hsc := hkc.size
          have hxn : Hid (PD wc (More G w wc) (More S w wc) q (D.puts 5 (l.take (j + 1)))) := by
            rw [HTK.out]
            exact hxc.mono (fun n h => h.elim (fun h => (hsub G n h).elim .inl fun h => .inr ⟨h.1, by omega⟩) fun h => .inr ⟨by omega, h.2⟩) (fun n h => h.elim (fun h => (hsub S n h).elim .inl fun h => .inr ⟨h.1, by omega⟩) fun h => .inr ⟨by omega, h.2⟩)
          have hkn : Kept w wc (Mut G w) := HKWB.out.transM hkc (fun n hn hs => (hsub G n hn).elim id fun h => absurd h.1 (by omega))
          clear hxc hkc
          go_wp2_with fail
          exact ⟨⟨j + 1, by go_num, hjl, hxn, hkn⟩, by simp [intOf]; omega⟩
    · have i1 : ¬ (j : Int) < (l.length : Int) := by omega
      rw [List.take_of_length_le (by omega)] at hx
      go_wp2_with fail
      go_end0
      exact ⟨rfl, hkept, hx.out⟩
end Go.Proofs.Ythchnnddnjibmaa
