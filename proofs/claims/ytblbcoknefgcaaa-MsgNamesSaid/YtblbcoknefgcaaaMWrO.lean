import Derived.Test.YtblbcoknefgcaaaMWrP
import Derived.Test.YtblbcoknefgcaaaMWrN
namespace Go.Proofs.Ytblbcoknefgcaaa
open Go.RowKit
/-- an entry's own list, read -/
def EnL (w : World) (B : Nat) (c : EN) (A : Option Addr) : Prop := c.list.length < 2 ^ 60 ∧ ∀ (i : Nat) (n : Int), c.list[i]? = some n → ∃ g q, A = some ⟨g, q, none⟩ ∧ w.cell? ⟨g, q + i, none⟩ = some (.int .i64 n) ∧ g < B
theorem EnL.wrote {w w' : World} {B k : Nat} {c : EN} {A : Option Addr} (h : EnL w B c A) (hw : Wrote B k w w') (hk : B ≤ k) : EnL w' B c A :=
  ⟨h.1, fun i n hi => by
    obtain ⟨g, q, e, n1, n3⟩ := h.2 i n hi
    exact ⟨g, q, e, (hw.cell (p := ⟨g, q + i, none⟩) (World.block_lt_of_cell? w _ n1) (by dsimp only; omega) (.inl n3)).trans n1, n3⟩⟩
set_option maxHeartbeats 4000000 in
set_option maxRecDepth 100000 in
/-- an entry, by its closure -/
theorem w_msg1 (B k b o pb : Nat) (s : WS) (c : EN) (A : Option Addr) (lc : Nat) (w : World) (h : WrP w B k s) (hc : CellsAt w B b o (c.vals (.slice A c.list.length lc))) (hn : c.ok) (hl : EnL w B c A) (hbx : BoxAt w pb k) :
    Calls Try.prog 85 #[.pointer (some ⟨b, o, none⟩), .pointer (some ⟨pb, 0, none⟩)] w fun e w' => e = .returned (.tuple #[]) ∧ WrP w' B k (wputs s c.by) ∧ Wrote B k w w' := by
  suffices hS : Calls Try.prog 85 #[.pointer (some ⟨b, o, none⟩), .pointer (some ⟨pb, 0, none⟩)] w fun e w' => Hid (e = .returned (.tuple #[]) ∧ WrP w' B k (wputs s c.by) ∧ Wrote B k w w') from hS.mono fun _ _ h => h.out
  have hb0 : Below w.heap.size w w.drew := (Below.refl _ _).drew
  have hW : Wrote B k w w.drew := Wrote.of_below hb0
  have c0 := w_entry B k b o s c A lc w (h) hc hn hl.1 hl.2
  have c0d := w_entry B k b o s c A lc w.drew (h.below hb0) (hc.below hb0) hn hl.1 (hl.wrote hW h.kB).2
  have hp0 := (blk_cells hbx).1 0
  have hp0d := (blk_cells (hbx.below hb0)).1 0
  have HW := Lib.hid hW
  clear h hc hn hl hbx hb0 hW
  go_enter Try.func85, Try.ntmps85
  go_wp2_with fail
  first
  | refine c0.mono ?_
    rintro e w1 ⟨rfl, hp, hw⟩
    have HF := Lib.hid (And.intro hp hw)
    clear hp hw c0 c0d
    go_wp2_with fail
    go_end0
    exact Lib.hid ⟨rfl, HF.out.1, HF.out.2⟩
  | (go_region_with (go_at_call 86; refine c0d.mono ?_; rintro e w1 ⟨rfl, hp, hw⟩)
     all_goals
       have HF := Lib.hid (And.intro hp (HW.out.trans hw))
       clear hp hw c0 c0d
       go_wp2_with fail
       go_end0
       exact Lib.hid ⟨rfl, HF.out.1, HF.out.2⟩)
set_option maxHeartbeats 4000000 in
set_option maxRecDepth 100000 in
/-- list -/
theorem w_list_entry (B k b o lc pb : Nat) (A : Option Addr) (s : WS) (ns : List EN) (w : World) (h : WrP w B k s) (hb : b < B) (hbw : b < w.heap.size) (hc : w.cell? ⟨b, o, none⟩ = some (.slice A ns.length lc)) (hlen : ns.length < 2 ^ 60)
    (hn : ∀ (i : Nat) (n : EN), ns[i]? = some n → ∃ g q C l2, A = some ⟨g, q, none⟩ ∧ CellsAt w B g (q + i * 4) (n.vals (.slice C n.list.length l2)) ∧ n.ok ∧ EnL w B n C) (hbx : BoxAt w pb k) :
    Calls Try.prog 84 #[.iface 72 (.pointer (some ⟨k, 0, none⟩)), .pointer (some ⟨b, o, none⟩), .func (.func 85) #[] #[.pointer (some ⟨pb, 0, none⟩)]] w fun e w' => e = .returned (.tuple #[]) ∧ WrP w' B k (wputs s (cv ns.length :: ns.flatMap EN.by)) ∧ Wrote B k w w' := by
  have cM := wr_many B k s ns.length w.drew (h.below (Below.refl _ _).drew)
  have hm := metw_many
  have hv := nilw_many
  have H := Lib.hid h
  have HN := Lib.hid hn
  have HC := Lib.hid hc
  have HX := Lib.hid hbx
  clear h hn
  go_enter Try.func84, Try.ntmps84
  go_wp2_with fail
  go_region_with (go_at_call 148; refine cM.mono ?_; rintro e w1 ⟨rfl, hp, hw⟩)
  all_goals
    have hW1 : Wrote B k w w1 := (Wrote.of_below (w' := w.drew) (Below.refl _ _).drew).trans hw
    have H0 : Hid (WrP w1 B k (wputs (wput s (cv ns.length)) ((ns.take 0).flatMap EN.by)) ∧ Wrote B k w w1) := Lib.hid ⟨hp, hW1⟩
    clear cM hm hv hp hw hW1 hc
    have hm := metw_stopped
    have hm2 := True.intro
    have hv := nilw_stopped
    have hv2 := True.intro
    go_wp2_with fail
    go_loopw [7] (fun s7 wr => ∃ i : Nat, s7 = .int .i64 (i : Int) ∧ i ≤ ns.length ∧ Hid (WrP wr B k (wputs (wput s (cv ns.length)) ((ns.take i).flatMap EN.by)) ∧ Wrote B k w wr)) (fun s7 _ => ns.length - (intOf s7).toNat)
    case atStart => exact ⟨0, rfl, Nat.zero_le _, H0⟩
    case round =>
      clear H0
      obtain ⟨i, rfl, hi, hR⟩ := hrel
      obtain ⟨wz, hwz⟩ : ∃ wz : World, wz = wr := ⟨_, rfl⟩
      subst hwz
      by_cases hil : i < ns.length
      · have a1 : (i : Int) < (ns.length : Int) := by omega
        have a0 : (0 : Int) ≤ (i : Int) := by omega
        have cS := wr_stopped B k _ wz hR.out.1
        cases hf : (wputs (wput s (cv ns.length)) ((ns.take i).flatMap EN.by)).2 with
        | true =>
          rw [hf] at cS
          have HF := Lib.hid hR.out
          have HE := Lib.hid (wputs_takeF EN.by _ ns i hf)
          clear hR hf
          go_wp2_with fail
          refine cS.mono ?_
          rintro e w2 ⟨rfl, rfl⟩
          clear cS
          go_wp2_with fail
          go_end0
          exact ⟨rfl, by rw [wputs_cons, HE.out]; exact HF.out.1, HF.out.2⟩
        | false =>
          rw [hf] at cS
          obtain ⟨n, hn⟩ : ∃ n, ns[i]? = some n := ⟨_, List.getElem?_eq_getElem hil⟩
          obtain ⟨g, q, C, l2, rfl, n1, n2, n3⟩ := HN.out i _ hn
          have hbk : b ≠ k := by have := H.out.kB; omega
          have c2 : wz.cell? ⟨b, o, none⟩ = some (.slice (some ⟨g, q, none⟩) ns.length lc) := (hR.out.2.cell (p := ⟨b, o, none⟩) hbw hbk (.inl hb)).trans HC.out
          have cN := w_msg1 B k g (q + i * 4) pb _ n C l2 wz hR.out.1 (n1.wrote hR.out.2 H.out.kB) n2 (n3.wrote hR.out.2 H.out.kB) (HX.out.wrote H.out hR.out.2)
          have e : (ns.take (i + 1)).flatMap EN.by = (ns.take i).flatMap EN.by ++ n.by := by rw [List.take_add_one, hn]; simp
          have HE := Lib.hid e
          have HW := Lib.hid hR.out.2
          clear hR hn n1 n2 n3 hbk e hf
          go_wp2_with fail
          refine cS.mono ?_
          rintro e w2 ⟨rfl, rfl⟩
          clear cS
          go_wp2_with fail
  
          refine cN.mono ?_
          rintro e w2 ⟨rfl, hp2, hw2⟩
          have HF : Hid (WrP w2 B k (wputs (wput s (cv ns.length)) ((ns.take (i + 1)).flatMap EN.by)) ∧ Wrote B k w w2) := Lib.hid ⟨by rw [HE.out, wputs_app]; exact hp2, HW.out.trans hw2⟩
          clear hp2 hw2 cN c2
          go_wp2_with fail
          exact ⟨⟨i + 1, by go_num, hil, HF⟩, by simp [intOf]; omega⟩
      · have a1 : ¬ (i : Int) < (ns.length : Int) := by omega
        have e : ns.take i = ns := List.take_of_length_le (by omega)
        have HF := Lib.hid hR.out
        have HE := Lib.hid e
        clear hR e
        go_wp2_with fail
        go_end0
        exact ⟨rfl, by have := HF.out.1; rw [HE.out] at this; rw [wputs_cons]; exact this, HF.out.2⟩
end Go.Proofs.Ytblbcoknefgcaaa
