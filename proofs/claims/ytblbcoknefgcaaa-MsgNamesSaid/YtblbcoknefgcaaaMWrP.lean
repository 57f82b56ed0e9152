import Derived.Test.YtblbcoknefgcaaaMWrC
import Derived.Test.YtblbcoknefgcaaaMWrL
namespace Go.Proofs.Ytblbcoknefgcaaa
open Go.RowKit
theorem wputs_takeF {α : Type} (f : α → List (List UInt8)) (s : WS) (xs : List α) (i : Nat) (h : (wputs s ((xs.take i).flatMap f)).2 = true) : wputs s (xs.flatMap f) = wputs s ((xs.take i).flatMap f) := by
  conv => lhs; rw [← List.take_append_drop i xs, List.flatMap_append, wputs_app]
  exact wputs_full h _
set_option maxHeartbeats 4000000 in
set_option maxRecDepth 100000 in
/-- list -/
theorem w_list_pair (B k b o lc pb : Nat) (A : Option Addr) (s : WS) (ns : List PP) (w : World) (h : WrP w B k s) (hb : b < B) (hbw : b < w.heap.size) (hc : w.cell? ⟨b, o, none⟩ = some (.slice A ns.length lc)) (hlen : ns.length < 2 ^ 60)
    (hn : ∀ (i : Nat) (n : PP), ns[i]? = some n → ∃ g q, A = some ⟨g, q, none⟩ ∧ CellsAt w B g (q + i * 2) n.vals ∧ n.ok) (hbx : BoxAt w pb k) :
    Calls Try.prog 88 #[.iface 72 (.pointer (some ⟨k, 0, none⟩)), .pointer (some ⟨b, o, none⟩), .func (.func 89) #[] #[.pointer (some ⟨pb, 0, none⟩)]] w fun e w' => e = .returned (.tuple #[]) ∧ WrP w' B k (wputs s (cv ns.length :: ns.flatMap PP.by)) ∧ Wrote B k w w' := by
  have cM := wr_many B k s ns.length w.drew (h.below (Below.refl _ _).drew)
  have hm := metw_many
  have hv := nilw_many
  have H := Lib.hid h
  have HN := Lib.hid hn
  have HC := Lib.hid hc
  have HX := Lib.hid hbx
  clear h hn
  go_enter Try.func88, Try.ntmps88
  go_wp2_with fail
  go_region_with (go_at_call 148; refine cM.mono ?_; rintro e w1 ⟨rfl, hp, hw⟩)
  all_goals
    have hW1 : Wrote B k w w1 := (Wrote.of_below (w' := w.drew) (Below.refl _ _).drew).trans hw
    have H0 : Hid (WrP w1 B k (wputs (wput s (cv ns.length)) ((ns.take 0).flatMap PP.by)) ∧ Wrote B k w w1) := Lib.hid ⟨hp, hW1⟩
    clear cM hm hv hp hw hW1 hc
    have hm := metw_stopped
    have hm2 := True.intro
    have hv := nilw_stopped
    have hv2 := True.intro
    go_wp2_with fail
    go_loopw [7] (fun s7 wr => ∃ i : Nat, s7 = .int .i64 (i : Int) ∧ i ≤ ns.length ∧ Hid (WrP wr B k (wputs (wput s (cv ns.length)) ((ns.take i).flatMap PP.by)) ∧ Wrote B k w wr)) (fun s7 _ => ns.length - (intOf s7).toNat)
    case atStart => exact ⟨0, rfl, Nat.zero_le _, H0⟩
    case round =>
      clear H0
      obtain ⟨i, rfl, hi, hR⟩ := hrel
      obtain ⟨wz, hwz⟩ : ∃ wz : World, wz = wr := ⟨_, rfl⟩
      subst hwz
      by_cases hil : i < ns.length
      · have a1 : (i : Int) < (ns.length : Int) := by omega
        have a0 : (0 : Int) ≤ (i : Int) := by omega
        have cS := wr_stopped B k _ wz hR.out.1
        cases hf : (wputs (wput s (cv ns.length)) ((ns.take i).flatMap PP.by)).2 with
        | true =>
          rw [hf] at cS
          have HF := Lib.hid hR.out
          have HE := Lib.hid (wputs_takeF PP.by _ ns i hf)
          clear hR hf
          go_wp2_with fail
          refine cS.mono ?_
          rintro e w2 ⟨rfl, rfl⟩
          clear cS
          go_wp2_with fail
          go_end0
          exact ⟨rfl, by rw [wputs_cons, HE.out]; exact HF.out.1, HF.out.2⟩
        | false =>
          rw [hf] at cS
          obtain ⟨n, hn⟩ : ∃ n, ns[i]? = some n := ⟨_, List.getElem?_eq_getElem hil⟩
          obtain ⟨g, q, rfl, n1, n2⟩ := HN.out i _ hn
          have hbk : b ≠ k := by have := H.out.kB; omega
          have c2 : wz.cell? ⟨b, o, none⟩ = some (.slice (some ⟨g, q, none⟩) ns.length lc) := (hR.out.2.cell (p := ⟨b, o, none⟩) hbw hbk (.inl hb)).trans HC.out
          have cN := w_msg2 B k g (q + i * 2) pb _ n wz hR.out.1 (n1.wrote hR.out.2 H.out.kB) n2 (HX.out.wrote H.out hR.out.2)
          have e : (ns.take (i + 1)).flatMap PP.by = (ns.take i).flatMap PP.by ++ n.by := by rw [List.take_add_one, hn]; simp
          have HE := Lib.hid e
          have HW := Lib.hid hR.out.2
          clear hR hn n1 n2 hbk e hf
          go_wp2_with fail
          refine cS.mono ?_
          rintro e w2 ⟨rfl, rfl⟩
          clear cS
          go_wp2_with fail
  
          refine cN.mono ?_
          rintro e w2 ⟨rfl, hp2, hw2⟩
          have HF : Hid (WrP w2 B k (wputs (wput s (cv ns.length)) ((ns.take (i + 1)).flatMap PP.by)) ∧ Wrote B k w w2) := Lib.hid ⟨by rw [HE.out, wputs_app]; exact hp2, HW.out.trans hw2⟩
          clear hp2 hw2 cN c2
          go_wp2_with fail
          exact ⟨⟨i + 1, by go_num, hil, HF⟩, by simp [intOf]; omega⟩
      · have a1 : ¬ (i : Int) < (ns.length : Int) := by omega
        have e : ns.take i = ns := List.take_of_length_le (by omega)
        have HF := Lib.hid hR.out
        have HE := Lib.hid e
        clear hR e
        go_wp2_with fail
        go_end0
        exact ⟨rfl, by have := HF.out.1; rw [HE.out] at this; rw [wputs_cons]; exact this, HF.out.2⟩
set_option maxHeartbeats 4000000 in
set_option maxRecDepth 100000 in
/-- list -/
theorem w_list_last (B k b o lc pb : Nat) (A : Option Addr) (s : WS) (ns : List PL) (w : World) (h : WrP w B k s) (hb : b < B) (hbw : b < w.heap.size) (hc : w.cell? ⟨b, o, none⟩ = some (.slice A ns.length lc)) (hlen : ns.length < 2 ^ 60)
    (hn : ∀ (i : Nat) (n : PL), ns[i]? = some n → ∃ g q, A = some ⟨g, q, none⟩ ∧ CellsAt w B g (q + i * 5) n.vals ∧ n.ok) (hbx : BoxAt w pb k) :
    Calls Try.prog 91 #[.iface 72 (.pointer (some ⟨k, 0, none⟩)), .pointer (some ⟨b, o, none⟩), .func (.func 92) #[] #[.pointer (some ⟨pb, 0, none⟩)]] w fun e w' => e = .returned (.tuple #[]) ∧ WrP w' B k (wputs s (cv ns.length :: ns.flatMap PL.by)) ∧ Wrote B k w w' := by
  have cM := wr_many B k s ns.length w.drew (h.below (Below.refl _ _).drew)
  have hm := metw_many
  have hv := nilw_many
  have H := Lib.hid h
  have HN := Lib.hid hn
  have HC := Lib.hid hc
  have HX := Lib.hid hbx
  clear h hn
  go_enter Try.func91, Try.ntmps91
  go_wp2_with fail
  go_region_with (go_at_call 148; refine cM.mono ?_; rintro e w1 ⟨rfl, hp, hw⟩)
  all_goals
    have hW1 : Wrote B k w w1 := (Wrote.of_below (w' := w.drew) (Below.refl _ _).drew).trans hw
    have H0 : Hid (WrP w1 B k (wputs (wput s (cv ns.length)) ((ns.take 0).flatMap PL.by)) ∧ Wrote B k w w1) := Lib.hid ⟨hp, hW1⟩
    clear cM hm hv hp hw hW1 hc
    have hm := metw_stopped
    have hm2 := True.intro
    have hv := nilw_stopped
    have hv2 := True.intro
    go_wp2_with fail
    go_loopw [7] (fun s7 wr => ∃ i : Nat, s7 = .int .i64 (i : Int) ∧ i ≤ ns.length ∧ Hid (WrP wr B k (wputs (wput s (cv ns.length)) ((ns.take i).flatMap PL.by)) ∧ Wrote B k w wr)) (fun s7 _ => ns.length - (intOf s7).toNat)
    case atStart => exact ⟨0, rfl, Nat.zero_le _, H0⟩
    case round =>
      clear H0
      obtain ⟨i, rfl, hi, hR⟩ := hrel
      obtain ⟨wz, hwz⟩ : ∃ wz : World, wz = wr := ⟨_, rfl⟩
      subst hwz
      by_cases hil : i < ns.length
      · have a1 : (i : Int) < (ns.length : Int) := by omega
        have a0 : (0 : Int) ≤ (i : Int) := by omega
        have cS := wr_stopped B k _ wz hR.out.1
        cases hf : (wputs (wput s (cv ns.length)) ((ns.take i).flatMap PL.by)).2 with
        | true =>
          rw [hf] at cS
          have HF := Lib.hid hR.out
          have HE := Lib.hid (wputs_takeF PL.by _ ns i hf)
          clear hR hf
          go_wp2_with fail
          refine cS.mono ?_
          rintro e w2 ⟨rfl, rfl⟩
          clear cS
          go_wp2_with fail
          go_end0
          exact ⟨rfl, by rw [wputs_cons, HE.out]; exact HF.out.1, HF.out.2⟩
        | false =>
          rw [hf] at cS
          obtain ⟨n, hn⟩ : ∃ n, ns[i]? = some n := ⟨_, List.getElem?_eq_getElem hil⟩
          obtain ⟨g, q, rfl, n1, n2⟩ := HN.out i _ hn
          have hbk : b ≠ k := by have := H.out.kB; omega
          have c2 : wz.cell? ⟨b, o, none⟩ = some (.slice (some ⟨g, q, none⟩) ns.length lc) := (hR.out.2.cell (p := ⟨b, o, none⟩) hbw hbk (.inl hb)).trans HC.out
          have cN := w_msg3 B k g (q + i * 5) pb _ n wz hR.out.1 (n1.wrote hR.out.2 H.out.kB) n2 (HX.out.wrote H.out hR.out.2)
          have e : (ns.take (i + 1)).flatMap PL.by = (ns.take i).flatMap PL.by ++ n.by := by rw [List.take_add_one, hn]; simp
          have HE := Lib.hid e
          have HW := Lib.hid hR.out.2
          clear hR hn n1 n2 hbk e hf
          go_wp2_with fail
          refine cS.mono ?_
          rintro e w2 ⟨rfl, rfl⟩
          clear cS
          go_wp2_with fail
  
          refine cN.mono ?_
          rintro e w2 ⟨rfl, hp2, hw2⟩
          have HF : Hid (WrP w2 B k (wputs (wput s (cv ns.length)) ((ns.take (i + 1)).flatMap PL.by)) ∧ Wrote B k w w2) := Lib.hid ⟨by rw [HE.out, wputs_app]; exact hp2, HW.out.trans hw2⟩
          clear hp2 hw2 cN c2
          go_wp2_with fail
          exact ⟨⟨i + 1, by go_num, hil, HF⟩, by simp [intOf]; omega⟩
      · have a1 : ¬ (i : Int) < (ns.length : Int) := by omega
        have e : ns.take i = ns := List.take_of_length_le (by omega)
        have HF := Lib.hid hR.out
        have HE := Lib.hid e
        clear hR e
        go_wp2_with fail
        go_end0
        exact ⟨rfl, by have := HF.out.1; rw [HE.out] at this; rw [wputs_cons]; exact this, HF.out.2⟩
end Go.Proofs.Ytblbcoknefgcaaa
