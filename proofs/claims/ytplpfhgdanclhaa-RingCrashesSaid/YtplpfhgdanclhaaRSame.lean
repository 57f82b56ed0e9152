/-
  The document's ring (butteryref04): Same; and the law's 'begins'. No statement is proved here. No condition.
-/
import Derived.Test.YtplpfhgdanclhaaRApp
namespace Go.Proofs.Ytplpfhgdanclhaa
open Go.RowKit

/-- a slice that reads as lists of bytes, wherever they lie -/
def LL (w : World) (v : Value) (Ls : List (List UInt8)) : Prop := LLN w (fun _ => True) (fun _ => True) v Ls
theorem LLN.ll {w : World} {M N : Nat → Prop} {v : Value} {Ls : List (List UInt8)} (h : LLN w M N v Ls) : LL w v Ls := h.kept (fun _ _ _ => trivial) (fun _ _ _ => trivial) (Nat.le_refl _) (fun _ _ _ => rfl)
theorem LL.at {w : World} {A : Option Addr} {n c : Nat} {Ls : List (List UInt8)} (h : LL w (.slice A n c) Ls) {i : Nat} {l : List UInt8} (hi : Ls[i]? = some l) : ∃ b o A' n' c', A = some ⟨b, o, none⟩ ∧ w.cell? ⟨b, o + i, none⟩ = some (.slice A' n' c') ∧ Rd w w.heap.size (.slice A' n' c') l := by
  obtain ⟨xs, he, A0, c0, hv, -, -, -, h5⟩ := h
  injection hv with e1 _ _
  subst e1
  obtain ⟨b, o, hA, -, -, hc⟩ := h5 (fun e => by rw [e] at hi; simp at hi)
  obtain ⟨A', n', c', h1, h2⟩ := he.2 i l hi
  exact ⟨b, o, A', n', c', hA, hc i _ h1, h2.rd⟩
theorem LL.len {w : World} {A : Option Addr} {n c : Nat} {Ls : List (List UInt8)} (h : LL w (.slice A n c) Ls) : n = Ls.length ∧ n ≤ c := by
  obtain ⟨xs, he, A0, c0, hv, h2, -⟩ := h
  injection hv with _ e1 e2
  exact ⟨e1, by omega⟩
theorem LL.slice {w : World} {v : Value} {Ls : List (List UInt8)} (h : LL w v Ls) : ∃ A c, v = .slice A Ls.length c := by
  obtain ⟨xs, he, A0, c0, hv, -⟩ := h
  exact ⟨A0, c0, hv⟩
theorem LL.drew {w : World} {v : Value} {Ls : List (List UInt8)} (h : LL w v Ls) (n : Nat) : LL (w.drewN n) v Ls := h.kept (fun _ _ _ => trivial) (fun _ _ _ => trivial) (Nat.le_refl _) (fun _ _ _ => rfl)

set_option maxHeartbeats 1000000 in
theorem same_any (La Lb : List (List UInt8)) (v x : Value) (w : World) (hv : LL w v La) (hx : LL w x Lb) (ha : La.length ≤ 9223372036854775807) (hb : Lb.length ≤ 9223372036854775807) :
    Calls Try.prog 19 #[v, x] w fun e w' => e = .returned (.bool (decide (La = Lb))) ∧ ∃ n, w' = w.drewN n := by
  obtain ⟨A, c, rfl⟩ := hv.slice
  obtain ⟨A2, c2, rfl⟩ := hx.slice
  have HV := Lib.hid hv
  have HX := Lib.hid hx
  clear hv hx
  by_cases hlen : La.length = Lb.length
  · have hne : ((La.length : Int) != (Lb.length : Int)) = false := by rw [hlen]; simp
    go_enter Try.func19, Try.ntmps19
    go_wp2_with fail
    go_loopw [5] (fun i wr => ∃ k : Nat, i = .int .i64 k ∧ k ≤ La.length ∧ Hid (La.take k = Lb.take k) ∧ ∃ n, wr = w.drewN n) (fun i _ => La.length - (intOf i).toNat)
    case atStart => exact ⟨0, rfl, by omega, Lib.hid rfl, 0, rfl⟩
    case round =>
      obtain ⟨k, rfl, hk, he, n, hw⟩ := hrel
      have hvr : LL wr (.slice A La.length c) La := by rw [hw]; exact HV.out.drew n
      have hxr : LL wr (.slice A2 Lb.length c2) Lb := by rw [hw]; exact HX.out.drew n
      have HW := Lib.hid hw
      clear hw
      by_cases hlt : k < La.length
      · have hll : k < Lb.length := by omega
        obtain ⟨b1, o1, A1', n1, c1', rfl, hc1, hr1⟩ := hvr.at (List.getElem?_eq_getElem hlt)
        obtain ⟨b2, o2, A2', n2, c2', rfl, hc2, hr2⟩ := hxr.at (List.getElem?_eq_getElem hll)
        have j1 : (k : Int) < (La.length : Int) := by omega
        have j2 : (k : Int) < (Lb.length : Int) := by omega
        have j0 : (0 : Int) ≤ (k : Int) := by omega
        have s1 : (convert 39 9 (.slice A1' n1 c1')).run Try.prog wr.drew = .ok (.string ⟨La[k].toArray⟩) wr.drew := run_str (P := Try.prog) 39 5 9 Try.underlying39 Try.underlying5 Try.underlying9 (hr1.keep (Nat.le_refl _) (fun _ _ => rfl))
        have s2 : (convert 39 9 (.slice A2' n2 c2')).run Try.prog wr.drew = .ok (.string ⟨Lb[k].toArray⟩) wr.drew := run_str (P := Try.prog) 39 5 9 Try.underlying39 Try.underlying5 Try.underlying9 (hr2.keep (Nat.le_refl _) (fun _ _ => rfl))
        have d1 : wr.drew.cell? ⟨b1, o1 + k, none⟩ = some (.slice A1' n1 c1') := hc1
        have d2 : wr.drew.cell? ⟨b2, o2 + k, none⟩ = some (.slice A2' n2 c2') := hc2
        obtain ⟨x1, hx1⟩ : ∃ x1, x1 = La[k] := ⟨_, rfl⟩
        obtain ⟨x2, hx2⟩ : ∃ x2, x2 = Lb[k] := ⟨_, rfl⟩
        rw [← hx1] at s1
        rw [← hx2] at s2
        have HX1 := Lib.hid hx1
        have HX2 := Lib.hid hx2
        clear hx1 hx2 hvr hxr hr1 hr2
        go_wp2_with fail
        go_region
        by_cases hxy : x1 = x2
        · have hb : (!(x1 == x2)) = false := by rw [hxy]; simp
          have hnx : Hid (La.take (k + 1) = Lb.take (k + 1)) := by
            have h0 := he.out
            unfold Hid
            rw [← List.take_append_getElem (h := hlt), ← List.take_append_getElem (h := hll), h0, ← HX1.out, ← HX2.out, hxy]
          have hnw : ∃ n, wr.drew = w.drewN n := ⟨n + 1, by rw [HW.out]; rfl⟩
          rw [hb]
          clear hc1 hc2 d1 d2 s1 s2 hxy hb he
          go_wp2_with fail
          exact ⟨⟨k + 1, by go_num, hlt, hnx, hnw⟩, by simp [intOf]; omega⟩
        · have hb : (!(x1 == x2)) = true := by simpa using hxy
          have hno : La ≠ Lb := by
            intro e
            apply hxy
            rw [HX1.out, HX2.out]
            subst e
            rfl
          have hnw : ∃ n, wr.drew = w.drewN n := ⟨n + 1, by rw [HW.out]; rfl⟩
          have HNO := Lib.hid hno
          rw [hb]
          clear hc1 hc2 d1 d2 s1 s2 hxy hb he hno
          go_wp2_with fail
          go_ret
          rw [decide_eq_false HNO.out]
          exact ⟨rfl, hnw⟩
      · have hkl : k = La.length := by omega
        have hyes : La = Lb := by
          have h0 := he.out
          rw [hkl, List.take_length] at h0
          rw [h0, hlen, List.take_length]
        have j1 : ¬ (k : Int) < (La.length : Int) := by omega
        have HYES := Lib.hid hyes
        have hnw : ∃ n, wr = w.drewN n := ⟨n, HW.out⟩
        clear he hyes hvr hxr hkl
        go_wp2_with fail
        go_ret
        rw [decide_eq_true HYES.out]
        exact ⟨rfl, hnw⟩
  · have hne : ((La.length : Int) != (Lb.length : Int)) = true := by simp; omega
    have hno : La ≠ Lb := fun e => hlen (by rw [e])
    go_enter Try.func19, Try.ntmps19
    go_wp2_with fail
    go_ret
    rw [decide_eq_false hno]
    exact ⟨rfl, 0, rfl⟩
end Go.Proofs.Ytplpfhgdanclhaa
