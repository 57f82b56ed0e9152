/-
  How an argument of bytes, as the statements' form reads it, reads as a list of bytes; and that a number that fits its kind fits 64 bits. No statement is proved here. No condition.
-/
import Derived.Test.YtblbcoknefgcaaaMem
import Derived.Test.YtblbcoknefgcaaaPlain
import Derived.ProofKit
import Derived.OpenShut
import Derived.ShutString
import Derived.ChangeOld
import Derived.SizedLaws
namespace Go.Proofs.Ytblbcoknefgcaaa
open Go.ChangeShapes Go.WideShapes Go.ChangeAt Go.RowKit
open Go.ChangeMaps (open_string shut_string)

theorem args_knob : ownKnob Try.prog.godebug = none := by kernel_rfl
theorem args_laid : laidOutB Try.prog = true := by kernel_rfl
theorem cells_u8 : Try.prog.cellsOf 5 = 1 := by kernel_rfl
theorem bytes_u8 : Try.prog.bytesOf 5 = 1 := by kernel_rfl

theorem fits_of_wf {n : Int} (h : (Lit.int .i64 n).wf = true) : I64 n := by
  have := bounds_i64 h
  unfold I64
  omega

theorem u8_back {n : Int} (h : (Lit.int .u8 n).wf = true) : ((UInt8.ofNat n.toNat).toNat : Int) = n := by
  have := bounds_u8 h
  rw [UInt8.toNat_ofNat']
  omega

/-- An argument of bytes: what it reads as, and that its datum is as long. -/
theorem open_bytes {H : Type} {enc : TypeId × Value → H} {W : World} {spare : Nat → Bool} {held : Bool} {a : Option Addr} {len cap : Nat} {d : DataW H} {p : List MemPlace}
    (h : DataW.Trod enc Try.prog W 0 spare held 23 (.slice a len cap) d p) :
    ∃ l : List UInt8, l.length = len ∧ Rd W W.heap.size (.slice a len cap) l ∧ (d = .nil ∨ ∃ elems sp, d = .slice elems sp ∧ elems.length = len) ∧ (d = .nil → len = 0) := by
  obtain ⟨fuel, hf⟩ := h
  rcases open_ints Try.underlying23 Try.underlying5 cells_u8 hf with ⟨hcs, hx⟩ | ⟨x, l, c, zs, hcs, _, hl, hm, hz, hx, hcell, hwz⟩
  · simp [Value.cells] at hcs
    obtain ⟨rfl, rfl, rfl⟩ := hcs
    simp only [Prod.mk.injEq] at hx
    exact ⟨[], rfl, Rd.nil _ _, .inl hx.1, fun _ => rfl⟩
  · simp [Value.cells] at hcs
    obtain ⟨rfl, rfl, rfl⟩ := hcs
    simp only [Prod.mk.injEq] at hx
    have hzl : len ≤ zs.length := by rw [hz]; split <;> omega
    have hlen : ((zs.take len).map fun n => UInt8.ofNat n.toNat).length = len := by rw [List.length_map, List.length_take]; omega
    refine ⟨(zs.take len).map fun n => UInt8.ofNat n.toNat, hlen, ?_, .inr ⟨_, _, hx.1, by simp [lits]; omega⟩, fun hd => ?_⟩
    · refine ⟨_, _, by rw [hlen], by rw [hlen]; exact hl, hm, (fun h => by cases h), fun hne => ?_⟩
      have h0 : 0 < len := by
        rcases Nat.eq_zero_or_pos len with h0 | h0
        · exact absurd (List.eq_nil_of_length_eq_zero (hlen.trans h0)) hne
        · exact h0
      obtain ⟨b, o, sp⟩ := x
      have hc0 := hcell 0 (by omega)
      have hsp : sp = none := by simpa [Addr.add] using World.cell?_spot hc0
      subst hsp
      have hb := World.block_lt_of_cell? W _ hc0
      rw [plus_zero] at hb
      refine ⟨b, o, rfl, hb, fun i y hy => ?_⟩
      have hi : i < len := by
        have := (List.getElem?_eq_some_iff.1 hy).1
        omega
      have hci := hcell i (by omega)
      rw [plus_zero] at hci
      rw [hci]
      have hzi : zs[i]? = some (zs[i]'(by omega)) := List.getElem?_eq_getElem (by omega)
      rw [List.getElem?_map, List.getElem?_take_of_lt hi, hzi] at hy
      simp only [Option.map_some, Option.some.injEq] at hy
      rw [← hy, u8_back (hwz _ (List.getElem_mem _))]
      simp [List.getD, hzi]
    · rw [hd] at hx
      exact absurd hx.1 (by simp)

/-- An argument of bytes has no more of them than a call may read. -/
theorem reach_bytes {H : Type} {ts : List TypeId} {ds : List (DataW H)} (h : (DataW.weightsEach Try.prog ts ds).all (· ≤ reachBytes) = true) {j : Nat} {d : DataW H} {len : Nat} (ht : ts[j]? = some 23) (hd : ds[j]? = some d)
    (hs : d = .nil ∨ ∃ elems sp, d = .slice elems sp ∧ elems.length = len) (h0 : d = .nil → len = 0) : len ≤ 140737488351232 := by
  rcases hs with hs | ⟨elems, sp, rfl, hl⟩
  · have := h0 hs
    omega
  · have := sized_slice h (j := j) (t := 23) (e := 5) ht hd Try.underlying23
    rw [bytes_u8] at this
    simp only [reachBytes] at this
    omega
end Go.Proofs.Ytblbcoknefgcaaa
