/-
  The chapter's examples, plainly. No program in sight. No condition.
-/
import Derived.Test.YtedcknlafkokkaaNCutW
namespace Go.Proofs.Ytedcknlafkokkaa
open Go.RowKit

def exA : PN := ⟨true, [⟨⟨#[97]⟩, ⟨#[49]⟩, 0, 0⟩, ⟨⟨#[98]⟩, ⟨#[]⟩, 7, 100⟩], []⟩
def exB : PN := ⟨false, [⟨⟨#[107]⟩, ⟨#[]⟩, 0, 0⟩, ⟨⟨#[109]⟩, ⟨#[]⟩, 0, 0⟩], [3, 4, 5]⟩
theorem cnt_byte {n : Nat} (h : n < 128) : cnt (n : Int) = [UInt8.ofNat n] := by rw [cnt_nat (by omega), uv_small h]
theorem exA_by : exA.by = [1, 2, 1, 97, 0, 1, 49, 1, 98, 7, 100] := by
  have h1 : cnt 1 = [1] := cnt_byte (n := 1) (by omega)
  have h2 : cnt 2 = [2] := cnt_byte (n := 2) (by omega)
  have h0 : cnt 0 = [0] := cnt_byte (n := 0) (by omega)
  have h7 : cnt 7 = [7] := cnt_byte (n := 7) (by omega)
  have h100 : cnt 100 = [100] := cnt_byte (n := 100) (by omega)
  simp [PN.by, exA, csBy, PC.by, tx, fv, ByteArray.size, h0, h1, h2, h7, h100]
theorem exB_by : exB.by = [0, 2, 1, 107, 1, 109, 3, 4, 5] := by
  have h1 : cnt 1 = [1] := cnt_byte (n := 1) (by omega)
  have h2 : cnt 2 = [2] := cnt_byte (n := 2) (by omega)
  have h3 : cnt 3 = [3] := cnt_byte (n := 3) (by omega)
  have h4 : cnt 4 = [4] := cnt_byte (n := 4) (by omega)
  have h5 : cnt 5 = [5] := cnt_byte (n := 5) (by omega)
  simp [PN.by, exB, csBy, ksBy, PC.by, tx, fv, ByteArray.size, h1, h2, h3, h4, h5]
theorem kLt_data (a b : ByteArray) : kLt a b = Op.bytesLess a.data.toList b.data.toList := by unfold kLt; rw [ByteArray.toList_eq, ByteArray.toList_eq]
theorem exA_may : exA.may := by
  refine ⟨fun j c hj hc => ?_, fun k hk => by simp [exA] at hk, rfl⟩
  match j, hj with
  | 0, _ =>
    simp [exA] at hc
    subst hc
    exact ⟨by decide, fun p h0 => absurd h0 (by omega)⟩
  | 1, _ =>
    simp [exA] at hc
    subst hc
    refine ⟨by decide, fun p _ hp => ?_⟩
    simp [exA] at hp
    subst hp
    rw [kLt_data]
    decide
  | j + 2, hj => simp [exA] at hj; omega
theorem exB_may : exB.may := by
  refine ⟨fun j c hj hc => ?_, fun k hk => ?_, rfl⟩
  · match j, hj with
    | 0, _ =>
      simp [exB] at hc
      subst hc
      exact ⟨by decide, fun p h0 => absurd h0 (by omega)⟩
    | 1, _ =>
      simp [exB] at hc
      subst hc
      refine ⟨by decide, fun p _ hp => ?_⟩
      simp [exB] at hp
      subst hp
      rw [kLt_data]
      decide
    | j + 2, hj => simp [exB] at hj; omega
  · simp [exB] at hk
    rcases hk with rfl | rfl | rfl <;> decide
theorem exA_small : exA.small := ⟨by decide, by decide, fun c hc => by simp [exA] at hc; rcases hc with rfl | rfl <;> exact ⟨by decide, by decide⟩⟩
theorem exB_small : exB.small := ⟨by decide, by decide, fun c hc => by simp [exB] at hc; rcases hc with rfl | rfl <;> exact ⟨by decide, by decide⟩⟩
theorem err_ok {n : PN} (h : n.may) (hl : n.by.length ≤ 512) : n.err = 0 := by unfold PN.err; rw [if_pos (n.chk_yes h), if_neg (by omega)]
theorem exA_err : exA.err = 0 := err_ok exA_may (by rw [exA_by]; decide)
theorem exB_err : exB.err = 0 := err_ok exB_may (by rw [exB_by]; decide)
theorem exA_size : exA.size = 11 := by unfold PN.size; rw [if_pos (PN.chk_yes exA_may), exA_by]; rfl
theorem beq_data (a b : ByteArray) : (a.toList == b.toList) = (a.data.toList == b.data.toList) := by rw [ByteArray.toList_eq, ByteArray.toList_eq]
theorem exA_findb : exA.find ⟨#[98]⟩ = (1, true) := by
  show findAt _ [_, _] 0 = _
  unfold findAt
  rw [kLt_data, if_neg (by decide)]
  unfold findAt
  rw [kLt_data, if_pos (by decide), beq_data]
  rfl
theorem exA_findaa : exA.find ⟨#[97, 97]⟩ = (1, false) := by
  show findAt _ [_, _] 0 = _
  unfold findAt
  rw [kLt_data, if_neg (by decide)]
  unfold findAt
  rw [kLt_data, if_pos (by decide), beq_data]
  rfl
theorem exA_cut : exA.cut = (⟨true, [⟨⟨#[97]⟩, ⟨#[49]⟩, 0, 0⟩], []⟩, ⟨#[98]⟩, ⟨true, [⟨⟨#[98]⟩, ⟨#[]⟩, 7, 100⟩], []⟩) := by
  have hp : exA.place = 1 := rfl
  unfold PN.cut
  rw [hp, if_neg (by decide)]
  rfl
end Go.Proofs.Ytedcknlafkokkaa
