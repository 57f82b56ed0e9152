/-
  The examples of NodeNames, plainly. No program in sight. No condition.
-/
import Derived.Test.YtboeeggnnhiobaaNAwakeP
import Derived.Test.YtboeeggnnhiobaaNDec
namespace Go.Proofs.Ytboeeggnnhiobaa
open Go.RowKit

def nz (n : Nat) : List UInt8 := List.replicate n 0
theorem nz_length (n : Nat) : (nz n).length = n := List.length_replicate
def KB (n i : Nat) : ByteArray := ⟨(UInt8.ofNat i :: nz n).toArray⟩
theorem KB_size (n i : Nat) : (KB n i).size = n + 1 := by simp [KB, ByteArray.size, nz_length]
def cellK (i : Nat) : PC := ⟨KB 47 i, KB 63 i, 0, 0⟩
def many (m : Nat) : List PC := (List.range m).map cellK
theorem many_length (m : Nat) : (many m).length = m := by simp [many]
theorem many_succ (m : Nat) : many (m + 1) = many m ++ [cellK m] := by simp [many, List.range_succ]
theorem many_get {m j : Nat} {c : PC} (h : (many m)[j]? = some c) : j < m ∧ c = cellK j := by
  unfold many at h
  rw [List.getElem?_map] at h
  by_cases hj : j < m
  · rw [List.getElem?_range hj] at h
    simp at h
    exact ⟨hj, h.symm⟩
  · rw [List.getElem?_eq_none (by simp; omega)] at h
    simp at h
theorem cellK_ok (i : Nat) : (cellK i).ok true := by
  unfold PC.ok cellK
  simp [KB_size]
theorem cellK_small (i : Nat) : (cellK i).small := ⟨by show (KB 47 i).size ≤ _; rw [KB_size]; omega, by show (KB 63 i).size ≤ _; rw [KB_size]; omega⟩
theorem cellK_by (i : Nat) : ((cellK i).by true).length = 115 := by
  have h1 : cnt ((48 : Nat) : Int) = [48] := cnt_byte (n := 48) (by omega)
  have h2 : cnt ((64 : Nat) : Int) = [64] := cnt_byte (n := 64) (by omega)
  have h0 : cnt 0 = [0] := cnt_byte (n := 0) (by omega)
  have k1 : (tx (KB 47 i)).length = 49 := by rw [tx_length, KB_size, h1]; rfl
  have k2 : (tx (KB 63 i)).length = 65 := by rw [tx_length, KB_size, h2]; rfl
  unfold PC.by cellK
  simp [k1, k2, h0]
theorem many_by (m : Nat) : (csBy true (many m)).length = m * 115 := by
  induction m with
  | zero => rfl
  | succ m ih =>
    rw [many_succ]
    have e : csBy true (many m ++ [cellK m]) = csBy true (many m) ++ (cellK m).by true := by unfold csBy; rw [List.flatMap_append]; simp
    rw [e, List.length_append, ih, cellK_by]
    omega
theorem many_small (m : Nat) (h : m ≤ 9) : PN.small ⟨true, many m, []⟩ := ⟨by show (many m).length ≤ _; rw [many_length]; omega, Nat.zero_le _, fun c hc => by
  obtain ⟨j, hj, rfl⟩ := List.getElem_of_mem hc
  obtain ⟨_, h2⟩ := many_get (List.getElem?_eq_getElem hj)
  rw [h2]
  exact cellK_small j⟩
theorem many_may (m : Nat) (h : m ≤ 9) : PN.may ⟨true, many m, []⟩ := by
  refine ⟨fun j c hj hc => ?_, fun k hk => by simp at hk, rfl⟩
  obtain ⟨h1, rfl⟩ := many_get hc
  refine ⟨cellK_ok j, fun p h0 hp => ?_⟩
  obtain ⟨h2, rfl⟩ := many_get hp
  rw [kLt_data]
  show Op.bytesLess (UInt8.ofNat (j - 1) :: nz 47) (UInt8.ofNat j :: nz 47) = true
  have hlt : UInt8.ofNat (j - 1) < UInt8.ofNat j := by
    rw [UInt8.lt_iff_toNat_lt, UInt8.toNat_ofNat', UInt8.toNat_ofNat']
    omega
  simp [Op.bytesLess, hlt]
theorem many_wt (m : Nat) (h : m ≤ 9) : (PN.by ⟨true, many m, []⟩).length = 2 + m * 115 := by
  unfold PN.by fv
  have hc : cnt ((m : Nat) : Int) = [UInt8.ofNat m] := cnt_byte (by omega)
  simp [many_length, many_by, hc]
  omega
theorem err_many9 : PN.err ⟨true, many 9, []⟩ = 40 := by
  unfold PN.err
  rw [if_pos (PN.chk_yes (many_may 9 (by omega))), if_pos (by rw [many_wt 9 (by omega)]; omega)]
theorem err_many4 : PN.err ⟨true, many 4, []⟩ = 0 := err_ok (many_may 4 (by omega)) (by rw [many_wt 4 (by omega)]; omega)
theorem err_many1 : PN.err ⟨true, many 1, []⟩ = 0 := err_ok (many_may 1 (by omega)) (by rw [many_wt 1 (by omega)]; omega)
theorem err_no {n : PN} (h : ¬ n.may) : n.err = 4 := by unfold PN.err; rw [if_neg (by rw [n.chk_iff]; exact h)]
def ba : List PC := [⟨⟨#[98]⟩, ⟨#[]⟩, 0, 0⟩, ⟨⟨#[97]⟩, ⟨#[]⟩, 0, 0⟩]
theorem err_ba : PN.err ⟨true, ba, []⟩ = 4 := err_no fun h => by
  have := (h.1 1 ⟨⟨#[97]⟩, ⟨#[]⟩, 0, 0⟩ (by decide) rfl).2 ⟨⟨#[98]⟩, ⟨#[]⟩, 0, 0⟩ (by omega) rfl
  rw [kLt_data] at this
  revert this
  decide
theorem err_val : PN.err ⟨true, [⟨⟨#[97]⟩, KB 64 0, 0, 0⟩], []⟩ = 4 := err_no fun h => by
  have := (h.1 0 _ (by decide) rfl).1
  unfold PC.ok at this
  simp [KB_size] at this
theorem err_key : PN.err ⟨true, [⟨KB 48 0, ⟨#[]⟩, 0, 0⟩], []⟩ = 4 := err_no fun h => by
  have := (h.1 0 _ (by decide) rfl).1
  unfold PC.ok at this
  simp [KB_size] at this
theorem err_kid : PN.err ⟨false, [], [2147483648]⟩ = 4 := err_no fun h => by
  have := h.2.1 2147483648 (by simp)
  revert this
  decide
theorem allNought_nz (n : Nat) : allNought (nz n) = true := by
  unfold allNought nz
  rw [List.all_eq_true]
  intro x hx
  rw [List.eq_of_mem_replicate hx]
  rfl
/-- a page: the leaf without cells, and noughts -/
theorem page_node (t : List UInt8) : rdNode (some (1 :: 0 :: t)) = (⟨true, [], []⟩, some t) := by
  have h1 : told false gFlag (some (1 :: 0 :: t)) = (true, some (0 :: t)) := told_some (gFlag_fv true (0 :: t))
  have h2 : told 0 (gCount (((((some (0 :: t)).getD []).length : Nat)) : Int)) (some (0 :: t)) = (0, some t) := by
    have := gCount_uv ((((some (0 :: t)).getD []).length : Nat) : Int) 0 t (by omega) (by omega) (by omega)
    have hu : uv (0 : Int).toNat = [0] := uv_small (by decide)
    rw [hu] at this
    exact told_some this
  unfold rdNode rdMany
  rw [h1]
  dsimp only
  rw [h2]
  rfl
theorem zero_may : PN.may ⟨true, [], []⟩ := ⟨fun j c hj => absurd hj (by simp), fun k hk => by simp at hk, rfl⟩
theorem dec_page {t : List UInt8} (ht : t.length ≤ 510) (hn : allNought t = true) : decErr (1 :: 0 :: t) = 0 ∧ decNode (1 :: 0 :: t) = ⟨true, [], []⟩ := by
  have ho : decOk (1 :: 0 :: t) = true := by
    unfold decOk leftOf
    rw [page_node]
    have hd : (1 :: 0 :: t).drop ((1 :: 0 :: t).length - t.length) = t := by
      rw [show (1 :: 0 :: t).length - t.length = 2 by simp only [List.length_cons]; omega]
      rfl
    simp only [Option.getD_some, Option.isSome_some, Bool.true_and]
    rw [hd, hn, PN.chk_yes zero_may]
    simp
    omega
  unfold decErr decNode
  rw [ho, page_node]
  exact ⟨rfl, rfl⟩
theorem dec_page_no {t : List UInt8} (hn : allNought t = false) : decErr (1 :: 0 :: t) = 4 := by
  have ho : decOk (1 :: 0 :: t) = false := by
    unfold decOk leftOf
    rw [page_node]
    have hd : (1 :: 0 :: t).drop ((1 :: 0 :: t).length - t.length) = t := by
      rw [show (1 :: 0 :: t).length - t.length = 2 by simp only [List.length_cons]; omega]
      rfl
    simp only [Option.getD_some, Option.isSome_some, Bool.true_and]
    rw [hd, hn]
    simp
  unfold decErr
  rw [ho]
  rfl
theorem dec_long {l : List UInt8} (h : 512 < l.length) : decErr l = 4 := by
  have ho : decOk l = false := by unfold decOk; rw [decide_eq_false (by omega)]; rfl
  unfold decErr
  rw [ho]
  rfl
theorem dec_none : decErr [] = 4 := by
  have ho : decOk [] = false := by
    unfold decOk
    have : (rdNode (some [])).2 = none := rfl
    rw [this]
    simp
  unfold decErr
  rw [ho]
  rfl
theorem nz_succ (n : Nat) : nz (n + 1) = 0 :: nz n := rfl
theorem page_set : (nz 513).set 0 1 = 1 :: 0 :: nz 511 := rfl
theorem page_take : (1 :: 0 :: nz 511).take 512 = 1 :: 0 :: nz 510 := by
  rw [List.take_succ_cons, List.take_succ_cons]
  unfold nz
  rw [List.take_replicate]
  rfl
def badTail : List UInt8 := ((nz 511).set 509 1).take 510
theorem page_bad : ((1 :: 0 :: nz 511).set 511 1).take 512 = 1 :: 0 :: badTail := by
  rw [List.set_cons_succ, List.set_cons_succ, List.take_succ_cons, List.take_succ_cons]
  rfl
theorem badTail_no : allNought badTail = false := by
  unfold allNought
  rw [List.all_eq_false]
  refine ⟨1, ?_, by decide⟩
  have h : badTail[509]? = some 1 := by
    unfold badTail
    rw [List.getElem?_take_of_lt (by omega), List.getElem?_set_self (by rw [nz_length]; omega)]
  exact List.mem_of_getElem? h
theorem many_four : (many 9).take 4 = many 4 := rfl
end Go.Proofs.Ytboeeggnnhiobaa
