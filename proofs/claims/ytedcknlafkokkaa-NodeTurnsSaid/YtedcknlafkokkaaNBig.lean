/-
  The law's biggest: the size of a leaf's greatest cell. No statement is proved here. No condition.
-/
import Derived.Test.YtedcknlafkokkaaNHalfP
import Derived.Test.YtedcknlafkokkaaNBackP
import Derived.Test.YtedcknlafkokkaaNGiv
namespace Go.Proofs.Ytedcknlafkokkaa
open Go.RowKit

def bigOf (l : List PC) : Nat := l.foldl (fun m c => max m (szC true c)) 0
theorem bigOf_snoc {l : List PC} {i : Nat} {c : PC} (h : l[i]? = some c) : bigOf (l.take (i + 1)) = max (bigOf (l.take i)) (szC true c) := by
  unfold bigOf
  rw [take_succ_snoc h, List.foldl_append]
  rfl
theorem foldl_ge (l : List PC) : ∀ m : Nat, m ≤ l.foldl (fun m c => max m (szC true c)) m ∧ ∀ c ∈ l, szC true c ≤ l.foldl (fun m c => max m (szC true c)) m := by
  induction l with
  | nil => intro m; exact ⟨Nat.le_refl _, fun c hc => by cases hc⟩
  | cons d l ih =>
    intro m
    obtain ⟨h1, h2⟩ := ih (max m (szC true d))
    refine ⟨Nat.le_trans (Nat.le_max_left _ _) h1, fun c hc => ?_⟩
    rcases List.mem_cons.1 hc with rfl | hc
    · exact Nat.le_trans (Nat.le_max_right _ _) h1
    · exact h2 c hc
theorem bigOf_ge {l : List PC} {c : PC} (h : c ∈ l) : szC true c ≤ bigOf l := (foldl_ge l 0).2 c h
theorem foldl_le {l : List PC} {M : Nat} (h : ∀ c ∈ l, szC true c ≤ M) : ∀ m : Nat, m ≤ M → l.foldl (fun m c => max m (szC true c)) m ≤ M := by
  induction l with
  | nil => intro m hm; exact hm
  | cons d l ih =>
    intro m hm
    exact ih (fun c hc => h c (List.mem_cons_of_mem _ hc)) _ (Nat.max_le.2 ⟨hm, h d List.mem_cons_self⟩)
theorem bigOf_le {l : List PC} {M : Nat} (h : ∀ c ∈ l, szC true c ≤ M) : bigOf l ≤ M := foldl_le h 0 (Nat.zero_le _)
theorem one_may {c : PC} (h : c.ok true) : PN.may ⟨true, [c], []⟩ := by
  refine may_part (fun d hd => ?_) (fun i c' d hc hd => ?_) (fun k hk => by cases hk) rfl
  · rcases List.mem_cons.1 hd with rfl | hd
    · exact h
    · cases hd
  · simp at hd
theorem one_size {c : PC} (h : c.ok true) : PN.size ⟨true, [c], []⟩ = 2 + szC true c := by
  unfold PN.size
  rw [if_pos (PN.chk_yes (one_may h))]
  have := leaf_wt (l := [c]) (by simp)
  unfold PN.wt at this
  rw [this]
  simp [tot]
theorem elem_RC : Try.prog.underlying 22 = some (.slice (Try.prog.elem 22)) := by kernel_rfl
theorem size_RC (W : World) : (sizeOf (Try.prog.elem 22)).run Try.prog W = .ok 4 W := by kernel_rfl
theorem oneRC (W : World) (A : Option Addr) (len c i : Nat) (hi : i + 1 ≤ c) : (Instr.slice 22 (.slice A len c) (some (.int .i64 (i : Int))) (some (.int .i64 ((i : Int) + 1))) none).run Try.prog W = .ok (.slice (atFrom A c i 4) 1 (c - i)) W := by
  rw [run_slice_lh _ _ _ _ _ elem_RC .i64 .i64 (i : Int) ((i : Int) + 1) (by omega) (by omega) (by omega), size_RC]
  simp only [Result.andThen, sliced, Int.toNat_natCast]
  rw [show ((i : Int) + 1).toNat = i + 1 by omega, show i + 1 - i = 1 by omega]
  rfl
set_option maxHeartbeats 2000000 in
set_option maxRecDepth 100000 in
theorem biggest_any (n : PN) (v : Value) (w : World) (h : NodeN w Any v n) (hleaf : n.leaf = true) (hm : n.may) (hs : n.small) :
    Calls Try.prog 29 #[v] w fun e w' => e = .returned (.int .i64 ((bigOf n.cells : Nat) : Int)) ∧ Below w.heap.size w w' := by
  obtain ⟨vc, vk, rfl, hc, hk'⟩ := h
  obtain ⟨Ac, cc, rfl, hcl, hcm⟩ := hc.slice
  obtain ⟨Ak, ck, rfl, -, -⟩ := hk'.slice
  obtain ⟨w1, hw1⟩ : ∃ w1, w1 = w.alloc (.cells #[.bool n.leaf, .slice Ac n.cells.length cc, .slice Ak n.kids.length ck] 25) := ⟨_, rfl⟩
  have hb1 : Below w.heap.size w w1 := by rw [hw1]; exact (Below.refl _ _).alloc (Nat.le_refl _) _
  have hx1 : w1.heap[w.heap.size]? = some (.cells #[.bool n.leaf, .slice Ac n.cells.length cc, .slice Ak n.kids.length ck] 25 (0, 0)) := by rw [hw1]; exact heap_alloc_new w _
  have hl1 : w.heap.size < w1.heap.size := (Array.getElem?_eq_some_iff.1 hx1).1
  have hkeep : ∀ W, Below w1.heap.size w1 W → W.cell? ⟨w.heap.size, 1, none⟩ = some (.slice Ac n.cells.length cc) ∧ CsN W Any (.slice Ac n.cells.length cc) n.cells ∧ Below w.heap.size w W := fun W hW => by
    have e := (hW.block _ hl1).trans hx1
    exact ⟨(row_cells e).1 1, hc.grow (hb1.trans (Joins.below_le hW hb1.size)), hb1.trans (Joins.below_le hW hb1.size)⟩
  have hok : ∀ c ∈ n.cells, c.ok true := fun c hc => by have := may_ok hm c hc; rwa [hleaf] at this
  have hle : ∀ i, bigOf (n.cells.take i) ≤ 21000 := fun i => bigOf_le fun c hc => PC.by_length true (hs.each c (List.mem_of_mem_take hc))
  have HKEEP := Lib.hid hkeep
  have HW1 := Lib.hid hw1
  have HOK := Lib.hid hok
  have HLE := Lib.hid hle
  have HEACH := Lib.hid hs.each
  have hL : n.cells.length ≤ 1000 := hs.cells
  clear hc hk' hw1 hb1 hx1 hl1 hkeep hok hle hm hs hleaf
  go_enter Try.func29, Try.ntmps29
  go_upto_region 1 with fail
  rw [← HW1.out]
  go_wp2_with fail
  go_loopw [3, 4, 5] (fun s3 s4 _ wr => ∃ i : Nat, s4 = .int .i64 (i : Int) ∧ i ≤ n.cells.length ∧ s3 = .int .i64 ((bigOf (n.cells.take i) : Nat) : Int) ∧ Hid (Below w1.heap.size w1 wr)) (fun _ s4 _ _ => n.cells.length - (intOf s4).toNat)
  case atStart => exact ⟨0, rfl, Nat.zero_le _, by simp [bigOf], Lib.hid (Below.refl _ _)⟩
  case round =>
    obtain ⟨i, rfl, hi, rfl, hbw⟩ := hrel
    obtain ⟨wz, hwz⟩ : ∃ wz : World, wz = wr := ⟨_, rfl⟩
    subst hwz
    obtain ⟨y1, hcz, hbz⟩ := HKEEP.out _ hbw.out
    have hq := HLE.out i
    by_cases hil : i < n.cells.length
    · have a1 : (i : Int) < (n.cells.length : Int) := by omega
      have a0 : (0 : Int) ≤ (i : Int) := by omega
      obtain ⟨c, hci⟩ : ∃ c, n.cells[i]? = some c := ⟨_, List.getElem?_eq_getElem hil⟩
      have hcm' := List.mem_of_getElem? hci
      have s1 : ∀ W : World, (Instr.slice 22 (.slice Ac n.cells.length cc) (some (.int .i64 (i : Int))) (some (.int .i64 ((i : Int) + 1))) none).run Try.prog W = .ok (.slice (atFrom Ac cc i 4) 1 (cc - i)) W := fun W => oneRC W Ac _ cc i (by omega)
      have s1' : ∀ W : World, (Instr.sliceAt 22 (.slice Ac n.cells.length cc) (some (.int .i64 (i : Int))) (some (.int .i64 ((i : Int) + 1))) none).run Try.prog W = .ok (.slice (atFrom Ac cc i 4) 1 (cc - i)) W := fun W => (run_sliceAt_slice _ _ _ _ _ _ elem_RC).trans (s1 W)
      have hone : CsN wz Any (.slice (atFrom Ac cc i 4) 1 (cc - i)) [c] := by
        have h1 := CsN.drop hcz (k := i) (by omega)
        rw [show n.cells.length - i = (n.cells.drop i).length by simp] at h1
        have h2 := CsN.take h1 (k := 1) (by rw [List.length_drop]; omega)
        rw [List.drop_eq_getElem_cons hil] at h2
        have h3 : n.cells[i] = c := (List.getElem?_eq_some_iff.1 hci).2
        rw [h3] at h2
        exact h2
      have cG := given_any ⟨true, [c], []⟩ (.agg #[.bool true, .slice (atFrom Ac cc i 4) 1 (cc - i), .slice none 0 0]) wz ⟨_, _, rfl, hone, KsN.nil _ _⟩ (by simp) (by simp)
      obtain ⟨z, hz⟩ : ∃ z, z = szC true c := ⟨_, rfl⟩
      have hzs : PN.size ⟨true, [c], []⟩ = 2 + z := by rw [one_size (HOK.out c hcm'), hz]
      have hzb : z ≤ 21000 := by rw [hz]; exact PC.by_length true (HEACH.out c hcm')
      have hsm : PN.small ⟨true, [c], []⟩ := ⟨by simp, by simp, fun d hd => by rcases List.mem_cons.1 hd with rfl | hd; exact HEACH.out _ hcm'; cases hd⟩
      have hnew : bigOf (n.cells.take (i + 1)) = max (bigOf (n.cells.take i)) z := by rw [bigOf_snoc hci, hz]
      obtain ⟨q, hqq⟩ : ∃ q, q = bigOf (n.cells.take i) := ⟨_, rfl⟩
      rw [← hqq] at hnew hq ⊢
      have HN := Lib.hid hnew
      have HZS := Lib.hid hzs
      have HSM := Lib.hid hsm
      have hwi : wrap64 ((i : Int) + 1) = (i : Int) + 1 := by unfold wrap64; omega
      clear hnew hzs hsm hqq hz hone hci hcm' hcz
      go_wp2_with fail
      refine cG.mono ?_
      rintro e w2 ⟨v2, rfl, ho2, hb2⟩
      have hb12 := hbw.out.trans (Joins.below_le hb2 hbw.out.size)
      have cS := size_any ⟨true, [c], []⟩ v2 w2 ho2.node.any HSM.out
      rw [HZS.out] at cS
      have HB12 := Lib.hid hb12
      clear cG ho2 hb2 hb12
      go_wp2_with fail
      refine cS.mono ?_
      rintro e w3 ⟨rfl, hb3⟩
      have HB13 := Lib.hid (HB12.out.trans (Joins.below_le hb3 HB12.out.size))
      clear cS hb3 HB12
      have hsub : wrap64 (((2 + z : Nat) : Int) - 2) = (z : Int) := by unfold wrap64; omega
      go_wp2_with fail
      exact ⟨⟨i + 1, by go_num, hil, by rw [HN.out]; apply congrArg; split <;> omega, HB13⟩, by simp [intOf]; omega⟩
    · have a1 : ¬ (i : Int) < (n.cells.length : Int) := by omega
      rw [List.take_of_length_le (by omega)]
      have HF := Lib.hid hbz
      clear hbz hcz
      go_wp2_with fail
      go_ret
      exact ⟨rfl, HF.out⟩
end Go.Proofs.Ytedcknlafkokkaa
