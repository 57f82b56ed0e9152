/-
  How many bytes a node has: the program's. No statement is proved here. No condition.
-/
import Derived.Test.YtedcknlafkokkaaNSize
namespace Go.Proofs.Ytedcknlafkokkaa
open Go.RowKit

structure PN.small (n : PN) : Prop where
  cells : n.cells.length ≤ 1000
  kids : n.kids.length ≤ 1000
  each : ∀ c ∈ n.cells, c.small
def csBy (leaf : Bool) (l : List PC) : List UInt8 := l.flatMap (PC.by leaf)
def ksBy (l : List Int) : List UInt8 := l.flatMap cnt
/-- a node as bytes -/
def PN.by (n : PN) : List UInt8 := fv n.leaf ++ cnt n.cells.length ++ csBy n.leaf n.cells ++ (if n.leaf then [] else ksBy n.kids)
theorem csBy_snoc {leaf : Bool} {l : List PC} {i : Nat} {c : PC} (h : l[i]? = some c) : csBy leaf (l.take (i + 1)) = csBy leaf (l.take i) ++ c.by leaf := by
  unfold csBy
  rw [List.take_add_one, h, List.flatMap_append]
  simp
theorem ksBy_snoc {l : List Int} {i : Nat} {c : Int} (h : l[i]? = some c) : ksBy (l.take (i + 1)) = ksBy (l.take i) ++ cnt c := by
  unfold ksBy
  rw [List.take_add_one, h, List.flatMap_append]
  simp
theorem csBy_le {leaf : Bool} {l : List PC} (h : ∀ c ∈ l, c.small) : (csBy leaf l).length ≤ l.length * 21000 := by
  induction l with
  | nil => simp [csBy]
  | cons c l ih =>
    have h1 := PC.by_length leaf (h c (by simp))
    have h2 := ih (fun d hd => h d (by simp [hd]))
    have e : csBy leaf (c :: l) = c.by leaf ++ csBy leaf l := rfl
    rw [e, List.length_append, List.length_cons]
    omega
theorem ksBy_le (l : List Int) : (ksBy l).length ≤ l.length * 10 := by
  induction l with
  | nil => simp [ksBy]
  | cons c l ih =>
    have h1 := cnt_length c
    have e : ksBy (c :: l) = cnt c ++ ksBy l := rfl
    rw [e, List.length_append, List.length_cons]
    omega
theorem take_small {l : List PC} (h : ∀ c ∈ l, c.small) (i : Nat) : ∀ c ∈ l.take i, c.small := fun c hc => h c (List.mem_of_mem_take hc)
noncomputable def PN.size (n : PN) : Nat := if n.chk then n.by.length else 0
theorem PN.by_le {n : PN} (h : n.small) : n.by.length ≤ 21010011 := by
  have h1 := csBy_le (leaf := n.leaf) h.each
  have h2 := ksBy_le n.kids
  have h3 := h.cells
  have h4 := h.kids
  have h5 := cnt_length (n.cells.length : Int)
  unfold PN.by fv
  obtain ⟨L, hL⟩ : ∃ L, L = n.leaf := ⟨_, rfl⟩
  rw [← hL] at h1 ⊢
  cases L <;> simp only [↓reduceIte, Bool.false_eq_true, List.length_append, List.length_cons, List.length_nil] <;> omega

set_option maxRecDepth 100000 in
theorem size_any (n : PN) (v : Value) (w : World) (h : NodeN w Any v n) (hs : n.small) :
    Calls Try.prog 15 #[v] w fun e w' => e = .returned (.int .i64 (n.size : Int)) ∧ Below w.heap.size w w' := by
  have cC := check_any n v
  obtain ⟨vc, vk, rfl, hc, hk⟩ := id h
  obtain ⟨Ac, cc, rfl, -, -⟩ := hc.slice
  obtain ⟨Ak, ck, rfl, hkl, hkm⟩ := hk.slice
  unfold maxLen at hkm
  have hlc := hs.cells
  have hlk := hs.kids
  have HC := Lib.hid hc
  have HK := Lib.hid hk
  have HE := Lib.hid hs.each
  have HH := Lib.hid h
  clear hc hk h hs
  obtain ⟨w1, hw1⟩ : ∃ w1, w1 = w.alloc (.cells #[.bool n.leaf, .slice Ac n.cells.length cc, .slice Ak n.kids.length ck] 31) := ⟨_, rfl⟩
  have hb1 : Below w.heap.size w w1 := by rw [hw1]; exact (Below.refl _ _).alloc (Nat.le_refl _) _
  have hx1 : w1.heap[w.heap.size]? = some (.cells #[.bool n.leaf, .slice Ac n.cells.length cc, .slice Ak n.kids.length ck] 31 (0, 0)) := by rw [hw1]; exact heap_alloc_new w _
  have cC1 := cC w1 (HH.out.grow hb1) (by omega)
  rw [hw1] at cC1
  have HW1 := Lib.hid hw1
  clear cC hw1
  go_enter Try.func15, Try.ntmps15
  go_wp2_with fail
  refine cC1.mono ?_
  rintro e w2 ⟨rfl, hb2⟩
  rw [← HW1.out] at hb2
  have hbw : Below w.heap.size w w2 := hb1.trans (Joins.below_le hb2 hb1.size)
  have hx2 := (hb2.block _ (boxed hx1)).trans hx1
  clear cC1 hb1 hx1 hb2 HW1
  by_cases hch : n.chk = true
  · have hsz : n.size = n.by.length := by unfold PN.size; rw [if_pos hch]
    have hm := n.chk_iff.1 hch
    have HSZ := Lib.hid hsz
    rw [hch]
    clear hsz
    have cH := headsize_any (n.cells.length : Int)
    have x1 : w2.cell? ⟨w.heap.size, 1, none⟩ = some (.slice Ac n.cells.length cc) := (row_cells hx2).1 1
    go_wp2_with fail
    refine (cH _).mono ?_
    rintro e w3 ⟨rfl, hb3⟩
    have hbw3 : Below w.heap.size w w3 := hbw.trans (Joins.below_le hb3 hbw.size)
    have hx3 := (hb3.block _ (boxed hx2)).trans hx2
    have x1 : w3.cell? ⟨w.heap.size, 1, none⟩ = some (.slice Ac n.cells.length cc) := (row_cells hx3).1 1
    have HB3 := Lib.hid hbw3
    have HX3 := Lib.hid hx3
    obtain ⟨h0, hh0⟩ : ∃ h0, h0 = (cnt (n.cells.length : Int)).length := ⟨_, rfl⟩
    have hh1 := cnt_length (n.cells.length : Int)
    rw [← hh0] at hh1 ⊢
    have HH0 := Lib.hid hh0
    clear hh0 hbw hx2 hb3 hbw3 hx3 cH
    go_wp2_with fail
    go_loopw [3, 5, 18] (fun s3 _ s18 wr => ∃ i : Nat, s18 = .int .i64 (i : Int) ∧ i ≤ n.cells.length ∧ s3 = .int .i64 ((1 + h0 + (csBy n.leaf (n.cells.take i)).length : Nat) : Int) ∧ Hid (Below w.heap.size w wr) ∧ Hid (wr.heap[w.heap.size]? = some (.cells #[.bool n.leaf, .slice Ac n.cells.length cc, .slice Ak n.kids.length ck] 31 (0, 0)))) (fun _ _ s18 _ => n.cells.length - (intOf s18).toNat)
    case atStart => exact ⟨0, rfl, Nat.zero_le _, by simp [csBy], HB3, HX3⟩
    case round =>
      clear HB3 HX3 x1
      obtain ⟨i, rfl, hi, rfl, hbw, hx⟩ := hrel
      obtain ⟨wz, hwz⟩ : ∃ wz : World, wz = wr := ⟨_, rfl⟩
      subst hwz
      have hlt := boxed hx.out
      have hle := csBy_le (leaf := n.leaf) (take_small HE.out i)
      rw [List.length_take, Nat.min_eq_left hi] at hle
      by_cases hil : i < n.cells.length
      · have a1 : (i : Int) < (n.cells.length : Int) := by omega
        have a0 : (0 : Int) ≤ (i : Int) := by omega
        obtain ⟨c, hci⟩ : ∃ c, n.cells[i]? = some c := ⟨_, List.getElem?_eq_getElem hil⟩
        have hcs := HE.out c (List.mem_of_getElem? hci)
        obtain ⟨b, o, n', k', hv, -, hbs, c0, c1, c2, c3⟩ := (HC.out.grow hbw.out).cell hci
        injection hv with e1 e2 e3
        subst e1 e2 e3
        have x0 : wz.cell? ⟨w.heap.size, 0, none⟩ = some (.bool n.leaf) := (row_cells hx.out).1 0
        have hcl := PC.by_length n.leaf hcs
        have hsn := csBy_snoc (leaf := n.leaf) hci
        have cZ := fun W => cellsize_any c n.leaf W hcs
        unfold PC.agg at cZ
        obtain ⟨z, hz⟩ : ∃ z, z = (c.by n.leaf).length := ⟨_, rfl⟩
        obtain ⟨y, hy⟩ : ∃ y, y = (csBy n.leaf (n.cells.take i)).length := ⟨_, rfl⟩
        rw [← hz] at cZ hcl
        rw [← hy] at hle ⊢
        have hnew : (csBy n.leaf (n.cells.take (i + 1))).length = y + z := by rw [hsn, List.length_append, hy, hz]
        have HN := Lib.hid hnew
        have HX := Lib.hid hx.out
        clear hsn hz hy hnew
        go_wp2_with fail
        refine (cZ _).mono ?_
        rintro e w4 ⟨rfl, hb4⟩
        obtain ⟨wa, hwa⟩ : ∃ wa, wa = wz.alloc (.cells #[.string c.key, .string c.val, .int .i64 c.long, .int .i64 c.size] 59) := ⟨_, rfl⟩
        have hba : Below wz.heap.size wz wa := by rw [hwa]; exact (Below.refl _ _).alloc (Nat.le_refl _) _
        rw [← hwa] at hb4
        have hbz4 : Below wz.heap.size wz w4 := hba.trans (Joins.below_le hb4 hba.size)
        have HB4 := Lib.hid (hbw.out.trans (Joins.below_le hbz4 hbw.out.size))
        have HX4 := Lib.hid ((hbz4.block _ hlt).trans HX.out)
        clear hba hwa hb4 hbz4
        go_wp2_with fail
        exact ⟨⟨i + 1, by go_num, hil, by rw [HN.out]; apply congrArg; first | (try simp (disch := omega) only [wrapS, wrapT]); omega, HB4, HX4⟩, by simp [intOf]; omega⟩
      · have a1 : ¬ (i : Int) < (n.cells.length : Int) := by omega
        have hie : i = n.cells.length := by omega
        obtain ⟨y, hy⟩ : ∃ y, y = 1 + h0 + (csBy n.leaf (n.cells.take i)).length := ⟨_, rfl⟩
        have hyb : y ≤ 21000011 := by omega
        have hye : y = 1 + h0 + (csBy n.leaf n.cells).length := by rw [hy, hie, List.take_length]
        rw [← hy]
        have HYE := Lib.hid hye
        have HX := Lib.hid hx.out
        have x2 : wz.cell? ⟨w.heap.size, 2, none⟩ = some (.slice Ak n.kids.length ck) := (row_cells hx.out).1 2
        clear hy hye hle hie hx
        go_wp2_with fail
        go_loopw [3, 7, 32] (fun s3 _ s32 wr => ∃ j : Nat, s32 = .int .i64 (j : Int) ∧ j ≤ n.kids.length ∧ s3 = .int .i64 ((y + (ksBy (n.kids.take j)).length : Nat) : Int) ∧ Hid (Below w.heap.size w wr)) (fun _ _ s32 _ => n.kids.length - (intOf s32).toNat)
        case atStart => exact ⟨0, rfl, Nat.zero_le _, by simp [ksBy], hbw⟩
        case round =>
          clear hbw x2 HX hlt
          obtain ⟨j, rfl, hj, rfl, hbw⟩ := hrel
          obtain ⟨wz, hwz⟩ : ∃ wz : World, wz = wr := ⟨_, rfl⟩
          subst hwz
          have hle := ksBy_le (n.kids.take j)
          rw [List.length_take, Nat.min_eq_left hj] at hle
          by_cases hjl : j < n.kids.length
          · have b1 : (j : Int) < (n.kids.length : Int) := by omega
            have b0 : (0 : Int) ≤ (j : Int) := by omega
            obtain ⟨k, hkj⟩ : ∃ k, n.kids[j]? = some k := ⟨_, List.getElem?_eq_getElem hjl⟩
            obtain ⟨b, o, n', k', hv, -, hbs, c0⟩ := (HK.out.grow hbw.out).cell hkj
            injection hv with e1 e2 e3
            subst e1 e2 e3
            have cZ := countsize_any k
            have hcl := cnt_length k
            have hsn := ksBy_snoc hkj
            obtain ⟨z, hz⟩ : ∃ z, z = (cnt k).length := ⟨_, rfl⟩
            obtain ⟨t, ht⟩ : ∃ t, t = (ksBy (n.kids.take j)).length := ⟨_, rfl⟩
            rw [← hz] at cZ hcl
            rw [← ht] at hle ⊢
            have hnew : (ksBy (n.kids.take (j + 1))).length = t + z := by rw [hsn, List.length_append, ht, hz]
            have HN := Lib.hid hnew
            clear hsn hz ht hnew
            go_wp2_with fail
            refine (cZ _).mono ?_
            rintro e w4 ⟨rfl, hb4⟩
            have HB4 := Lib.hid (hbw.out.trans (Joins.below_le hb4 hbw.out.size))
            clear hb4
            go_wp2_with fail
            exact ⟨⟨j + 1, by go_num, hjl, by rw [HN.out]; apply congrArg; first | (try simp (disch := omega) only [wrapS, wrapT]); omega, HB4⟩, by simp [intOf]; omega⟩
          · have b1 : ¬ (j : Int) < (n.kids.length : Int) := by omega
            have hje : j = n.kids.length := by omega
            have hfin : n.size = y + (ksBy (n.kids.take j)).length := by
              rw [HSZ.out, HYE.out, hje, List.take_length, HH0.out]
              unfold PN.by fv
              have h3 := hm.2.2
              cases hlf : n.leaf with
              | true =>
                rw [hlf] at h3
                have : n.kids = [] := List.eq_nil_of_length_eq_zero h3
                simp [this, ksBy]
                omega
              | false =>
                simp
                omega
            obtain ⟨t, ht⟩ : ∃ t, t = (ksBy (n.kids.take j)).length := ⟨_, rfl⟩
            rw [← ht] at hfin ⊢
            have HFIN := Lib.hid hfin
            clear hfin ht hje hle
            go_wp2_with fail
            go_ret
            exact ⟨ret_int (by rw [HFIN.out]; simp), hbw.out⟩
  · have hch' : n.chk = false := by simpa using hch
    have hsz : n.size = 0 := by unfold PN.size; rw [if_neg hch]
    have HSZ := Lib.hid hsz
    rw [hch']
    clear hsz
    go_wp2_with fail
    go_ret
    refine ⟨ret_int ?_, hbw⟩
    rw [HSZ.out]
    rfl
end Go.Proofs.Ytedcknlafkokkaa
