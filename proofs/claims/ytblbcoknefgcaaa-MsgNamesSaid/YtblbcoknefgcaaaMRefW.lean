/-
  The document's words for writing a message: a number, a kind, a result, numbers. No statement is proved here. No condition.
-/
import Derived.Test.YtblbcoknefgcaaaMEnc
import Derived.Test.YtblbcoknefgcaaaRef
namespace Go.Proofs.Ytblbcoknefgcaaa
open Go.RowKit

/-- more bytes, in new memory -/
def Adds (w w' : World) (l x : List UInt8) (e : Ending) : Prop := ∃ v', e = .returned v' ∧ w'.ownsRow w.heap.size 5 1 v' (l ++ x).length (BS (l ++ x)) ∧ Below w.heap.size w w'
theorem rcount_any (l : List UInt8) (b : Value) (n : Int) (w : World) (hb : Rd w w.heap.size b l) (hl : l.length ≤ 140737488355318) :
    Calls Try.prog 48 #[b, .int .i64 n] w fun e w' => Adds w w' l (cv n) e := by
  unfold cv
  by_cases h : n < 0 ∨ 2147483647 < n
  · rw [if_pos h]
    refine (xcount_no l b n w hb h hl).mono fun e w' h' => ?_
    unfold Adds
    rw [List.append_nil]
    exact h'
  · rw [if_neg h]
    exact xcount_any l b n w hb (by omega) (by omega) hl
theorem rkind_any (l : List UInt8) (b : Value) (n : Int) (w : World) (hb : Rd w w.heap.size b l) (hn : 0 ≤ n ∧ n ≤ 255) (hl : l.length ≤ 140737488355318) :
    Calls Try.prog 43 #[b, .int .u8 n] w fun e w' => Adds w w' l (cv n) e := by
  have c := rcount_any l b n w hb hl
  have hw : wrap64 n = n := by unfold wrap64; omega
  clear hb hl
  go_enter Try.func43, Try.ntmps43
  go_wp2_with fail
  refine c.mono ?_
  rintro e w' ⟨v, rfl, h⟩
  clear c
  have H := Lib.hid h
  clear h
  go_wp2_with fail
  go_ret
  exact ⟨_, rfl, H.out⟩
theorem rnum_any (l : List UInt8) (b : Value) (n : Int) (w : World) (hb : Rd w w.heap.size b l) (hn : I64 n) (hl : l.length ≤ 140737488355318) :
    Calls Try.prog 44 #[b, .int .i64 n] w fun e w' => Adds w w' l (uv (zz n)) e := by
  have c := xnum_any l b n w hb hn hl
  have hw : wrap64 n = n := by unfold I64 at hn; unfold wrap64; omega
  clear hb hl
  go_enter Try.func44, Try.ntmps44
  go_wp2_with fail
  refine c.mono ?_
  rintro e w' ⟨v, rfl, h⟩
  clear c
  have H := Lib.hid h
  clear h
  go_wp2_with fail
  go_ret
  exact ⟨_, rfl, H.out⟩
/-- numbers, each -/
def nsB (l : List Int) : List UInt8 := l.flatMap fun n => uv (zz n)
theorem nsB_take {l : List Int} {i : Nat} {x : Int} (h : l[i]? = some x) : nsB (l.take (i + 1)) = nsB (l.take i) ++ uv (zz x) := by
  unfold nsB
  have : l.take (i + 1) = l.take i ++ [x] := by rw [List.take_add_one, h]; rfl
  rw [this, List.flatMap_append]
  simp
theorem zz_short (n : Int) (hn : I64 n) : (uv (zz n)).length ≤ 10 := uv_length64 _ (by unfold U64; unfold I64 at hn; unfold zz; split <;> omega)
theorem nsB_len {l : List Int} (h : ∀ n ∈ l, I64 n) : (nsB l).length ≤ 10 * l.length := by
  induction l with
  | nil => simp [nsB]
  | cons a l ih =>
    have h1 := zz_short a (h a (by simp))
    have h2 := ih fun n hn => h n (by simp [hn])
    unfold nsB at *
    simp only [List.flatMap_cons, List.length_append, List.length_cons]
    omega
set_option maxHeartbeats 1000000 in
set_option maxRecDepth 100000 in
theorem rnumbers_any (l : List UInt8) (b va : Value) (ns : List Int) (w : World) (hb : Rd w w.heap.size b l) (ha : inR.N w Any va ns) (hn : ∀ n ∈ ns, I64 n) (hl : l.length ≤ 100000000) (hns : ns.length ≤ 100000) :
    Calls Try.prog 49 #[b, va] w fun e w' => Adds w w' l (cv ns.length ++ nsB ns) e := by
  obtain ⟨A, c, rfl, -, -⟩ := ha.slice
  have HA := Lib.hid ha
  have HN := Lib.hid hn
  have cC := rcount_any l b ns.length w hb (by omega)
  have hcv := cv_short ns.length
  clear ha hn hb
  go_enter Try.func49, Try.ntmps49
  go_wp2_with fail
  refine cC.mono ?_
  rintro e w1 ⟨v1, rfl, ho, hb⟩
  clear cC
  obtain ⟨pre, hpre⟩ : ∃ pre, pre = l ++ cv ns.length := ⟨_, rfl⟩
  rw [← hpre] at ho
  have hpl : pre.length ≤ 100000010 := by rw [hpre, List.length_append]; omega
  have HPR := Lib.hid hpre
  have HO : Hid (w1.ownsRow w.heap.size 5 1 v1 (pre ++ nsB (ns.take 0)).length (BS (pre ++ nsB (ns.take 0))) ∧ Below w.heap.size w w1) := Lib.hid ⟨by rw [List.take_zero, show nsB [] = [] from rfl, List.append_nil]; exact ho, hb⟩
  have HPL := Lib.hid (And.intro hpl hns)
  clear ho hb hpre hcv hpl hl hns
  go_wp2_with fail
  go_loopw [0, 5] (fun s0 s5 wr => ∃ i : Nat, s5 = .int .i64 (i : Int) ∧ i ≤ ns.length ∧ Hid (wr.ownsRow w.heap.size 5 1 s0 (pre ++ nsB (ns.take i)).length (BS (pre ++ nsB (ns.take i))) ∧ Below w.heap.size w wr)) (fun _ s5 _ => ns.length - (RowKit.intOf s5).toNat)
  case atStart => exact ⟨0, rfl, Nat.zero_le _, HO⟩
  case round =>
    clear HO
    obtain ⟨i, rfl, hi, hR⟩ := hrel
    obtain ⟨wz, hwz⟩ : ∃ wz : World, wz = wr := ⟨_, rfl⟩
    subst hwz
    have hpl := HPL.out
    by_cases hil : i < ns.length
    · have a1 : (i : Int) < (ns.length : Int) := by omega
      have a0 : (0 : Int) ≤ (i : Int) := by omega
      obtain ⟨y, hy⟩ : ∃ y, ns[i]? = some y := ⟨_, List.getElem?_eq_getElem hil⟩
      obtain ⟨g, o, m, k, hv, -, -, hc⟩ := (HA.out.grow hR.out.2).cell hy
      injection hv with v1 v2 v3
      subst v1
      have y0 : wz.cell? ⟨g, o + i, none⟩ = some (.int .i64 y) := by simpa [inR] using hc 0 _ rfl
      have hyr := HN.out y (List.mem_of_getElem? hy)
      have hln := nsB_len (l := ns.take i) fun n hn => HN.out n (List.mem_of_mem_take hn)
      rw [List.length_take] at hln
      have c1 := fun sv (h : wz.ownsRow w.heap.size 5 1 sv (pre ++ nsB (ns.take i)).length (BS (pre ++ nsB (ns.take i)))) => rnum_any _ sv y wz (Rd.own h) hyr (by rw [List.length_append]; omega)
      have c1 := c1 _ hR.out.1
      have HY := Lib.hid hy
      clear hy hln v2 v3 hc hyr
      go_wp2_with fail
      refine c1.mono ?_
      rintro e w7 ⟨v7, rfl, ho, hb⟩
      clear c1
      have hws := hR.out.2.size
      have HX : Hid (w7.ownsRow w.heap.size 5 1 v7 (pre ++ nsB (ns.take (i + 1))).length (BS (pre ++ nsB (ns.take (i + 1)))) ∧ Below w.heap.size w w7) := Lib.hid ⟨by
        rw [nsB_take HY.out, ← List.append_assoc]
        exact own_base ho hws, hR.out.2.trans (Joins.below_le hb hR.out.2.size)⟩
      clear ho hb hR hws
      go_wp2_with fail
      exact ⟨⟨i + 1, by go_num, hil, HX⟩, by simp [RowKit.intOf]; omega⟩
    · have a1 : ¬ (i : Int) < (ns.length : Int) := by omega
      have hF := hR.out
      rw [show i = ns.length by omega, List.take_length, HPR.out, List.append_assoc] at hF
      have HF := Lib.hid hF
      clear hF hR hi hil
      go_wp2_with fail
      go_ret
      exact ⟨_, rfl, HF.out⟩
set_option maxHeartbeats 1000000 in
set_option maxRecDepth 100000 in
theorem rresult_any (l : List UInt8) (b : Value) (c : PR) (w : World) (hb : Rd w w.heap.size b l) (hn : c.ok) (hl : l.length ≤ 100000000) (hs : c.val.size ≤ 10000) :
    Calls Try.prog 47 #[b, .agg #[.int .u8 c.kind, .bool c.found, .string c.val]] w fun e w' => Adds w w' l (cv c.kind ++ fv c.found ++ tv c.val.data.toList) e := by
  obtain ⟨x, hx⟩ : ∃ x, x = w.alloc (.cells #[.int .u8 c.kind, .bool c.found, .string c.val] 30) := ⟨_, rfl⟩
  have hbx : Below w.heap.size w x := by rw [hx]; exact (Below.refl _ _).alloc (Nat.le_refl _) _
  obtain ⟨p, hp⟩ : ∃ p, p = w.heap.size := ⟨_, rfl⟩
  have hpk : x.heap[p]? = some (.cells #[.int .u8 c.kind, .bool c.found, .string c.val] 30 (0, 0)) := by rw [hx, hp]; exact heap_alloc_new w _
  have HK : Hid (∀ W, Below x.heap.size x W → Below w.heap.size w W ∧ (W.cell? ⟨p, 0, none⟩ = some (.int .u8 c.kind) ∧ W.cell? ⟨p, 1, none⟩ = some (.bool c.found) ∧ W.cell? ⟨p, 2, none⟩ = some (.string c.val))) := Lib.hid fun W hW => by
    have e := (hW.block p (lt_of_heap hpk)).trans hpk
    exact ⟨hbx.trans (Joins.below_le hW hbx.size), (blk_cells e).1 0, (blk_cells e).1 1, (blk_cells e).1 2⟩
  have hbX : Rd x x.heap.size b l := hb.below hbx hbx.size
  have c1 := rkind_any l b c.kind x hbX hn (by omega)
  have HB0 := Lib.hid (Below.refl x.heap.size x)
  have HV := Lib.hid (And.intro hx (And.intro hp hbx.size))
  have hcv := cv_short c.kind
  have HL := Lib.hid (And.intro hl (And.intro hs hcv))
  clear hb hbX hx hp hpk hbx hl hs hcv hn
  go_enter Try.func47, Try.ntmps47
  go_upto_region 1 with fail
  rw [← HV.out.1, ← HV.out.2.1]
  obtain ⟨-, x0, x1, x2⟩ := HK.out x HB0.out
  go_wp2_with fail
  refine c1.mono ?_
  rintro e w2 ⟨v2, rfl, ho, hb2⟩
  clear c1 x0 x1 x2
  have HB2 := Lib.hid hb2
  have hl := HL.out
  have c2 := xflag_any _ v2 c.found w2 (Rd.own ho) (by rw [List.length_append]; omega)
  clear ho hb2 hl
  obtain ⟨-, x0, x1, x2⟩ := HK.out w2 HB2.out
  go_wp2_with fail
  refine c2.mono ?_
  rintro e w3 ⟨v3, rfl, ho, hb3⟩
  clear c2 x0 x1 x2
  have HB3 := Lib.hid (HB2.out.trans (Joins.below_le hb3 HB2.out.size))
  have hl := HL.out
  have c3 := xstr_any _ v3 c.val w3 (Rd.own ho) (by omega) (by rw [List.length_append, List.length_append, show (fv c.found).length = 1 from rfl]; omega)
  clear ho hb3 hl
  obtain ⟨-, x0, x1, x2⟩ := HK.out w3 HB3.out
  go_wp2_with fail
  refine c3.mono ?_
  rintro e w4 ⟨v4, rfl, ho, hb4⟩
  clear c3 x0 x1 x2
  have hbel := HB3.out.trans (Joins.below_le hb4 HB3.out.size)
  have hsz : w.heap.size ≤ w3.heap.size := Nat.le_trans HV.out.2.2 HB3.out.size
  have HF := Lib.hid (And.intro (own_base ho hsz) (HK.out w4 hbel).1)
  clear ho hb4 hbel
  go_wp2_with fail
  go_ret
  refine ⟨_, rfl, ?_, HF.out.2⟩
  have := HF.out.1
  rw [List.append_assoc, List.append_assoc] at this
  rw [List.append_assoc]
  exact this
end Go.Proofs.Ytblbcoknefgcaaa
