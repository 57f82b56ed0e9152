/-
  PartsForms: what its calls come to. No statement is proved here. No condition.
-/
import Derived.Test.YtfmaocinckeagaaDoorQNothing
import Derived.Test.YtfmaocinckeagaaDoorQPoke
import Derived.Test.YtfmaocinckeagaaDoorQRefCut
namespace Go.Proofs.YtfmaocinckeagaaDoor
open Go.RowKit

/-- a row of the law: a part's place, how many, its bytes, may it be -/
structure FR where
  p : Nat
  m : Nat
  s : Nat
  ok : Bool
deriving Inhabited
def frows : List FR := [⟨21, 22, 212, true⟩, ⟨21, 22, 213, false⟩, ⟨21, 23, 380, false⟩, ⟨22, 23, 1, false⟩, ⟨1, 2, 0, false⟩, ⟨1, 2, 1, true⟩, ⟨1, 2, 380, true⟩, ⟨1, 2, 381, false⟩, ⟨0, 2, 379, false⟩, ⟨0, 2, 380, true⟩, ⟨0, 1, 0, true⟩, ⟨0, 1, 381, false⟩, ⟨1, 1, 5, false⟩, ⟨0, 0, 0, false⟩]
def zs (n : Nat) : List UInt8 := List.replicate n 0
theorem zs_len (n : Nat) : (zs n).length = n := List.length_replicate
/-- what reading a packet of any small numbers comes to -/
theorem read_any_pkt {n p m : Nat} {d : List UInt8} (hn : n ≤ 2147483647) (hp : p ≤ 2147483647) (hm : m ≤ 2147483647) (hd : d.length ≤ 8000) : readP (pkt n p m d) = match partIn (pbody n p m d) with | none => (4, none) | some p => (0, some p) := by
  have h1 := uv_length64 n (by unfold U64; omega)
  have h2 := uv_length64 p (by unfold U64; omega)
  have h3 := uv_length64 m (by unfold U64; omega)
  have h4 := uv_length64 d.length (by unfold U64; omega)
  have h : (pbody n p m d).length ≤ 8192 := by
    unfold pbody tv
    simp only [List.length_append]
    omega
  unfold readP pkt
  rw [opened_frame 1 _ (by omega)]
  simp only [ne_eq, not_true_eq_false, if_false]
  cases partIn (pbody n p m d) <;> rfl
theorem forms_some : ∀ x ∈ frows, (partIn (pbody 5 x.p x.m (zs x.s))).isSome = x.ok := by decide +kernel
theorem forms_num : ∀ x ∈ frows, (partIn (pbody 5 x.p x.m (zs x.s))).all (fun q => q.number == 5) = true := by decide +kernel
theorem forms_facts : ∀ x ∈ frows, x.p ≤ 100 ∧ x.m ≤ 100 ∧ x.s ≤ 381 := by decide +kernel
theorem forms_read {x : FR} (h : x ∈ frows) : (x.ok = true ∧ ∃ p, p.number = 5 ∧ readP (xpkt 5 x.p x.m (zs x.s)) = (0, some p)) ∨ (x.ok = false ∧ readP (xpkt 5 x.p x.m (zs x.s)) = (4, none)) := by
  obtain ⟨h1, h2, h3⟩ := forms_facts x h
  have hs := forms_some x h
  have hx : xpkt 5 x.p x.m (zs x.s) = pkt 5 x.p x.m (zs x.s) := xpkt_nat (n := 5) (by omega) (by omega) (by omega)
  have hr := read_any_pkt (n := 5) (p := x.p) (m := x.m) (d := zs x.s) (by omega) (by omega) (by omega) (by rw [zs_len]; omega)
  rw [hx, hr]
  cases hp : partIn (pbody 5 x.p x.m (zs x.s)) with
  | none => rw [hp] at hs; exact .inr ⟨hs.symm, rfl⟩
  | some q =>
    rw [hp] at hs
    refine .inl ⟨hs.symm, q, ?_, rfl⟩
    have : (partIn (pbody 5 x.p x.m (zs x.s))).all (fun q => q.number == 5) = true := forms_num x h
    rw [hp] at this
    simpa using this
theorem xpkt_small {x : FR} (h : x ∈ frows) : (xpkt 5 x.p x.m (zs x.s)).length ≤ 500 := by
  obtain ⟨h1, h2, h3⟩ := forms_facts x h
  have hx : xpkt 5 x.p x.m (zs x.s) = pkt 5 x.p x.m (zs x.s) := xpkt_nat (n := 5) (by omega) (by omega) (by omega)
  have h1 := uv_length64 5 (by unfold U64; omega)
  have h2 := uv_length64 x.p (by unfold U64; omega)
  have h3 := uv_length64 x.m (by unfold U64; omega)
  have h4 := uv_length64 (zs x.s).length (by unfold U64; rw [zs_len]; omega)
  rw [hx]
  unfold pkt pbody tv
  rw [frame_length]
  simp only [List.length_append]
  rw [zs_len] at *
  omega
/-- the law's rows, in memory -/
def FT (T : Nat) (w : World) : Prop :=
  ∀ k, k < 14 → ∃ x : FR, x ∈ frows ∧ w.cell? ⟨T, k * 4, none⟩ = some (.int .i64 (x.p : Int)) ∧ w.cell? ⟨T, k * 4 + 1, none⟩ = some (.int .i64 (x.m : Int)) ∧ w.cell? ⟨T, k * 4 + 2, none⟩ = some (.int .i64 (x.s : Int)) ∧ w.cell? ⟨T, k * 4 + 3, none⟩ = some (.bool x.ok)
theorem FT.below {T B : Nat} {w w' : World} (h : FT T w) (hb : Below B w w') (hT : T < B) : FT T w' := by
  intro k hk
  obtain ⟨x, h0, h1, h2, h3, h4⟩ := h k hk
  exact ⟨x, h0, (hb.cell (p := ⟨T, _, none⟩) hT).trans h1, (hb.cell (p := ⟨T, _, none⟩) hT).trans h2, (hb.cell (p := ⟨T, _, none⟩) hT).trans h3, (hb.cell (p := ⟨T, _, none⟩) hT).trans h4⟩
theorem ft_ok {w : World} {T : Nat} {E : TypeId} (h : w.heap[T]? = some (.cells #[.int .i64 21, .int .i64 22, .int .i64 212, .bool true, .int .i64 21, .int .i64 22, .int .i64 213, .bool false, .int .i64 21, .int .i64 23, .int .i64 380, .bool false, .int .i64 22, .int .i64 23, .int .i64 1, .bool false, .int .i64 1, .int .i64 2, .int .i64 0, .bool false, .int .i64 1, .int .i64 2, .int .i64 1, .bool true, .int .i64 1, .int .i64 2, .int .i64 380, .bool true, .int .i64 1, .int .i64 2, .int .i64 381, .bool false, .int .i64 0, .int .i64 2, .int .i64 379, .bool false, .int .i64 0, .int .i64 2, .int .i64 380, .bool true, .int .i64 0, .int .i64 1, .int .i64 0, .bool true, .int .i64 0, .int .i64 1, .int .i64 381, .bool false, .int .i64 1, .int .i64 1, .int .i64 5, .bool false, .int .i64 0, .int .i64 0, .int .i64 0, .bool false] E (0, 0))) : FT T w := by
  have hc := (blk_cells h).1
  intro k hk
  match k, hk with
  | 0, _ => exact ⟨_, List.mem_of_getElem? (show frows[0]? = some _ from rfl), hc 0, hc 1, hc 2, hc 3⟩
  | 1, _ => exact ⟨_, List.mem_of_getElem? (show frows[1]? = some _ from rfl), hc 4, hc 5, hc 6, hc 7⟩
  | 2, _ => exact ⟨_, List.mem_of_getElem? (show frows[2]? = some _ from rfl), hc 8, hc 9, hc 10, hc 11⟩
  | 3, _ => exact ⟨_, List.mem_of_getElem? (show frows[3]? = some _ from rfl), hc 12, hc 13, hc 14, hc 15⟩
  | 4, _ => exact ⟨_, List.mem_of_getElem? (show frows[4]? = some _ from rfl), hc 16, hc 17, hc 18, hc 19⟩
  | 5, _ => exact ⟨_, List.mem_of_getElem? (show frows[5]? = some _ from rfl), hc 20, hc 21, hc 22, hc 23⟩
  | 6, _ => exact ⟨_, List.mem_of_getElem? (show frows[6]? = some _ from rfl), hc 24, hc 25, hc 26, hc 27⟩
  | 7, _ => exact ⟨_, List.mem_of_getElem? (show frows[7]? = some _ from rfl), hc 28, hc 29, hc 30, hc 31⟩
  | 8, _ => exact ⟨_, List.mem_of_getElem? (show frows[8]? = some _ from rfl), hc 32, hc 33, hc 34, hc 35⟩
  | 9, _ => exact ⟨_, List.mem_of_getElem? (show frows[9]? = some _ from rfl), hc 36, hc 37, hc 38, hc 39⟩
  | 10, _ => exact ⟨_, List.mem_of_getElem? (show frows[10]? = some _ from rfl), hc 40, hc 41, hc 42, hc 43⟩
  | 11, _ => exact ⟨_, List.mem_of_getElem? (show frows[11]? = some _ from rfl), hc 44, hc 45, hc 46, hc 47⟩
  | 12, _ => exact ⟨_, List.mem_of_getElem? (show frows[12]? = some _ from rfl), hc 48, hc 49, hc 50, hc 51⟩
  | 13, _ => exact ⟨_, List.mem_of_getElem? (show frows[13]? = some _ from rfl), hc 52, hc 53, hc 54, hc 55⟩
/-- a Take of such a packet, by a joiner that has nothing -/
theorem ftake_any {w : World} {B j mb : Nat} {x : FR} (hx : x ∈ frows) (hJ : JHas w (fun b => B ≤ b) j mb 0 []) (hB : B ≤ w.heap.size) (ht : Tab w) {v : Value} (hv : Rd w w.heap.size v (xpkt 5 x.p x.m (zs x.s))) :
    Calls Tryd.prog 13 #[.pointer (some ⟨j, 0, none⟩), .int .i64 1, v] w fun r w' => (∃ A n c bo er, r = .returned (.tuple #[.slice A n c, .bool bo, .int .i64 er]) ∧ ((x.ok = true ∧ er = 0) ∨ (x.ok = false ∧ er = 4))) ∧ Below B w w' := by
  have hl := xpkt_small hx
  rcases forms_read hx with ⟨ho, p, hn, hr⟩ | ⟨ho, hr⟩
  · refine (jtake_any hJ _ v 1 (by unfold I64; omega) p ht hv (by omega) hr (by unfold maxLen; omega) (fun b hb => Nat.le_trans hB hb)).mono ?_
    rintro r w' ⟨v', k, rfl, e2, e3, e4⟩
    obtain ⟨A, c, rfl⟩ := own_slice e2
    exact ⟨⟨A, _, c, _, 0, rfl, .inl ⟨ho, rfl⟩⟩, e4.below hB (fun b hb => hb)⟩
  · refine (ptake_no _ v 1 j 4 w ht hv (by omega) hr (by decide)).mono ?_
    rintro r w' ⟨rfl, hb⟩
    exact ⟨⟨none, 0, 0, false, 4, rfl, .inr ⟨ho, rfl⟩⟩, hb.mono hB⟩
/-! the second half -/
theorem noughts_own (n : Nat) (hn : n ≤ 140737488355328) (w : World) : ∃ w', (Instr.makeSlice 27 (.int .i64 (n : Int)) (.int .i64 (n : Int))).run Tryd.prog w = .ok (.slice (some ⟨w.heap.size, 0, none⟩) n n) w' ∧ w'.ownsRow w.heap.size 5 1 (.slice (some ⟨w.heap.size, 0, none⟩) n n) n (BS (List.replicate n 0)) ∧ Below w.heap.size w w' := by
  obtain ⟨i0, hi, hz0, hz1, hz2⟩ := info_parts info_u8
  obtain ⟨w', h1, h2, h3⟩ := run_make_full (P := Tryd.prog) w w.heap.size 27 5 i0 _ 1 Tryd.underlying27 hi hz0 hz1 .i64 .i64 n (by rw [hz2]; omega) (by unfold maxLen; omega) (Nat.le_refl _)
  have hBS : (madeCells (Value.int .u8 0).cells (n * 1)).toList = BS (List.replicate n 0) := by
    show (madeCells #[Value.int .u8 0] (n * 1)).toList = _
    rw [toList_madeCells_one]
    unfold BS
    rw [List.map_replicate, Nat.mul_one]
    rfl
  rw [hBS] at h2
  exact ⟨w', h1, h2, (Below.refl _ _).grown h3 (Nat.le_refl _) (fun k h => by cases h)⟩
/-- a message that was told is apart from a joiner that has nothing -/
theorem JHas.apart {w : World} {G : Nat → Prop} {j mb n B k g : Nat} {v : Value} {xs : List Value} (h : JHas w G j mb n []) (ho : w.ownsRow B 5 1 v k xs) (hv : v.ownBlock = some g) : JHas w (fun b => G b ∧ b ≠ g) j mb n [] := by
  obtain ⟨rv, L, hJ, e⟩ := h.is
  obtain rfl : L = [] := List.map_eq_nil_iff.1 e
  obtain ⟨cur, hg⟩ := row_type ho hv
  obtain ⟨D, ⟨es, clock, hm, -⟩, -⟩ := id hJ.map
  exact ⟨⟨rv, [], ⟨hJ.obj, hJ.row, hJ.map, hJ.msg, hJ.good, hJ.keys, hJ.ps, hJ.ss, ⟨hJ.gj, apart_T hJ.obj hg (by decide)⟩, ⟨hJ.gm, fun e => apart_M hg hm e.symm⟩, fun b hb => ⟨hJ.gr b hb, rows_apart hJ.row ho (by decide) hb hv⟩, fun e he => by cases he⟩, rfl⟩, h.ok⟩
def zz380 : List UInt8 := zs 380
def ot380 : List UInt8 := zz380.set 0 7
theorem zz380_len : zz380.length = 380 := zs_len 380
theorem ot380_len : ot380.length = 380 := by unfold ot380; rw [List.length_set, zz380_len]
theorem r_ot : readP (xpkt 5 0 2 ot380) = (0, some ⟨5, 0, 2, ot380⟩) := by
  have h := read_pkt (n := 5) (p := 0) (m := 2) (d := ot380) (by omega) (by omega) (by omega) (by rw [ot380_len]; omega) (by rw [ot380_len]; rfl)
  rw [← xpkt_nat (by omega) (by omega) (by omega)] at h
  exact h
theorem r_zz : readP (xpkt 5 0 2 zz380) = (0, some ⟨5, 0, 2, zz380⟩) := by
  have h := read_pkt (n := 5) (p := 0) (m := 2) (d := zz380) (by omega) (by omega) (by omega) (by rw [zz380_len]; omega) (by rw [zz380_len]; rfl)
  rw [← xpkt_nat (by omega) (by omega) (by omega)] at h
  exact h
theorem r_x : readP (xpkt 5 1 2 [120]) = (0, some ⟨5, 1, 2, [120]⟩) := by
  have h := read_pkt (n := 5) (p := 1) (m := 2) (d := [120]) (by omega) (by omega) (by omega) (by decide) (by decide)
  rw [← xpkt_nat (by omega) (by omega) (by omega)] at h
  exact h
def jA : List KP := (stepJ [] (1, 5) ⟨5, 0, 2, ot380⟩).2
def jB : List KP := (stepJ jA (1, 5) ⟨5, 0, 2, zz380⟩).2
theorem f_facts : (stepJ [] (1, 5) ⟨5, 0, 2, ot380⟩).1 = none ∧ (stepJ jA (1, 5) ⟨5, 0, 2, zz380⟩).1 = none ∧ (stepJ jB (1, 5) ⟨5, 1, 2, [120]⟩).1 = some (ot380 ++ [120]) ∧ (stepJ jB (1, 5) ⟨5, 1, 2, [120]⟩).2.isEmpty = true := by
  refine ⟨by decide +kernel, by decide +kernel, by decide +kernel, by decide +kernel⟩
theorem f_empty : (stepJ jB (1, 5) ⟨5, 1, 2, [120]⟩).2 = [] := List.isEmpty_iff.1 f_facts.2.2.2
def fb4 : List UInt8 := [5, 0, 1, 0]
theorem s_kind : sealedOf 2 fb4 = (0, frame 2 fb4) := by unfold sealedOf; rw [if_neg (by decide)]
theorem s_right : sealedOf 1 fb4 = (0, frame 1 fb4) := by unfold sealedOf; rw [if_neg (by decide)]
theorem r_kind : readP (frame 2 fb4) = (4, none) := by
  unfold readP
  rw [opened_frame 2 _ (by decide)]
  rfl
theorem r_right : readP (frame 1 fb4) = (0, some ⟨5, 0, 1, []⟩) := by
  unfold readP
  rw [opened_frame 1 _ (by decide)]
  rfl
theorem f_last : stepJ [] (1, 5) ⟨5, 0, 1, []⟩ = (some [], []) := rfl
theorem fr_len (k : UInt8) : (frame k fb4).length ≤ 100 := by rw [frame_length]; decide
theorem xl_ot : (xpkt 5 0 2 ot380).length ≤ 500 := by
  have := pkt_small (n := 5) (p := 0) (m := 2) (d := ot380) (by omega) (by omega) (by omega) (by rw [ot380_len]; omega)
  rw [← xpkt_nat (by omega) (by omega) (by omega)] at this
  exact Nat.le_trans this (by omega)
theorem xl_zz : (xpkt 5 0 2 zz380).length ≤ 500 := by
  have := pkt_small (n := 5) (p := 0) (m := 2) (d := zz380) (by omega) (by omega) (by omega) (by rw [zz380_len]; omega)
  rw [← xpkt_nat (by omega) (by omega) (by omega)] at this
  exact Nat.le_trans this (by omega)
theorem xl_x : (xpkt 5 1 2 [120]).length ≤ 500 := by
  have := pkt_small (n := 5) (p := 1) (m := 2) (d := [120]) (by omega) (by omega) (by omega) (by decide)
  rw [← xpkt_nat (by omega) (by omega) (by omega)] at this
  exact Nat.le_trans this (by omega)
theorem m_last : (ot380 ++ [120])[380]'(by rw [List.length_append, ot380_len]; decide) = 120 := by decide +kernel
end Go.Proofs.YtfmaocinckeagaaDoor
