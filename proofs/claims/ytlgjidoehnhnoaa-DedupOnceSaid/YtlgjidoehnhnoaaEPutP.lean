/-
  The program's generic put, at pairs and at last writes. No statement is proved here. No condition.
-/
import Derived.Test.YtlgjidoehnhnoaaEIns
import Derived.Test.YtlgjidoehnhnoaaEProgB
namespace Go.Proofs.Ytlgjidoehnhnoaa
open Go.RowKit

section
variable {α : Type}
/-- where the new one belongs, as far as has been looked -/
def Behind (gt : α → Bool) (l : List α) (i b : Nat) : Prop := (b < i ∧ ∃ a, l[b]? = some a ∧ gt a = true ∧ (l.take b).any gt = false) ∨ (b = l.length ∧ (l.take i).any gt = false)
theorem repl_at {eq : α → Bool} {x a : α} {l : List α} {i : Nat} (h : l[i]? = some a) (ha : eq a = true) (hp : (l.take i).any eq = false) : repl eq x l = l.set i x := by
  induction l generalizing i with
  | nil => simp at h
  | cons c l ih =>
    cases i with
    | zero =>
      rw [List.getElem?_cons_zero] at h
      injection h with h
      subst h
      simp [repl, ha]
    | succ i =>
      rw [List.getElem?_cons_succ] at h
      rw [List.take_succ_cons, List.any_cons, Bool.or_eq_false_iff] at hp
      simp [repl, hp.1, ih h hp.2]
theorem any_at {p : α → Bool} {a : α} {l : List α} {i : Nat} (h : l[i]? = some a) (ha : p a = true) : l.any p = true := List.any_eq_true.2 ⟨a, List.mem_of_getElem? h, ha⟩
theorem putBy_at {eq gt : α → Bool} {x a : α} {l : List α} {i : Nat} (h : l[i]? = some a) (ha : eq a = true) (hp : (l.take i).any eq = false) : putBy eq gt x l = l.set i x := by
  unfold putBy
  rw [if_pos (any_at h ha)]
  exact repl_at h ha hp
theorem ins_at {gt : α → Bool} {x a : α} {l : List α} {b : Nat} (h : l[b]? = some a) (ha : gt a = true) (hp : (l.take b).any gt = false) : ins gt x l = l.take b ++ x :: l.drop b := by
  induction l generalizing b with
  | nil => simp at h
  | cons c l ih =>
    cases b with
    | zero =>
      rw [List.getElem?_cons_zero] at h
      injection h with h
      subst h
      simp [ins, ha]
    | succ b =>
      rw [List.getElem?_cons_succ] at h
      rw [List.take_succ_cons, List.any_cons, Bool.or_eq_false_iff] at hp
      simp [ins, hp.1, ih h hp.2]
theorem ins_none {gt : α → Bool} {x : α} {l : List α} (hp : l.any gt = false) : ins gt x l = l ++ [x] := by
  induction l with
  | nil => rfl
  | cons c l ih =>
    rw [List.any_cons, Bool.or_eq_false_iff] at hp
    simp [ins, hp.1, ih hp.2]
theorem putBy_behind {eq gt : α → Bool} {x : α} {l : List α} {b : Nat} (he : l.any eq = false) (h : Behind gt l l.length b) : putBy eq gt x l = l.take b ++ x :: l.drop b := by
  unfold putBy
  rw [if_neg (by rw [he]; exact Bool.noConfusion)]
  rcases h with ⟨-, a, ha, hg, hp⟩ | ⟨rfl, hp⟩
  · exact ins_at ha hg hp
  · rw [List.take_length] at hp ⊢
    rw [List.drop_length]
    exact ins_none hp
theorem Behind.step {gt : α → Bool} {l : List α} {i b : Nat} {a : α} (h : Behind gt l i b) (ha : l[i]? = some a) (hg : gt a = false) : Behind gt l (i + 1) b := by
  rcases h with ⟨h1, h2⟩ | ⟨h1, h2⟩
  · exact .inl ⟨by omega, h2⟩
  · refine .inr ⟨h1, ?_⟩
    rw [List.take_add_one, ha, List.any_append, h2]
    simp [hg]
theorem Behind.hit {gt : α → Bool} {l : List α} {i b : Nat} {a : α} (h : Behind gt l i b) (ha : l[i]? = some a) (hg : gt a = true) : Behind gt l (i + 1) (min b i) := by
  have hil := (List.getElem?_eq_some_iff.1 ha).1
  rcases h with ⟨h1, h2⟩ | ⟨h1, h2⟩
  · rw [Nat.min_eq_left (by omega)]
    exact .inl ⟨by omega, h2⟩
  · rw [Nat.min_eq_right (by omega)]
    exact .inl ⟨by omega, a, ha, hg, h2⟩
end

set_option maxHeartbeats 4000000 in
set_option maxRecDepth 100000 in
theorem putPair_any (l : List PP) (x : PP) (q : Nat) (v : Value) (B : Nat) (w : World) (h : pairR.Own w B 24 v l) (hB0 : B ≤ w.heap.size) (hq : w.cell? ⟨q, 1, none⟩ = some (.string x.key)) (hl : l.length ≤ 4398046511000) :
    Calls Try.prog 32 #[v, x.agg, .func (.func 33) #[] #[.pointer (some ⟨q, 0, none⟩)]] w fun e w' => ∃ v', e = .returned v' ∧ pairR.Own w' B 24 v' (putP l x) ∧ Below B w w' ∧ Near v w w' := by
  obtain ⟨w1, hw1⟩ : ∃ w1, w1 = w.alloc (.cells #[.string x.key, .string x.val] 24) := ⟨_, rfl⟩
  have hb1 : Below w.heap.size w w1 := by rw [hw1]; exact (Below.refl _ _).alloc (Nat.le_refl _) _
  have hx1 : w1.heap[w.heap.size]? = some (.cells #[.string x.key, .string x.val] 24 (0, 0)) := by rw [hw1]; exact heap_alloc_new w _
  have hs1 : w1.heap.size = w.heap.size + 1 := by rw [hw1]; simp
  have hql := World.block_lt_of_cell? w _ hq
  have hcl : ∀ (y : PP) W, Below w1.heap.size w1 W → Calls Try.prog 33 #[y.agg, .pointer (some ⟨q, 0, none⟩)] W fun e w' => e = .returned (.int .i64 (cmpB y.key x.key)) ∧ Below W.heap.size W w' := fun y W hW =>
    ord_any y x.key q W ((hW.cell (p := ⟨q, 1, none⟩) (by show q < _; have : q < w.heap.size := hql; omega)).trans ((hb1.cell (p := ⟨q, 1, none⟩) hql).trans hq))
  obtain ⟨A, c, rfl⟩ := h.slice
  have hgb : ∀ b, (Value.slice A l.length c).ownBlock = some b → b < w.heap.size := fun b hb => (h.lt b hb).2
  have HO := Lib.hid (h.below hb1)
  have HC := Lib.hid hcl
  have HX1 := Lib.hid hx1
  have HS1 := Lib.hid hs1
  have HB1 := Lib.hid hb1
  have HW1 := Lib.hid hw1
  have HGB := Lib.hid hgb
  have hlc : l.length ≤ 9223372036854775807 := by omega
  obtain ⟨R, hR⟩ : ∃ R, R = putP l x := ⟨_, rfl⟩
  rw [← hR]
  have HR := Lib.hid hR
  clear h hcl hx1 hs1 hb1 hw1 hgb hq hR
  unfold PP.agg
  go_enter Try.func32, Try.ntmps32
  go_upto_region 1 with fail
  rw [← HW1.out]
  go_wp2_with fail
  go_loopw [7, 8, 9, 10, 15] (fun s7 _ _ _ s15 wr => ∃ i b : Nat, s15 = .int .i64 (i : Int) ∧ s7 = .int .i64 (b : Int) ∧ i ≤ l.length ∧ b ≤ l.length ∧ Hid ((l.take i).any (fun q => decide (q.key = x.key)) = false) ∧ Hid (Behind (fun q => bLt x.key q.key) l i b) ∧ Hid (Below w1.heap.size w1 wr)) (fun _ _ _ _ s15 _ => l.length - (intOf s15).toNat)
  case atStart => exact ⟨0, l.length, rfl, rfl, Nat.zero_le _, Nat.le_refl _, Lib.hid rfl, Lib.hid (.inr ⟨rfl, rfl⟩), Lib.hid (Below.refl _ _)⟩
  case round =>
    obtain ⟨i, b, rfl, rfl, hi, hbl, hp, hG, hB⟩ := hrel
    obtain ⟨wz, hwz⟩ : ∃ wz : World, wz = wr := ⟨_, rfl⟩
    subst hwz
    by_cases hil : i < l.length
    · have a1 : (i : Int) < (l.length : Int) := by omega
      have a0 : (0 : Int) ≤ (i : Int) := by omega
      obtain ⟨p, hpi⟩ : ∃ p, l[i]? = some p := ⟨_, List.getElem?_eq_getElem hil⟩
      have hoz := HO.out.below hB.out
      obtain ⟨bb, o, n', k', hv, -, hbs, c0, c1⟩ := pair_cell hoz.n hpi
      injection hv with e1 e2 e3
      subst e1 e2 e3
      obtain ⟨w2, hw2⟩ : ∃ w2, w2 = wz.alloc (.cells #[.string p.key, .string p.val] 24) := ⟨_, rfl⟩
      have hb2 : Below w1.heap.size w1 w2 := by rw [hw2]; exact hB.out.alloc hB.out.size _
      have hx2 : w2.heap[wz.heap.size]? = some (.cells #[.string p.key, .string p.val] 24 (0, 0)) := by rw [hw2]; exact heap_alloc_new wz _
      obtain ⟨d0, d1⟩ : w2.cell? ⟨wz.heap.size, 0, none⟩ = some (.string p.key) ∧ w2.cell? ⟨wz.heap.size, 1, none⟩ = some (.string p.val) := ⟨(blk_cells hx2).1 0, (blk_cells hx2).1 1⟩
      have cc := HC.out p w2 hb2
      obtain ⟨st, hst⟩ : ∃ st, st = cmpB p.key x.key := ⟨_, rfl⟩
      rw [← hst] at cc
      unfold PP.agg at cc
      have HW2 := Lib.hid hw2
      have HB2 := Lib.hid hb2
      have HST := Lib.hid hst
      have HPI := Lib.hid hpi
      clear hw2 hx2 hb2 hoz hst hpi
      go_upto_region 5 with fail
      rw [← HW2.out]
      go_wp2_with fail
      refine cc.mono ?_
      rintro e w3 ⟨rfl, hb3'⟩
      have hb3 := HB2.out.trans (Joins.below_le hb3' HB2.out.size)
      have HB3 := Lib.hid hb3
      clear cc hb3' d0 d1 c0 c1
      by_cases h0 : st = 0
      · have hk : p.key = x.key := (cmpB_zero _ _).1 (by rw [← HST.out]; exact h0)
        have hxx := (hb3.block _ (by have := HS1.out; omega)).trans HX1.out
        obtain ⟨x0, x1⟩ : w3.cell? ⟨w.heap.size, 0, none⟩ = some (.string x.key) ∧ w3.cell? ⟨w.heap.size, 1, none⟩ = some (.string x.val) := ⟨(blk_cells hxx).1 0, (blk_cells hxx).1 1⟩
        obtain ⟨g, cap, hvg, hgB, hgl, hcap, hcm, hcells, hfz, hupd⟩ := own_upd (HO.out.below hb3) hil
        injection hvg with g1 g2 g3
        injection g1 with g1
        injection g1 with g0 g1
        subst g0 g1 g3
        have hpl : l[i] = p := by have := HPI.out; rw [List.getElem?_eq_getElem hil] at this; exact Option.some.inj this
        rw [hpl] at hcells
        obtain ⟨f0, f1⟩ : w3.cell? ⟨bb, i * 2, none⟩ = some (.string p.key) ∧ w3.cell? ⟨bb, i * 2 + 1, none⟩ = some (.string p.val) := ⟨hcells 0 _ rfl, hcells 1 _ rfl⟩
        obtain ⟨z0, z1⟩ : w3.frozen? ⟨bb, i * 2, none⟩ = false ∧ w3.frozen? ⟨bb, i * 2 + 1, none⟩ = false := ⟨hfz _, hfz _⟩
        have hres : R = l.set i x := by rw [HR.out]; exact putBy_at (by have := HPI.out; exact this) (by simp [hk]) hp.out
        have hup := hupd x
        have HUP := Lib.hid hup
        have HRES := Lib.hid hres
        clear hres hupd hup hcells hfz hxx hk hb3 hpl
        subst h0
        go_wp2_with fail
        go_ret
        exact ⟨_, rfl, by rw [HRES.out]; exact HUP.out.1, (Joins.below_le HB1.out (by omega)).trans ((Joins.below_le HB3.out (by have := HS1.out; omega)).trans HUP.out.2), ((Near.below HB1.out).trans (Near.below HB3.out) HB1.out.size).trans (Near.setCells (pairR.vals x) (i * pairR.size)) (by have := HB1.out.size; have := HB3.out.size; omega)⟩
      · have hne : ¬ p.key = x.key := fun h => h0 (by rw [HST.out]; exact (cmpB_zero _ _).2 h)
        have hp2 : (l.take (i + 1)).any (fun q => decide (q.key = x.key)) = false := by
          rw [List.take_add_one, HPI.out, List.any_append, hp.out]
          simp [hne]
        have HP2 := Lib.hid hp2
        clear hne hp2
        by_cases h1 : 0 < st
        · have hgt : (fun q => bLt x.key q.key) p = true := by
            have := (cmpB_pos p.key x.key).1 (by rw [← HST.out]; exact h1)
            simpa using this
          have HG2 := Lib.hid (Behind.hit hG.out HPI.out hgt)
          have hmn : min (b : Int) (i : Int) = ((min b i : Nat) : Int) := by omega
          clear hgt hb3
          go_wp2_with fail
          refine ⟨⟨i + 1, min b i, by go_num, ?_, hil, Nat.le_trans (Nat.min_le_left _ _) hbl, HP2, HG2, HB3⟩, by simp [intOf]; omega⟩
          first
            | rfl
            | (rw [hmn])
            | (simp; omega)
        · have hgt : (fun q => bLt x.key q.key) p = false := by
            have := mt (cmpB_pos p.key x.key).2 (by rw [← HST.out]; exact h1)
            simpa using this
          have HG2 := Lib.hid (Behind.step hG.out HPI.out hgt)
          clear hgt hb3
          go_wp2_with fail
          exact ⟨⟨i + 1, b, by go_num, rfl, hil, hbl, HP2, HG2, HB3⟩, by simp [intOf]; omega⟩
    · have a1 : ¬ (i : Int) < (l.length : Int) := by omega
      have hie : i = l.length := by omega
      have hall : l.take i = l := List.take_of_length_le (by omega)
      rw [hall] at hp
      have hres : R = l.take b ++ x :: l.drop b := by
        rw [HR.out]
        exact putBy_behind hp.out (by have := hG.out; rw [hie] at this; exact this)
      have hxx := (hB.out.block _ (by have := HS1.out; omega)).trans HX1.out
      obtain ⟨x0, x1⟩ : wz.cell? ⟨w.heap.size, 0, none⟩ = some (.string x.key) ∧ wz.cell? ⟨w.heap.size, 1, none⟩ = some (.string x.val) := ⟨(blk_cells hxx).1 0, (blk_cells hxx).1 1⟩
      obtain ⟨w2, hw2⟩ : ∃ w2, w2 = wz.alloc (.cells #[.string x.key, .string x.val] 24) := ⟨_, rfl⟩
      have hb2 : Below w1.heap.size w1 w2 := by rw [hw2]; exact hB.out.alloc hB.out.size _
      have hx2 : w2.heap[wz.heap.size]? = some (.cells #[.string x.key, .string x.val] 24 (0, 0)) := by rw [hw2]; exact heap_alloc_new wz _
      have hbw : Below w.heap.size w w2 := HB1.out.trans (Joins.below_le hb2 HB1.out.size)
      have cI := insPair_any l b x _ wz.heap.size B w2 (HO.out.below hb2) hbl (Nat.le_trans hB0 hbw.size) hx2 (fun g hg he => by have := HGB.out g hg; have := hB.out.size; have := HS1.out; omega) hl
      have HW2 := Lib.hid hw2
      have HBW := Lib.hid hbw
      have HRES := Lib.hid hres
      clear hw2 hb2 hx2 hbw hres hxx hall hp hG
      go_upto_region 12 with fail
      go_wp2_with fail
      rw [← HW2.out]
      refine cI.mono ?_
      rintro e w3 ⟨v3, rfl, ho3, hb3, hn3⟩
      have HN3 := Lib.hid ((Near.below HBW.out).trans hn3 HBW.out.size)
      have HO3 := Lib.hid ho3
      have HB3 := Lib.hid ((Joins.below_le HBW.out hB0).trans hb3)
      clear cI ho3 hb3 hn3
      go_wp2_with fail
      go_ret
      exact ⟨_, rfl, by rw [HRES.out]; exact HO3.out, HB3.out, HN3.out⟩

set_option maxHeartbeats 4000000 in
set_option maxRecDepth 100000 in
theorem putLast_any (l : List PL) (x : PL) (q : Nat) (v : Value) (B : Nat) (w : World) (h : lastR.Own w B 46 v l) (hB0 : B ≤ w.heap.size) (hq : w.cell? ⟨q, 0, none⟩ = some (.int .i64 x.client)) (hl : l.length ≤ 3518437208880) :
    Calls Try.prog 40 #[v, x.agg, .func (.func 41) #[] #[.pointer (some ⟨q, 0, none⟩)]] w fun e w' => ∃ v', e = .returned v' ∧ lastR.Own w' B 46 v' (noteP l x) ∧ Below B w w' ∧ Near v w w' := by
  obtain ⟨w1, hw1⟩ : ∃ w1, w1 = w.alloc (.cells #[.int .i64 x.client, .int .i64 x.id, .int .u8 x.res.kind, .bool x.res.found, .string x.res.val] 46) := ⟨_, rfl⟩
  have hb1 : Below w.heap.size w w1 := by rw [hw1]; exact (Below.refl _ _).alloc (Nat.le_refl _) _
  have hx1 : w1.heap[w.heap.size]? = some (.cells #[.int .i64 x.client, .int .i64 x.id, .int .u8 x.res.kind, .bool x.res.found, .string x.res.val] 46 (0, 0)) := by rw [hw1]; exact heap_alloc_new w _
  have hs1 : w1.heap.size = w.heap.size + 1 := by rw [hw1]; simp
  have hql := World.block_lt_of_cell? w _ hq
  have hcl : ∀ (y : PL) W, Below w1.heap.size w1 W → Calls Try.prog 41 #[y.agg, .pointer (some ⟨q, 0, none⟩)] W fun e w' => e = .returned (.int .i64 (cmpI y.client x.client)) ∧ Below W.heap.size W w' := fun y W hW =>
    pos_any y x.client q W ((hW.cell (p := ⟨q, 0, none⟩) (by show q < _; have : q < w.heap.size := hql; omega)).trans ((hb1.cell (p := ⟨q, 0, none⟩) hql).trans hq))
  obtain ⟨A, c, rfl⟩ := h.slice
  have hgb : ∀ b, (Value.slice A l.length c).ownBlock = some b → b < w.heap.size := fun b hb => (h.lt b hb).2
  have HO := Lib.hid (h.below hb1)
  have HC := Lib.hid hcl
  have HX1 := Lib.hid hx1
  have HS1 := Lib.hid hs1
  have HB1 := Lib.hid hb1
  have HW1 := Lib.hid hw1
  have HGB := Lib.hid hgb
  have hlc : l.length ≤ 9223372036854775807 := by omega
  obtain ⟨R, hR⟩ : ∃ R, R = noteP l x := ⟨_, rfl⟩
  rw [← hR]
  have HR := Lib.hid hR
  clear h hcl hx1 hs1 hb1 hw1 hgb hq hR
  unfold PL.agg
  go_enter Try.func40, Try.ntmps40
  go_upto_region 1 with fail
  rw [← HW1.out]
  go_wp2_with fail
  go_loopw [7, 8, 9, 10, 15] (fun s7 _ _ _ s15 wr => ∃ i b : Nat, s15 = .int .i64 (i : Int) ∧ s7 = .int .i64 (b : Int) ∧ i ≤ l.length ∧ b ≤ l.length ∧ Hid ((l.take i).any (fun q => decide (q.client = x.client)) = false) ∧ Hid (Behind (fun q => decide (x.client < q.client)) l i b) ∧ Hid (Below w1.heap.size w1 wr)) (fun _ _ _ _ s15 _ => l.length - (intOf s15).toNat)
  case atStart => exact ⟨0, l.length, rfl, rfl, Nat.zero_le _, Nat.le_refl _, Lib.hid rfl, Lib.hid (.inr ⟨rfl, rfl⟩), Lib.hid (Below.refl _ _)⟩
  case round =>
    obtain ⟨i, b, rfl, rfl, hi, hbl, hp, hG, hB⟩ := hrel
    obtain ⟨wz, hwz⟩ : ∃ wz : World, wz = wr := ⟨_, rfl⟩
    subst hwz
    by_cases hil : i < l.length
    · have a1 : (i : Int) < (l.length : Int) := by omega
      have a0 : (0 : Int) ≤ (i : Int) := by omega
      obtain ⟨p, hpi⟩ : ∃ p, l[i]? = some p := ⟨_, List.getElem?_eq_getElem hil⟩
      have hoz := HO.out.below hB.out
      obtain ⟨bb, o, n', k', hv, -, hbs, c0, c1, c2, c3, c4⟩ := last_cell hoz.n hpi
      injection hv with e1 e2 e3
      subst e1 e2 e3
      obtain ⟨w2, hw2⟩ : ∃ w2, w2 = wz.alloc (.cells #[.int .i64 p.client, .int .i64 p.id, .int .u8 p.res.kind, .bool p.res.found, .string p.res.val] 46) := ⟨_, rfl⟩
      have hb2 : Below w1.heap.size w1 w2 := by rw [hw2]; exact hB.out.alloc hB.out.size _
      have hx2 : w2.heap[wz.heap.size]? = some (.cells #[.int .i64 p.client, .int .i64 p.id, .int .u8 p.res.kind, .bool p.res.found, .string p.res.val] 46 (0, 0)) := by rw [hw2]; exact heap_alloc_new wz _
      obtain ⟨d0, d1, d2, d3, d4⟩ : w2.cell? ⟨wz.heap.size, 0, none⟩ = some (.int .i64 p.client) ∧ w2.cell? ⟨wz.heap.size, 1, none⟩ = some (.int .i64 p.id) ∧ w2.cell? ⟨wz.heap.size, 2, none⟩ = some (.int .u8 p.res.kind) ∧ w2.cell? ⟨wz.heap.size, 3, none⟩ = some (.bool p.res.found) ∧ w2.cell? ⟨wz.heap.size, 4, none⟩ = some (.string p.res.val) := ⟨(blk_cells hx2).1 0, (blk_cells hx2).1 1, (blk_cells hx2).1 2, (blk_cells hx2).1 3, (blk_cells hx2).1 4⟩
      have cc := HC.out p w2 hb2
      obtain ⟨st, hst⟩ : ∃ st, st = cmpI p.client x.client := ⟨_, rfl⟩
      rw [← hst] at cc
      unfold PL.agg at cc
      have HW2 := Lib.hid hw2
      have HB2 := Lib.hid hb2
      have HST := Lib.hid hst
      have HPI := Lib.hid hpi
      clear hw2 hx2 hb2 hoz hst hpi
      go_upto_region 5 with fail
      rw [← HW2.out]
      go_wp2_with fail
      refine cc.mono ?_
      rintro e w3 ⟨rfl, hb3'⟩
      have hb3 := HB2.out.trans (Joins.below_le hb3' HB2.out.size)
      have HB3 := Lib.hid hb3
      clear cc hb3' d0 d1 d2 d3 d4 c0 c1 c2 c3 c4
      by_cases h0 : st = 0
      · have hk : p.client = x.client := (cmpI_zero _ _).1 (by rw [← HST.out]; exact h0)
        have hxx := (hb3.block _ (by have := HS1.out; omega)).trans HX1.out
        obtain ⟨x0, x1, x2, x3, x4⟩ : w3.cell? ⟨w.heap.size, 0, none⟩ = some (.int .i64 x.client) ∧ w3.cell? ⟨w.heap.size, 1, none⟩ = some (.int .i64 x.id) ∧ w3.cell? ⟨w.heap.size, 2, none⟩ = some (.int .u8 x.res.kind) ∧ w3.cell? ⟨w.heap.size, 3, none⟩ = some (.bool x.res.found) ∧ w3.cell? ⟨w.heap.size, 4, none⟩ = some (.string x.res.val) := ⟨(blk_cells hxx).1 0, (blk_cells hxx).1 1, (blk_cells hxx).1 2, (blk_cells hxx).1 3, (blk_cells hxx).1 4⟩
        obtain ⟨g, cap, hvg, hgB, hgl, hcap, hcm, hcells, hfz, hupd⟩ := own_upd (HO.out.below hb3) hil
        injection hvg with g1 g2 g3
        injection g1 with g1
        injection g1 with g0 g1
        subst g0 g1 g3
        have hpl : l[i] = p := by have := HPI.out; rw [List.getElem?_eq_getElem hil] at this; exact Option.some.inj this
        rw [hpl] at hcells
        obtain ⟨f0, f1, f2, f3, f4⟩ : w3.cell? ⟨bb, i * 5, none⟩ = some (.int .i64 p.client) ∧ w3.cell? ⟨bb, i * 5 + 1, none⟩ = some (.int .i64 p.id) ∧ w3.cell? ⟨bb, i * 5 + 2, none⟩ = some (.int .u8 p.res.kind) ∧ w3.cell? ⟨bb, i * 5 + 3, none⟩ = some (.bool p.res.found) ∧ w3.cell? ⟨bb, i * 5 + 4, none⟩ = some (.string p.res.val) := ⟨hcells 0 _ rfl, hcells 1 _ rfl, hcells 2 _ rfl, hcells 3 _ rfl, hcells 4 _ rfl⟩
        obtain ⟨z0, z1, z2, z3, z4⟩ : w3.frozen? ⟨bb, i * 5, none⟩ = false ∧ w3.frozen? ⟨bb, i * 5 + 1, none⟩ = false ∧ w3.frozen? ⟨bb, i * 5 + 2, none⟩ = false ∧ w3.frozen? ⟨bb, i * 5 + 3, none⟩ = false ∧ w3.frozen? ⟨bb, i * 5 + 4, none⟩ = false := ⟨hfz _, hfz _, hfz _, hfz _, hfz _⟩
        have hres : R = l.set i x := by rw [HR.out]; exact putBy_at (by have := HPI.out; exact this) (by simp [hk]) hp.out
        have hup := hupd x
        have HUP := Lib.hid hup
        have HRES := Lib.hid hres
        clear hres hupd hup hcells hfz hxx hk hb3 hpl
        subst h0
        go_wp2_with fail
        go_ret
        exact ⟨_, rfl, by rw [HRES.out]; exact HUP.out.1, (Joins.below_le HB1.out (by omega)).trans ((Joins.below_le HB3.out (by have := HS1.out; omega)).trans HUP.out.2), ((Near.below HB1.out).trans (Near.below HB3.out) HB1.out.size).trans (Near.setCells (lastR.vals x) (i * lastR.size)) (by have := HB1.out.size; have := HB3.out.size; omega)⟩
      · have hne : ¬ p.client = x.client := fun h => h0 (by rw [HST.out]; exact (cmpI_zero _ _).2 h)
        have hp2 : (l.take (i + 1)).any (fun q => decide (q.client = x.client)) = false := by
          rw [List.take_add_one, HPI.out, List.any_append, hp.out]
          simp [hne]
        have HP2 := Lib.hid hp2
        clear hne hp2
        by_cases h1 : 0 < st
        · have hgt : (fun q => decide (x.client < q.client)) p = true := by
            have := (cmpI_pos p.client x.client).1 (by rw [← HST.out]; exact h1)
            simpa using this
          have HG2 := Lib.hid (Behind.hit hG.out HPI.out hgt)
          have hmn : min (b : Int) (i : Int) = ((min b i : Nat) : Int) := by omega
          clear hgt hb3
          go_wp2_with fail
          refine ⟨⟨i + 1, min b i, by go_num, ?_, hil, Nat.le_trans (Nat.min_le_left _ _) hbl, HP2, HG2, HB3⟩, by simp [intOf]; omega⟩
          first
            | rfl
            | (rw [hmn])
            | (simp; omega)
        · have hgt : (fun q => decide (x.client < q.client)) p = false := by
            have := mt (cmpI_pos p.client x.client).2 (by rw [← HST.out]; exact h1)
            simpa using this
          have HG2 := Lib.hid (Behind.step hG.out HPI.out hgt)
          clear hgt hb3
          go_wp2_with fail
          exact ⟨⟨i + 1, b, by go_num, rfl, hil, hbl, HP2, HG2, HB3⟩, by simp [intOf]; omega⟩
    · have a1 : ¬ (i : Int) < (l.length : Int) := by omega
      have hie : i = l.length := by omega
      have hall : l.take i = l := List.take_of_length_le (by omega)
      rw [hall] at hp
      have hres : R = l.take b ++ x :: l.drop b := by
        rw [HR.out]
        exact putBy_behind hp.out (by have := hG.out; rw [hie] at this; exact this)
      have hxx := (hB.out.block _ (by have := HS1.out; omega)).trans HX1.out
      obtain ⟨x0, x1, x2, x3, x4⟩ : wz.cell? ⟨w.heap.size, 0, none⟩ = some (.int .i64 x.client) ∧ wz.cell? ⟨w.heap.size, 1, none⟩ = some (.int .i64 x.id) ∧ wz.cell? ⟨w.heap.size, 2, none⟩ = some (.int .u8 x.res.kind) ∧ wz.cell? ⟨w.heap.size, 3, none⟩ = some (.bool x.res.found) ∧ wz.cell? ⟨w.heap.size, 4, none⟩ = some (.string x.res.val) := ⟨(blk_cells hxx).1 0, (blk_cells hxx).1 1, (blk_cells hxx).1 2, (blk_cells hxx).1 3, (blk_cells hxx).1 4⟩
      obtain ⟨w2, hw2⟩ : ∃ w2, w2 = wz.alloc (.cells #[.int .i64 x.client, .int .i64 x.id, .int .u8 x.res.kind, .bool x.res.found, .string x.res.val] 46) := ⟨_, rfl⟩
      have hb2 : Below w1.heap.size w1 w2 := by rw [hw2]; exact hB.out.alloc hB.out.size _
      have hx2 : w2.heap[wz.heap.size]? = some (.cells #[.int .i64 x.client, .int .i64 x.id, .int .u8 x.res.kind, .bool x.res.found, .string x.res.val] 46 (0, 0)) := by rw [hw2]; exact heap_alloc_new wz _
      have hbw : Below w.heap.size w w2 := HB1.out.trans (Joins.below_le hb2 HB1.out.size)
      have cI := insLast_any l b x _ wz.heap.size B w2 (HO.out.below hb2) hbl (Nat.le_trans hB0 hbw.size) hx2 (fun g hg he => by have := HGB.out g hg; have := hB.out.size; have := HS1.out; omega) hl
      have HW2 := Lib.hid hw2
      have HBW := Lib.hid hbw
      have HRES := Lib.hid hres
      clear hw2 hb2 hx2 hbw hres hxx hall hp hG
      go_upto_region 12 with fail
      go_wp2_with fail
      rw [← HW2.out]
      refine cI.mono ?_
      rintro e w3 ⟨v3, rfl, ho3, hb3, hn3⟩
      have HN3 := Lib.hid ((Near.below HBW.out).trans hn3 HBW.out.size)
      have HO3 := Lib.hid ho3
      have HB3 := Lib.hid ((Joins.below_le HBW.out hB0).trans hb3)
      clear cI ho3 hb3 hn3
      go_wp2_with fail
      go_ret
      exact ⟨_, rfl, by rw [HRES.out]; exact HO3.out, HB3.out, HN3.out⟩
end Go.Proofs.Ytlgjidoehnhnoaa
