/-
  What each exported call of a reader (package code) comes to: it tells what the plain functions of the bytes tell, from a failure on zeros, and writes its own cell alone. Conditions: none but that what it reads lies in memory.
-/
import Derived.Test.YtblbcoknefgcaaaReaderB
namespace Go.Proofs.Ytblbcoknefgcaaa
open Go.RowKit

theorem method_num (R : Nat) (w : World) : (method 322 74 (.pointer (some ⟨R, 0, none⟩)) "buttery/code.num").run Try.prog w = .ok (176, .pointer (some ⟨R, 0, none⟩)) w := by kernel_rfl
theorem method_flag (R : Nat) (w : World) : (method 322 74 (.pointer (some ⟨R, 0, none⟩)) "buttery/code.flag").run Try.prog w = .ok (171, .pointer (some ⟨R, 0, none⟩)) w := by kernel_rfl

theorem told_some {α : Type} {z : α} {r : List UInt8 → Option (α × List UInt8)} {l t : List UInt8} {a : α} (h : r l = some (a, t)) : told z r (some l) = (a, some t) := by unfold told; simp only []; rw [h]
theorem told_none {α : Type} {z : α} {r : List UInt8 → Option (α × List UInt8)} {l : List UInt8} (h : r l = none) : told z r (some l) = (z, none) := by unfold told; simp only []; rw [h]

/-- what a telling comes to -/
def Tells {α : Type} (R : Nat) (f : α → Value) (p : α × Option (List UInt8)) (w : World) (e : Ending) (w' : World) : Prop :=
  e = .returned (f p.1) ∧ w.grownBy w' (some R) ∧ Rdr 151 w' R p.2

set_option maxHeartbeats 400000 in
theorem tell_i64 (R : Nat) (st : Option (List UInt8)) (w : World) (h : Rdr 151 w R st) :
    Calls Try.prog 175 #[.pointer (some ⟨R, 0, none⟩), .func (.methodOf 74 "buttery/code.num") #[] #[]] w (Tells R (Value.int .i64) (told 0 gNum st) w) := by
  have hm := method_num R
  go_enter Try.func175, Try.ntmps175
  go_wp2_with fail
  refine (ok_any R st _ h).mono ?_
  rintro e w1 ⟨rfl, rfl⟩
  cases st with
  | none =>
    go_wp2_with fail
    go_ret
    exact ⟨rfl, grown_refl _ _, h⟩
  | some l =>
    go_wp2_with fail
    refine (num_walk R l _ h).mono ?_
    intro e w1 hb
    rcases hb.cases with ⟨hg, ⟨v, t, hq, rfl, hr⟩ | ⟨hq, v, t, ⟨m, rfl⟩, rfl, hr⟩⟩
    · obtain ⟨a, ha, rfl⟩ := map_some hq
      have hfin : Hid (told 0 gNum (some l) = (a, some t)) := told_some ha
      clear hq hb ha hm
      go_wp2_with fail
      go_ret
      exact (by rw [hfin.out]; exact ⟨rfl, hg, hr⟩)
    · have hfin : Hid (told 0 gNum (some l) = (0, none)) := told_none (map_none hq)
      clear hq hb hm
      go_wp2_with fail
      refine (fail_walk R t _ hr).mono ?_
      rintro e w2 ⟨rfl, hg2, hr2⟩
      have hgg := grown_trans hg hg2
      go_wp2_with fail
      go_ret
      exact (by rw [hfin.out]; exact ⟨rfl, hgg, hr2⟩)
theorem Got.form {T : TypeId} {R : Nat} {r : Option (Value × List UInt8)} {bad : Value → Prop} {w : World} {e : Ending} {w' : World} (h : Got T R r bad w e w') : ∃ v ok, e = .returned (.tuple #[v, .bool ok]) := by
  rcases h.cases with ⟨_, ⟨v, t, _, he, _⟩ | ⟨_, v, t, _, he, _⟩⟩
  · exact ⟨v, true, he⟩
  · exact ⟨v, false, he⟩
theorem grown_undrew {w w' : World} {r : Option Nat} (h : w.drew.grownBy w' r) : w.grownBy w' r := ⟨h.os, h.tape, h.output, h.size, h.block⟩
theorem Got.undrew {T : TypeId} {R : Nat} {r : Option (Value × List UInt8)} {bad : Value → Prop} {w : World} {e : Ending} {w' : World} (h : Got T R r bad w.drew e w') : Got T R r bad w e w' := ⟨grown_undrew h.1, h.2⟩

set_option maxHeartbeats 400000 in
theorem close_count (R M : Nat) (most : Int) (l : List UInt8) (w : World) (h : Rdr 151 w R (some l)) (hm : w.cell? ⟨M, 0, none⟩ = some (.int .i64 most)) :
    Calls Try.prog 173 #[.pointer (some ⟨R, 0, none⟩), .pointer (some ⟨M, 0, none⟩)] w (Got 151 R ((gCount most l).map fun p => (.int .i64 p.1, p.2)) (fun v => v = .int .i64 0) w) := by
  have h' : Rdr 151 w.drew R (some l) := h
  go_enter Try.func173, Try.ntmps173
  go_wp2_with fail
  go_region_with (go_at_call 174; refine (count_walk R most l _ h').mono ?_; intro e w1 hb; obtain ⟨v, ok, rfl⟩ := hb.form)
  all_goals
    go_wp2_with fail
    go_ret2
    exact Got.undrew hb

set_option maxHeartbeats 400000 in
theorem close_str (R M : Nat) (most : Int) (l : List UInt8) (w : World) (h : Rdr 151 w R (some l)) (hm : w.cell? ⟨M, 0, none⟩ = some (.int .i64 most)) :
    Calls Try.prog 178 #[.pointer (some ⟨R, 0, none⟩), .pointer (some ⟨M, 0, none⟩)] w (Got 151 R ((gStr most l).map fun p => (.string ⟨p.1.toArray⟩, p.2)) (fun v => v = .string ByteArray.empty) w) := by
  have h' : Rdr 151 w.drew R (some l) := h
  go_enter Try.func178, Try.ntmps178
  go_wp2_with fail
  go_region_with (go_at_call 179; refine (str_walk R most l _ h').mono ?_; intro e w1 hb; obtain ⟨v, ok, rfl⟩ := hb.form)
  all_goals
    go_wp2_with fail
    go_ret2
    exact Got.undrew hb

set_option maxHeartbeats 400000 in
theorem tell_int (R M : Nat) (most : Int) (st : Option (List UInt8)) (w : World) (h : Rdr 151 w R st) (hM : w.cell? ⟨M, 0, none⟩ = some (.int .i64 most)) :
    Calls Try.prog 172 #[.pointer (some ⟨R, 0, none⟩), .func (.func 173) #[] #[.pointer (some ⟨M, 0, none⟩)]] w (Tells R (Value.int .i64) (told 0 (gCount most) st) w) := by
  go_enter Try.func172, Try.ntmps172
  go_wp2_with fail
  refine (ok_any R st _ h).mono ?_
  rintro e w1 ⟨rfl, rfl⟩
  cases st with
  | none =>
    go_wp2_with fail
    go_ret
    exact ⟨rfl, grown_refl _ _, h⟩
  | some l =>
    go_wp2_with fail
    refine (close_count R M most l _ h hM).mono ?_
    intro e w1 hb
    rcases hb.cases with ⟨hg, ⟨v, t, hq, rfl, hr⟩ | ⟨hq, v, t, rfl, rfl, hr⟩⟩
    · obtain ⟨a, ha, rfl⟩ := map_some hq
      have hfin : Hid (told 0 (gCount most) (some l) = (a, some t)) := told_some ha
      clear hq hb ha hM
      go_wp2_with fail
      go_ret
      exact (by rw [hfin.out]; exact ⟨rfl, hg, hr⟩)
    · have hfin : Hid (told 0 (gCount most) (some l) = (0, none)) := told_none (map_none hq)
      clear hq hb hM
      go_wp2_with fail
      refine (fail_walk R t _ hr).mono ?_
      rintro e w2 ⟨rfl, hg2, hr2⟩
      have hgg := grown_trans hg hg2
      go_wp2_with fail
      go_ret
      exact (by rw [hfin.out]; exact ⟨rfl, hgg, hr2⟩)

set_option maxHeartbeats 400000 in
theorem tell_str (R M : Nat) (most : Int) (st : Option (List UInt8)) (w : World) (h : Rdr 151 w R st) (hM : w.cell? ⟨M, 0, none⟩ = some (.int .i64 most)) :
    Calls Try.prog 177 #[.pointer (some ⟨R, 0, none⟩), .func (.func 178) #[] #[.pointer (some ⟨M, 0, none⟩)]] w (Tells R (fun l => Value.string ⟨l.toArray⟩) (told [] (gStr most) st) w) := by
  go_enter Try.func177, Try.ntmps177
  go_wp2_with fail
  refine (ok_any R st _ h).mono ?_
  rintro e w1 ⟨rfl, rfl⟩
  cases st with
  | none =>
    go_wp2_with fail
    go_ret
    exact ⟨rfl, grown_refl _ _, h⟩
  | some l =>
    go_wp2_with fail
    refine (close_str R M most l _ h hM).mono ?_
    intro e w1 hb
    rcases hb.cases with ⟨hg, ⟨v, t, hq, rfl, hr⟩ | ⟨hq, v, t, rfl, rfl, hr⟩⟩
    · obtain ⟨a, ha, rfl⟩ := map_some (f := fun l : List UInt8 => Value.string ⟨l.toArray⟩) hq
      have hfin : Hid (told [] (gStr most) (some l) = (a, some t)) := told_some ha
      clear hq hb ha hM
      go_wp2_with fail
      go_ret
      exact (by rw [hfin.out]; exact ⟨rfl, hg, hr⟩)
    · have hfin : Hid (told [] (gStr most) (some l) = ([], none)) := told_none (map_none (f := fun l : List UInt8 => Value.string ⟨l.toArray⟩) hq)
      clear hq hb hM
      go_wp2_with fail
      refine (fail_walk R t _ hr).mono ?_
      rintro e w2 ⟨rfl, hg2, hr2⟩
      have hgg := grown_trans hg hg2
      go_wp2_with fail
      go_ret
      exact (by rw [hfin.out]; exact ⟨rfl, hgg, hr2⟩)

set_option maxHeartbeats 400000 in
theorem tell_bool (R : Nat) (st : Option (List UInt8)) (w : World) (h : Rdr 151 w R st) :
    Calls Try.prog 170 #[.pointer (some ⟨R, 0, none⟩), .func (.methodOf 74 "buttery/code.flag") #[] #[]] w (Tells R Value.bool (told false gFlag st) w) := by
  have hm := method_flag R
  go_enter Try.func170, Try.ntmps170
  go_wp2_with fail
  refine (ok_any R st _ h).mono ?_
  rintro e w1 ⟨rfl, rfl⟩
  cases st with
  | none =>
    go_wp2_with fail
    go_ret
    exact ⟨rfl, grown_refl _ _, h⟩
  | some l =>
    go_wp2_with fail
    refine (flag_walk R l _ h).mono ?_
    intro e w1 hb
    rcases hb.cases with ⟨hg, ⟨v, t, hq, rfl, hr⟩ | ⟨hq, v, t, rfl, rfl, hr⟩⟩
    · obtain ⟨a, ha, rfl⟩ := map_some hq
      have hfin : Hid (told false gFlag (some l) = (a, some t)) := told_some ha
      clear hq hb ha hm
      go_wp2_with fail
      go_ret
      exact (by rw [hfin.out]; exact ⟨rfl, hg, hr⟩)
    · have hfin : Hid (told false gFlag (some l) = (false, none)) := told_none (map_none hq)
      clear hq hb hm
      go_wp2_with fail
      refine (fail_walk R t _ hr).mono ?_
      rintro e w2 ⟨rfl, hg2, hr2⟩
      have hgg := grown_trans hg hg2
      go_wp2_with fail
      go_ret
      exact (by rw [hfin.out]; exact ⟨rfl, hgg, hr2⟩)

/-! ### The reader's own calls -/
theorem Tells.at {α : Type} {R : Nat} {f : α → Value} {p : α × Option (List UInt8)} {w w0 : World} {e : Ending} {w' : World} (h : Tells R f p w0 e w') (hg : w.grownBy w0 (some R)) : Tells R f p w e w' := ⟨h.1, grown_trans hg h.2.1, h.2.2⟩

set_option maxHeartbeats 400000 in
theorem Num_any (R : Nat) (st : Option (List UInt8)) (w : World) (h : Rdr 151 w R st) :
    Calls Try.prog 168 #[.pointer (some ⟨R, 0, none⟩)] w (Tells R (Value.int .i64) (told 0 gNum st) w) := by
  go_enter Try.func168, Try.ntmps168
  go_wp2_with fail
  refine (tell_i64 R st _ h).mono ?_
  rintro e w1 ⟨rfl, hb⟩
  go_wp2_with fail
  go_ret
  exact ⟨rfl, hb⟩

set_option maxHeartbeats 400000 in
theorem Flag_any (R : Nat) (st : Option (List UInt8)) (w : World) (h : Rdr 151 w R st) :
    Calls Try.prog 166 #[.pointer (some ⟨R, 0, none⟩)] w (Tells R Value.bool (told false gFlag st) w) := by
  go_enter Try.func166, Try.ntmps166
  go_wp2_with fail
  refine (tell_bool R st _ h).mono ?_
  rintro e w1 ⟨rfl, hb⟩
  go_wp2_with fail
  go_ret
  exact ⟨rfl, hb⟩

theorem Rdr.alloc {T : TypeId} {R : Nat} {st : Option (List UInt8)} {w : World} (h : Rdr T w R st) (o : Obj) : Rdr T (w.alloc o) R st := by
  obtain ⟨v, hh, hr⟩ := h
  have hlt := (Array.getElem?_eq_some_iff.1 hh).1
  exact ⟨v, (Below.heap_alloc w o R hlt).trans hh, hr.keep (Nat.le_refl _) fun p hp => World.cell?_alloc_lt w o p (by omega)⟩

set_option maxHeartbeats 400000 in
theorem Count_any (R : Nat) (most : Int) (st : Option (List UInt8)) (w : World) (h : Rdr 151 w R st) :
    Calls Try.prog 167 #[.pointer (some ⟨R, 0, none⟩), .int .i64 most] w (Tells R (Value.int .i64) (told 0 (gCount most) st) w) := by
  go_enter Try.func167, Try.ntmps167
  go_wp2_with fail
  refine (tell_int R w.heap.size most st _ (h.alloc _) (cell_one_new _ _ _ 0 _ rfl)).mono ?_
  rintro e w1 ⟨rfl, hg, hr⟩
  go_wp2_with fail
  go_ret
  exact ⟨rfl, grown_trans (World.grownBy_alloc _ _ _) hg, hr⟩

set_option maxHeartbeats 400000 in
theorem Str_any (R : Nat) (most : Int) (st : Option (List UInt8)) (w : World) (h : Rdr 151 w R st) :
    Calls Try.prog 169 #[.pointer (some ⟨R, 0, none⟩), .int .i64 most] w (Tells R (fun l => Value.string ⟨l.toArray⟩) (told [] (gStr most) st) w) := by
  go_enter Try.func169, Try.ntmps169
  go_wp2_with fail
  refine (tell_str R w.heap.size most st _ (h.alloc _) (cell_one_new _ _ _ 0 _ rfl)).mono ?_
  rintro e w1 ⟨rfl, hg, hr⟩
  go_wp2_with fail
  go_ret
  exact ⟨rfl, grown_trans (World.grownBy_alloc _ _ _) hg, hr⟩

/-- a new reader: everything is left -/
theorem New_any (l : List UInt8) (v : Value) (w : World) (hr : Rd w w.heap.size v l) (hl : l.length ≤ 140737488355328) :
    Calls Try.prog 40 #[v] w fun e w' => ∃ R, e = .returned (.pointer (some ⟨R, 0, none⟩)) ∧ w.heap.size ≤ R ∧ Rdr 151 w' R (some l) ∧ Below w.heap.size w w' := by
  go_enter Try.func40, Try.ntmps40
  go_wp2_with fail
  refine (copied_any l v 0 _ hr (by omega) (by omega) hl).mono ?_
  rintro e w1 ⟨v1, rfl, ho1, hb1⟩
  have hd := Rd.own ho1
  have HD := Lib.hid hd
  obtain ⟨A, c, rfl, _⟩ := hd
  go_wp2_with fail
  go_ret
  exact ⟨w1.heap.size, rfl, hb1.size, ⟨_, heap_alloc_new w1 _, HD.out.keep (Nat.le_refl _) fun p hp => World.cell?_alloc_lt w1 _ p hp⟩, hb1.alloc hb1.size _⟩
end Go.Proofs.Ytblbcoknefgcaaa
