/-
  A wait held against itself; nobody's calls. No statement is proved here. No condition.
-/
import Derived.Test.YtclfhidapkoiiabUCallsB
import Derived.Laws.StructEq
namespace Go.Proofs.Ytclfhidapkoiiab
open Go.RowKit Go.Maps

theorem wt_fields : (Try.prog.fieldsOf 37).toList.map (fun f => (f.name != "_", f.type, f.offset)) = [(true, 3, 0), (true, 9, 1), (true, 3, 2), (true, 3, 3), (true, 3, 4), (true, 3, 5), (true, 4, 6)] := by kernel_rfl
theorem wt_under : Try.prog.underlying 37 = some (.struct (Try.prog.fieldsOf 37)) := by kernel_rfl
theorem wt_held : Try.prog.stoodInHeld 37 = false := by kernel_rfl
theorem part_int (xs : Array Value) (o : Nat) (n : Int) (h : xs[o]? = some (.int .i64 n)) (w : World) : (part 3 xs o).run Try.prog w = .ok (.int .i64 n) w := run_part_plain w (by kernel_rfl) h
theorem part_bool (xs : Array Value) (o : Nat) (n : Bool) (h : xs[o]? = some (.bool n)) (w : World) : (part 4 xs o).run Try.prog w = .ok (.bool n) w := run_part_plain w (by kernel_rfl) h
theorem part_str (xs : Array Value) (o : Nat) (n : ByteArray) (h : xs[o]? = some (.string n)) (w : World) : (part 9 xs o).run Try.prog w = .ok (.string n) w := run_part_plain w (by kernel_rfl) h
theorem eqf_int {f : Field} {fs : List Field} {d o : Nat} {n : Int} {xs : Array Value} (hn : f.name ≠ "_") (ht : f.type = 3) (ho : f.offset = o) (hx : xs[o]? = some (.int .i64 n)) (w : World) (hr : (Op.eqFields (d + 1) xs xs fs).run Try.prog w = .ok true w) : (Op.eqFields (d + 1) xs xs (f :: fs)).run Try.prog w = .ok true w := by
  unfold Op.eqFields
  rw [if_pos hn, ht, ho]
  simp only [Sem.run_bind, part_int xs o n hx, Result.andThen_ok, run_equalIn_int w d 3 .i64 .i64 n n Try.underlying3]
  simpa using hr
theorem eqf_bool {f : Field} {fs : List Field} {d o : Nat} {n : Bool} {xs : Array Value} (hn : f.name ≠ "_") (ht : f.type = 4) (ho : f.offset = o) (hx : xs[o]? = some (.bool n)) (w : World) (hr : (Op.eqFields (d + 1) xs xs fs).run Try.prog w = .ok true w) : (Op.eqFields (d + 1) xs xs (f :: fs)).run Try.prog w = .ok true w := by
  unfold Op.eqFields
  rw [if_pos hn, ht, ho]
  simp only [Sem.run_bind, part_bool xs o n hx, Result.andThen_ok, run_equalIn_bool' w d 4 n n Try.underlying4]
  simpa using hr
theorem eqf_str {f : Field} {fs : List Field} {d o : Nat} {n : ByteArray} {xs : Array Value} (hn : f.name ≠ "_") (ht : f.type = 9) (ho : f.offset = o) (hx : xs[o]? = some (.string n)) (w : World) (hr : (Op.eqFields (d + 1) xs xs fs).run Try.prog w = .ok true w) : (Op.eqFields (d + 1) xs xs (f :: fs)).run Try.prog w = .ok true w := by
  unfold Op.eqFields
  rw [if_pos hn, ht, ho]
  simp only [Sem.run_bind, part_str xs o n hx, Result.andThen_ok, run_equalIn_string w d 9 n n Try.underlying9]
  simpa using hr
theorem eq_cells (x : WT) (w : World) : (Op.equalIn 10000 37 (.agg x.cells) (.agg x.cells)).run Try.prog w = .ok true w := by
  rw [show (10000 : Nat) = 9999 + 1 from rfl, run_equalIn_struct w 9999 _ _ _ wt_under wt_held]
  have hf := wt_fields
  generalize (Try.prog.fieldsOf 37).toList = fs at hf
  have hl : fs.length = 7 := by have := congrArg List.length hf; simpa using this
  match fs, hf, hl with
  | [f0, f1, f2, f3, f4, f5, f6], hf, _ =>
    simp only [List.map_cons, List.map_nil, List.cons.injEq, Prod.mk.injEq, and_true, bne_iff_ne] at hf
    obtain ⟨⟨a0, b0, c0⟩, ⟨a1, b1, c1⟩, ⟨a2, b2, c2⟩, ⟨a3, b3, c3⟩, ⟨a4, b4, c4⟩, ⟨a5, b5, c5⟩, a6, b6, c6⟩ := hf
    refine eqf_int a0 b0 c0 (n := x.req) rfl w ?_
    refine eqf_str a1 b1 c1 (n := x.key) rfl w ?_
    refine eqf_int a2 b2 c2 (n := x.client) rfl w ?_
    refine eqf_int a3 b3 c3 (n := x.id) rfl w ?_
    refine eqf_int a4 b4 c4 (n := x.first) rfl w ?_
    refine eqf_int a5 b5 c5 (n := x.last) rfl w ?_
    refine eqf_bool a6 b6 c6 (n := x.marked) rfl w ?_
    rfl
theorem eq_wt (x : WT) (w : World) : (Op.equalIn 10000 37 (.agg #[.int .i64 x.req, .string x.key, .int .i64 x.client, .int .i64 x.id, .int .i64 x.first, .int .i64 x.last, .bool x.marked]) (.agg #[.int .i64 x.req, .string x.key, .int .i64 x.client, .int .i64 x.id, .int .i64 x.first, .int .i64 x.last, .bool x.marked])).run Try.prog w = .ok true w := eq_cells x w
set_option maxRecDepth 100000 in
theorem ask_nil (key : ByteArray) (client id now : Int) (w : World) : Calls Try.prog 6 #[.pointer none, .string key, .int .i64 client, .int .i64 id, .int .i64 now] w fun e w' => e = .returned (.tuple #[.int .i64 0, .int .i64 2]) ∧ w' = w := by
  go_enter Try.func6, Try.ntmps6
  go_wp2_with fail
  go_ret2
  exact ⟨rfl, rfl⟩
set_option maxRecDepth 100000 in
theorem those_nil (f : Value) (w : World) : Calls Try.prog 22 #[.pointer none, f] w fun e w' => e = .returned (.slice none 0 0) ∧ w' = w := by
  go_enter Try.func22, Try.ntmps22
  go_wp2_with fail
  go_ret
  exact ⟨rfl, rfl⟩
set_option maxRecDepth 100000 in
theorem all_nil (w : World) : Calls Try.prog 20 #[.pointer none] w fun e w' => e = .returned (.slice none 0 0) ∧ w' = w := by
  go_enter Try.func20, Try.ntmps20
  go_wp2_with fail
  refine (those_nil _ _).mono ?_
  rintro e w1 ⟨rfl, rfl⟩
  go_wp2_with fail
  go_ret
  exact ⟨rfl, rfl⟩
set_option maxRecDepth 100000 in
theorem mark_nil (k : ByteArray) (w : World) : Calls Try.prog 13 #[.pointer none, .string k] w fun e w' => e = .returned (.int .i64 0) ∧ Below w.heap.size w w' := by
  have hb1 : Below w.heap.size w (w.alloc (.cells #[.string k] 9)) := (Below.refl _ _).alloc (Nat.le_refl _) _
  go_enter Try.func13, Try.ntmps13
  go_wp2_with fail
  refine (those_nil _ _).mono ?_
  rintro e w1 ⟨rfl, rfl⟩
  go_wp2_with fail
  go_ret
  exact ⟨rfl, hb1⟩
set_option maxRecDepth 100000 in
theorem due_nil (a c : Int) (w : World) : Calls Try.prog 16 #[.pointer none, .int .i64 a, .int .i64 c] w fun e w' => e = .returned (.slice none 0 0) ∧ Below w.heap.size w w' := by
  have hb1 : Below w.heap.size w ((w.alloc (.cells #[.int .i64 a] 3)).alloc (.cells #[.int .i64 c] 3)) := ((Below.refl _ _).alloc (Nat.le_refl _) _).alloc (by simp) _
  go_enter Try.func16, Try.ntmps16
  go_wp2_with fail
  refine (those_nil _ _).mono ?_
  rintro e w1 ⟨rfl, rfl⟩
  go_wp2_with fail
  go_ret
  exact ⟨rfl, hb1⟩
set_option maxRecDepth 100000 in
theorem old_nil (a c : Int) (w : World) : Calls Try.prog 18 #[.pointer none, .int .i64 a, .int .i64 c] w fun e w' => e = .returned (.slice none 0 0) ∧ Below w.heap.size w w' := by
  have hb1 : Below w.heap.size w (((w.alloc (.cells #[.pointer none] 23)).alloc (.cells #[.int .i64 a] 3)).alloc (.cells #[.int .i64 c] 3)) := (((Below.refl _ _).alloc (Nat.le_refl _) _).alloc (by simp) _).alloc (by simp; omega) _
  go_enter Try.func18, Try.ntmps18
  go_wp2_with fail
  refine (those_nil _ _).mono ?_
  rintro e w1 ⟨rfl, rfl⟩
  go_wp2_with fail
  go_ret
  exact ⟨rfl, hb1⟩
end Go.Proofs.Ytclfhidapkoiiab
