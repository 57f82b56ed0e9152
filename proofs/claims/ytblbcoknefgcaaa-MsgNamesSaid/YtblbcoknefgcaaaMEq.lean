/-
  Structs held against each other. No statement is proved here. No condition.
-/
import Derived.Test.YtblbcoknefgcaaaMPlain
import Derived.Laws.StructEq
import Derived.ChangeKeysEq
namespace Go.Proofs.Ytblbcoknefgcaaa
open Go.RowKit

theorem eqf_step {f : Field} {fs : List Field} {d o : Nat} {T : TypeId} {xs ys : Array Value} {x y : Value} {b r : Bool} {w : World} (hn : f.name ≠ "_") (ht : f.type = T) (ho : f.offset = o) (hx : (part T xs o).run Try.prog w = .ok x w) (hy : (part T ys o).run Try.prog w = .ok y w) (he : (Op.equalIn d T x y).run Try.prog w = .ok b w) (hr : (Op.eqFields d xs ys fs).run Try.prog w = .ok r w) : (Op.eqFields d xs ys (f :: fs)).run Try.prog w = .ok (b && r) w := by
  unfold Op.eqFields
  rw [if_pos hn, ht, ho]
  simp only [Sem.run_bind, hx, hy, he, Result.andThen_ok]
  cases b with
  | true => simpa using hr
  | false => simp
theorem part_u8 (xs : Array Value) (o : Nat) (n : Int) (h : xs[o]? = some (.int .u8 n)) (w : World) : (part 5 xs o).run Try.prog w = .ok (.int .u8 n) w := run_part_plain w (by kernel_rfl) h
theorem part_int (xs : Array Value) (o : Nat) (n : Int) (h : xs[o]? = some (.int .i64 n)) (w : World) : (part 3 xs o).run Try.prog w = .ok (.int .i64 n) w := run_part_plain w (by kernel_rfl) h
theorem part_bool (xs : Array Value) (o : Nat) (n : Bool) (h : xs[o]? = some (.bool n)) (w : World) : (part 4 xs o).run Try.prog w = .ok (.bool n) w := run_part_plain w (by kernel_rfl) h
theorem part_str (xs : Array Value) (o : Nat) (n : ByteArray) (h : xs[o]? = some (.string n)) (w : World) : (part 9 xs o).run Try.prog w = .ok (.string n) w := run_part_plain w (by kernel_rfl) h
theorem part_res (a b c d e : Value) (w : World) : (part 30 #[a, b, c, d, e] 2).run Try.prog w = .ok (.agg #[c, d, e]) w := by kernel_rfl
theorem res_fields : (Try.prog.fieldsOf 30).toList.map (fun f => (f.name != "_", f.type, f.offset)) = [(true, 5, 0), (true, 4, 1), (true, 9, 2)] := by kernel_rfl
theorem res_under : Try.prog.underlying 30 = some (.struct (Try.prog.fieldsOf 30)) := by kernel_rfl
theorem res_held : Try.prog.stoodInHeld 30 = false := by kernel_rfl
theorem eqn_res (d : Nat) (x y : PR) (w : World) : (Op.equalIn (d + 2) 30 (.agg #[.int .u8 x.kind, .bool x.found, .string x.val]) (.agg #[.int .u8 y.kind, .bool y.found, .string y.val])).run Try.prog w = .ok (x.same y) w := by
  rw [show d + 2 = (d + 1) + 1 from rfl, run_equalIn_struct w (d + 1) _ _ _ res_under res_held]
  have hf := res_fields
  generalize (Try.prog.fieldsOf 30).toList = fs at hf
  have hl : fs.length = 3 := by have := congrArg List.length hf; simpa using this
  match fs, hf, hl with
  | [f0, f1, f2], hf, _ =>
    simp only [List.map_cons, List.map_nil, List.cons.injEq, Prod.mk.injEq, and_true, bne_iff_ne] at hf
    obtain ⟨⟨a0, b0, c0⟩, ⟨a1, b1, c1⟩, a2, b2, c2⟩ := hf
    refine eqf_step a0 b0 c0 (part_u8 _ _ _ rfl w) (part_u8 _ _ _ rfl w) (run_equalIn_int w d 5 .u8 .u8 _ _ Try.underlying5) ?_
    refine eqf_step a1 b1 c1 (part_bool _ _ _ rfl w) (part_bool _ _ _ rfl w) (run_equalIn_bool' w d 4 _ _ Try.underlying4) ?_
    refine eqf_step a2 b2 c2 (part_str _ _ _ rfl w) (part_str _ _ _ rfl w) (run_equalIn_string w d 9 _ _ Try.underlying9) ?_
    rfl
theorem eq_res (x y : PR) (w : World) : (Op.equalIn 10000 30 (.agg #[.int .u8 x.kind, .bool x.found, .string x.val]) (.agg #[.int .u8 y.kind, .bool y.found, .string y.val])).run Try.prog w = .ok (x.same y) w := eqn_res 9998 x y w
theorem pp_fields : (Try.prog.fieldsOf 67).toList.map (fun f => (f.name != "_", f.type, f.offset)) = [(true, 9, 0), (true, 9, 1)] := by kernel_rfl
theorem pp_under : Try.prog.underlying 67 = some (.struct (Try.prog.fieldsOf 67)) := by kernel_rfl
theorem pp_held : Try.prog.stoodInHeld 67 = false := by kernel_rfl
theorem eqd_pp (d : Nat) (x y : PP) (w : World) : (Op.equalIn (d + 3) 67 (.agg #[.string x.key, .string x.val]) (.agg #[.string y.key, .string y.val])).run Try.prog w = .ok (x.same y) w := by
  rw [show d + 3 = (d + 2) + 1 from rfl, run_equalIn_struct w (d + 2) _ _ _ pp_under pp_held]
  have hf := pp_fields
  generalize (Try.prog.fieldsOf 67).toList = fs at hf
  have hl : fs.length = 2 := by have := congrArg List.length hf; simpa using this
  match fs, hf, hl with
  | [f0, f1], hf, _ =>
    simp only [List.map_cons, List.map_nil, List.cons.injEq, Prod.mk.injEq, and_true, bne_iff_ne] at hf
    obtain ⟨⟨a0, b0, c0⟩, a1, b1, c1⟩ := hf
    refine eqf_step a0 b0 c0 (part_str _ _ _ rfl w) (part_str _ _ _ rfl w) (run_equalIn_string w (d + 1) 9 _ _ Try.underlying9) ?_
    refine eqf_step a1 b1 c1 (part_str _ _ _ rfl w) (part_str _ _ _ rfl w) (run_equalIn_string w (d + 1) 9 _ _ Try.underlying9) ?_
    rfl
theorem eq_pp (x y : PP) (w : World) : (Op.equalIn 10000 67 (.agg #[.string x.key, .string x.val]) (.agg #[.string y.key, .string y.val])).run Try.prog w = .ok (x.same y) w := eqd_pp 9997 x y w
theorem po_fields : (Try.prog.fieldsOf 28).toList.map (fun f => (f.name != "_", f.type, f.offset)) = [(true, 5, 0), (true, 9, 1), (true, 9, 2), (true, 9, 3), (true, 4, 4)] := by kernel_rfl
theorem po_under : Try.prog.underlying 28 = some (.struct (Try.prog.fieldsOf 28)) := by kernel_rfl
theorem po_held : Try.prog.stoodInHeld 28 = false := by kernel_rfl
theorem eqd_po (d : Nat) (x y : PO) (w : World) : (Op.equalIn (d + 3) 28 (.agg #[.int .u8 x.kind, .string x.key, .string x.val, .string x.old, .bool x.had]) (.agg #[.int .u8 y.kind, .string y.key, .string y.val, .string y.old, .bool y.had])).run Try.prog w = .ok (x.same y) w := by
  rw [show d + 3 = (d + 2) + 1 from rfl, run_equalIn_struct w (d + 2) _ _ _ po_under po_held]
  have hf := po_fields
  generalize (Try.prog.fieldsOf 28).toList = fs at hf
  have hl : fs.length = 5 := by have := congrArg List.length hf; simpa using this
  match fs, hf, hl with
  | [f0, f1, f2, f3, f4], hf, _ =>
    simp only [List.map_cons, List.map_nil, List.cons.injEq, Prod.mk.injEq, and_true, bne_iff_ne] at hf
    obtain ⟨⟨a0, b0, c0⟩, ⟨a1, b1, c1⟩, ⟨a2, b2, c2⟩, ⟨a3, b3, c3⟩, a4, b4, c4⟩ := hf
    refine eqf_step a0 b0 c0 (part_u8 _ _ _ rfl w) (part_u8 _ _ _ rfl w) (run_equalIn_int w (d + 1) 5 .u8 .u8 _ _ Try.underlying5) ?_
    refine eqf_step a1 b1 c1 (part_str _ _ _ rfl w) (part_str _ _ _ rfl w) (run_equalIn_string w (d + 1) 9 _ _ Try.underlying9) ?_
    refine eqf_step a2 b2 c2 (part_str _ _ _ rfl w) (part_str _ _ _ rfl w) (run_equalIn_string w (d + 1) 9 _ _ Try.underlying9) ?_
    refine eqf_step a3 b3 c3 (part_str _ _ _ rfl w) (part_str _ _ _ rfl w) (run_equalIn_string w (d + 1) 9 _ _ Try.underlying9) ?_
    refine eqf_step a4 b4 c4 (part_bool _ _ _ rfl w) (part_bool _ _ _ rfl w) (run_equalIn_bool' w (d + 1) 4 _ _ Try.underlying4) ?_
    rfl
theorem eq_po (x y : PO) (w : World) : (Op.equalIn 10000 28 (.agg #[.int .u8 x.kind, .string x.key, .string x.val, .string x.old, .bool x.had]) (.agg #[.int .u8 y.kind, .string y.key, .string y.val, .string y.old, .bool y.had])).run Try.prog w = .ok (x.same y) w := eqd_po 9997 x y w
theorem cm_fields : (Try.prog.fieldsOf 36).toList.map (fun f => (f.name != "_", f.type, f.offset)) = [(true, 5, 0), (true, 3, 1), (true, 3, 2), (true, 3, 3)] := by kernel_rfl
theorem cm_under : Try.prog.underlying 36 = some (.struct (Try.prog.fieldsOf 36)) := by kernel_rfl
theorem cm_held : Try.prog.stoodInHeld 36 = false := by kernel_rfl
theorem eqd_cm (d : Nat) (x y : CM) (w : World) : (Op.equalIn (d + 3) 36 (.agg #[.int .u8 x.kind, .int .i64 x.shard, .int .i64 x.store, .int .i64 x.epoch]) (.agg #[.int .u8 y.kind, .int .i64 y.shard, .int .i64 y.store, .int .i64 y.epoch])).run Try.prog w = .ok (x.same y) w := by
  rw [show d + 3 = (d + 2) + 1 from rfl, run_equalIn_struct w (d + 2) _ _ _ cm_under cm_held]
  have hf := cm_fields
  generalize (Try.prog.fieldsOf 36).toList = fs at hf
  have hl : fs.length = 4 := by have := congrArg List.length hf; simpa using this
  match fs, hf, hl with
  | [f0, f1, f2, f3], hf, _ =>
    simp only [List.map_cons, List.map_nil, List.cons.injEq, Prod.mk.injEq, and_true, bne_iff_ne] at hf
    obtain ⟨⟨a0, b0, c0⟩, ⟨a1, b1, c1⟩, ⟨a2, b2, c2⟩, a3, b3, c3⟩ := hf
    refine eqf_step a0 b0 c0 (part_u8 _ _ _ rfl w) (part_u8 _ _ _ rfl w) (run_equalIn_int w (d + 1) 5 .u8 .u8 _ _ Try.underlying5) ?_
    refine eqf_step a1 b1 c1 (part_int _ _ _ rfl w) (part_int _ _ _ rfl w) (run_equalIn_int w (d + 1) 3 .i64 .i64 _ _ Try.underlying3) ?_
    refine eqf_step a2 b2 c2 (part_int _ _ _ rfl w) (part_int _ _ _ rfl w) (run_equalIn_int w (d + 1) 3 .i64 .i64 _ _ Try.underlying3) ?_
    refine eqf_step a3 b3 c3 (part_int _ _ _ rfl w) (part_int _ _ _ rfl w) (run_equalIn_int w (d + 1) 3 .i64 .i64 _ _ Try.underlying3) ?_
    rfl
theorem eq_cm (x y : CM) (w : World) : (Op.equalIn 10000 36 (.agg #[.int .u8 x.kind, .int .i64 x.shard, .int .i64 x.store, .int .i64 x.epoch]) (.agg #[.int .u8 y.kind, .int .i64 y.shard, .int .i64 y.store, .int .i64 y.epoch])).run Try.prog w = .ok (x.same y) w := eqd_cm 9997 x y w
theorem pl_fields : (Try.prog.fieldsOf 88).toList.map (fun f => (f.name != "_", f.type, f.offset)) = [(true, 3, 0), (true, 3, 1), (true, 30, 2)] := by kernel_rfl
theorem pl_under : Try.prog.underlying 88 = some (.struct (Try.prog.fieldsOf 88)) := by kernel_rfl
theorem pl_held : Try.prog.stoodInHeld 88 = false := by kernel_rfl
theorem eqd_pl (d : Nat) (x y : PL) (w : World) : (Op.equalIn (d + 3) 88 (.agg #[.int .i64 x.client, .int .i64 x.id, .int .u8 x.res.kind, .bool x.res.found, .string x.res.val]) (.agg #[.int .i64 y.client, .int .i64 y.id, .int .u8 y.res.kind, .bool y.res.found, .string y.res.val])).run Try.prog w = .ok (x.same y) w := by
  rw [show d + 3 = (d + 2) + 1 from rfl, run_equalIn_struct w (d + 2) _ _ _ pl_under pl_held]
  have hf := pl_fields
  generalize (Try.prog.fieldsOf 88).toList = fs at hf
  have hl : fs.length = 3 := by have := congrArg List.length hf; simpa using this
  match fs, hf, hl with
  | [f0, f1, f2], hf, _ =>
    simp only [List.map_cons, List.map_nil, List.cons.injEq, Prod.mk.injEq, and_true, bne_iff_ne] at hf
    obtain ⟨⟨a0, b0, c0⟩, ⟨a1, b1, c1⟩, a2, b2, c2⟩ := hf
    refine eqf_step a0 b0 c0 (part_int _ _ _ rfl w) (part_int _ _ _ rfl w) (run_equalIn_int w (d + 1) 3 .i64 .i64 _ _ Try.underlying3) ?_
    refine eqf_step a1 b1 c1 (part_int _ _ _ rfl w) (part_int _ _ _ rfl w) (run_equalIn_int w (d + 1) 3 .i64 .i64 _ _ Try.underlying3) ?_
    refine eqf_step a2 b2 c2 (part_res _ _ _ _ _ w) (part_res _ _ _ _ _ w) (eqn_res d x.res y.res w) ?_
    rfl
theorem eq_pl (x y : PL) (w : World) : (Op.equalIn 10000 88 (.agg #[.int .i64 x.client, .int .i64 x.id, .int .u8 x.res.kind, .bool x.res.found, .string x.res.val]) (.agg #[.int .i64 y.client, .int .i64 y.id, .int .u8 y.res.kind, .bool y.res.found, .string y.res.val])).run Try.prog w = .ok (x.same y) w := eqd_pl 9997 x y w
end Go.Proofs.Ytblbcoknefgcaaa
