/-
  Single operations on messages. No statement is proved here. No condition.
-/
import Derived.Test.YtblbcoknefgcaaaMChain
namespace Go.Proofs.Ytblbcoknefgcaaa
open Go.RowKit

theorem fa_0 (p : Nat) (W : World) : (Instr.fieldAt 38 (.pointer (some ⟨p, 0, none⟩)) 0).run Try.prog W = .ok (.pointer (some ⟨p, 0, none⟩)) W := by kernel_rfl
theorem fa_1 (p : Nat) (W : World) : (Instr.fieldAt 38 (.pointer (some ⟨p, 0, none⟩)) 1).run Try.prog W = .ok (.pointer (some ⟨p, 1, none⟩)) W := by kernel_rfl
theorem fa_2 (p : Nat) (W : World) : (Instr.fieldAt 38 (.pointer (some ⟨p, 0, none⟩)) 2).run Try.prog W = .ok (.pointer (some ⟨p, 2, none⟩)) W := by kernel_rfl
theorem fa_3 (p : Nat) (W : World) : (Instr.fieldAt 38 (.pointer (some ⟨p, 0, none⟩)) 3).run Try.prog W = .ok (.pointer (some ⟨p, 3, none⟩)) W := by kernel_rfl
theorem fa_4 (p : Nat) (W : World) : (Instr.fieldAt 38 (.pointer (some ⟨p, 0, none⟩)) 4).run Try.prog W = .ok (.pointer (some ⟨p, 4, none⟩)) W := by kernel_rfl
theorem fa_5 (p : Nat) (W : World) : (Instr.fieldAt 38 (.pointer (some ⟨p, 0, none⟩)) 5).run Try.prog W = .ok (.pointer (some ⟨p, 5, none⟩)) W := by kernel_rfl
theorem fa_6 (p : Nat) (W : World) : (Instr.fieldAt 38 (.pointer (some ⟨p, 0, none⟩)) 6).run Try.prog W = .ok (.pointer (some ⟨p, 6, none⟩)) W := by kernel_rfl
theorem fa_7 (p : Nat) (W : World) : (Instr.fieldAt 38 (.pointer (some ⟨p, 0, none⟩)) 7).run Try.prog W = .ok (.pointer (some ⟨p, 7, none⟩)) W := by kernel_rfl
theorem fa_8 (p : Nat) (W : World) : (Instr.fieldAt 38 (.pointer (some ⟨p, 0, none⟩)) 8).run Try.prog W = .ok (.pointer (some ⟨p, 12, none⟩)) W := by kernel_rfl
theorem fa_9 (p : Nat) (W : World) : (Instr.fieldAt 38 (.pointer (some ⟨p, 0, none⟩)) 9).run Try.prog W = .ok (.pointer (some ⟨p, 13, none⟩)) W := by kernel_rfl
theorem fa_10 (p : Nat) (W : World) : (Instr.fieldAt 38 (.pointer (some ⟨p, 0, none⟩)) 10).run Try.prog W = .ok (.pointer (some ⟨p, 16, none⟩)) W := by kernel_rfl
theorem fa_11 (p : Nat) (W : World) : (Instr.fieldAt 38 (.pointer (some ⟨p, 0, none⟩)) 11).run Try.prog W = .ok (.pointer (some ⟨p, 17, none⟩)) W := by kernel_rfl
theorem fa_12 (p : Nat) (W : World) : (Instr.fieldAt 38 (.pointer (some ⟨p, 0, none⟩)) 12).run Try.prog W = .ok (.pointer (some ⟨p, 18, none⟩)) W := by kernel_rfl
theorem fa_13 (p : Nat) (W : World) : (Instr.fieldAt 38 (.pointer (some ⟨p, 0, none⟩)) 13).run Try.prog W = .ok (.pointer (some ⟨p, 19, none⟩)) W := by kernel_rfl
theorem fa_14 (p : Nat) (W : World) : (Instr.fieldAt 38 (.pointer (some ⟨p, 0, none⟩)) 14).run Try.prog W = .ok (.pointer (some ⟨p, 20, none⟩)) W := by kernel_rfl
theorem fa_15 (p : Nat) (W : World) : (Instr.fieldAt 38 (.pointer (some ⟨p, 0, none⟩)) 15).run Try.prog W = .ok (.pointer (some ⟨p, 21, none⟩)) W := by kernel_rfl
theorem fa_16 (p : Nat) (W : World) : (Instr.fieldAt 38 (.pointer (some ⟨p, 0, none⟩)) 16).run Try.prog W = .ok (.pointer (some ⟨p, 22, none⟩)) W := by kernel_rfl
theorem fa_17 (p : Nat) (W : World) : (Instr.fieldAt 38 (.pointer (some ⟨p, 0, none⟩)) 17).run Try.prog W = .ok (.pointer (some ⟨p, 23, none⟩)) W := by kernel_rfl
theorem fa_18 (p : Nat) (W : World) : (Instr.fieldAt 38 (.pointer (some ⟨p, 0, none⟩)) 18).run Try.prog W = .ok (.pointer (some ⟨p, 24, none⟩)) W := by kernel_rfl
theorem fa_19 (p : Nat) (W : World) : (Instr.fieldAt 38 (.pointer (some ⟨p, 0, none⟩)) 19).run Try.prog W = .ok (.pointer (some ⟨p, 25, none⟩)) W := by kernel_rfl
theorem fa_20 (p : Nat) (W : World) : (Instr.fieldAt 38 (.pointer (some ⟨p, 0, none⟩)) 20).run Try.prog W = .ok (.pointer (some ⟨p, 26, none⟩)) W := by kernel_rfl
theorem fa_21 (p : Nat) (W : World) : (Instr.fieldAt 38 (.pointer (some ⟨p, 0, none⟩)) 21).run Try.prog W = .ok (.pointer (some ⟨p, 27, none⟩)) W := by kernel_rfl
theorem fa_22 (p : Nat) (W : World) : (Instr.fieldAt 38 (.pointer (some ⟨p, 0, none⟩)) 22).run Try.prog W = .ok (.pointer (some ⟨p, 28, none⟩)) W := by kernel_rfl
theorem fa_23 (p : Nat) (W : World) : (Instr.fieldAt 38 (.pointer (some ⟨p, 0, none⟩)) 23).run Try.prog W = .ok (.pointer (some ⟨p, 29, none⟩)) W := by kernel_rfl
theorem ld_uint8 (p n : Nat) (v : Value) (W : World) (h : W.cell? ⟨p, n, none⟩ = some v) : (Instr.loadAt 5 (.pointer (some ⟨p, n, none⟩))).run Try.prog W = .ok v W := by go_simp
theorem ld_int (p n : Nat) (v : Value) (W : World) (h : W.cell? ⟨p, n, none⟩ = some v) : (Instr.loadAt 3 (.pointer (some ⟨p, n, none⟩))).run Try.prog W = .ok v W := by go_simp
theorem ld_api_Errno (p n : Nat) (v : Value) (W : World) (h : W.cell? ⟨p, n, none⟩ = some v) : (Instr.loadAt 24 (.pointer (some ⟨p, n, none⟩))).run Try.prog W = .ok v W := by go_simp
theorem ld_bool (p n : Nat) (v : Value) (W : World) (h : W.cell? ⟨p, n, none⟩ = some v) : (Instr.loadAt 4 (.pointer (some ⟨p, n, none⟩))).run Try.prog W = .ok v W := by go_simp
theorem ld_Sapi_Entry (p n : Nat) (v : Value) (W : World) (h : W.cell? ⟨p, n, none⟩ = some v) : (Instr.loadAt 31 (.pointer (some ⟨p, n, none⟩))).run Try.prog W = .ok v W := by go_simp
theorem ld_Sint (p n : Nat) (v : Value) (W : World) (h : W.cell? ⟨p, n, none⟩ = some v) : (Instr.loadAt 32 (.pointer (some ⟨p, n, none⟩))).run Try.prog W = .ok v W := by go_simp
theorem ld_string (p n : Nat) (v : Value) (W : World) (h : W.cell? ⟨p, n, none⟩ = some v) : (Instr.loadAt 9 (.pointer (some ⟨p, n, none⟩))).run Try.prog W = .ok v W := by go_simp
theorem ld_Sapi_Pair (p n : Nat) (v : Value) (W : World) (h : W.cell? ⟨p, n, none⟩ = some v) : (Instr.loadAt 33 (.pointer (some ⟨p, n, none⟩))).run Try.prog W = .ok v W := by go_simp
theorem ld_Sapi_Last (p n : Nat) (v : Value) (W : World) (h : W.cell? ⟨p, n, none⟩ = some v) : (Instr.loadAt 34 (.pointer (some ⟨p, n, none⟩))).run Try.prog W = .ok v W := by go_simp
theorem ld_api_Op (p n : Nat) (v0 v1 v2 v3 v4 : Value) (W : World) (h0 : W.cell? ⟨p, n, none⟩ = some v0) (h1 : W.cell? ⟨p, n + 1, none⟩ = some v1) (h2 : W.cell? ⟨p, n + 2, none⟩ = some v2) (h3 : W.cell? ⟨p, n + 3, none⟩ = some v3) (h4 : W.cell? ⟨p, n + 4, none⟩ = some v4) : (Instr.loadAt 28 (.pointer (some ⟨p, n, none⟩))).run Try.prog W = .ok (.agg #[v0, v1, v2, v3, v4]) W := by go_simp
theorem ld_api_Result (p n : Nat) (v0 v1 v2 : Value) (W : World) (h0 : W.cell? ⟨p, n, none⟩ = some v0) (h1 : W.cell? ⟨p, n + 1, none⟩ = some v1) (h2 : W.cell? ⟨p, n + 2, none⟩ = some v2) : (Instr.loadAt 30 (.pointer (some ⟨p, n, none⟩))).run Try.prog W = .ok (.agg #[v0, v1, v2]) W := by go_simp
theorem ld_api_Command (p n : Nat) (v0 v1 v2 v3 : Value) (W : World) (h0 : W.cell? ⟨p, n, none⟩ = some v0) (h1 : W.cell? ⟨p, n + 1, none⟩ = some v1) (h2 : W.cell? ⟨p, n + 2, none⟩ = some v2) (h3 : W.cell? ⟨p, n + 3, none⟩ = some v3) : (Instr.loadAt 36 (.pointer (some ⟨p, n, none⟩))).run Try.prog W = .ok (.agg #[v0, v1, v2, v3]) W := by go_simp
theorem bin_uint8_eql (x y : Int) (W : World) : (binOp .eql 5 (.int .u8 x) (.int .u8 y)).run Try.prog W = .ok (.bool (x == y)) W := by go_simp
theorem bin_uint8_neq (x y : Int) (W : World) : (binOp .neq 5 (.int .u8 x) (.int .u8 y)).run Try.prog W = .ok (.bool (!(x == y))) W := by rw [show (!(x == y)) = (x != y) from rfl]; go_simp
theorem bin_int_eql (x y : Int) (W : World) : (binOp .eql 3 (.int .i64 x) (.int .i64 y)).run Try.prog W = .ok (.bool (x == y)) W := by go_simp
theorem bin_int_neq (x y : Int) (W : World) : (binOp .neq 3 (.int .i64 x) (.int .i64 y)).run Try.prog W = .ok (.bool (!(x == y))) W := by rw [show (!(x == y)) = (x != y) from rfl]; go_simp
theorem bin_api_Errno_eql (x y : Int) (W : World) : (binOp .eql 24 (.int .i64 x) (.int .i64 y)).run Try.prog W = .ok (.bool (x == y)) W := by go_simp
theorem bin_api_Errno_neq (x y : Int) (W : World) : (binOp .neq 24 (.int .i64 x) (.int .i64 y)).run Try.prog W = .ok (.bool (!(x == y))) W := by rw [show (!(x == y)) = (x != y) from rfl]; go_simp
theorem bin_bool_eql (x y : Bool) (W : World) : (binOp .eql 4 (.bool x) (.bool y)).run Try.prog W = .ok (.bool (x == y)) W := by go_simp
theorem bin_string_eql (x y : ByteArray) (W : World) : (binOp .eql 9 (.string x) (.string y)).run Try.prog W = .ok (.bool (x.toList == y.toList)) W := by go_simp
theorem bin_bool_neq (x y : Bool) (W : World) : (binOp .neq 4 (.bool x) (.bool y)).run Try.prog W = .ok (.bool (!(x == y))) W := by go_simp
theorem bin_string_neq (x y : ByteArray) (W : World) : (binOp .neq 9 (.string x) (.string y)).run Try.prog W = .ok (.bool (!(x.toList == y.toList))) W := by go_simp
theorem bin_api_Op_eql (x y : PO) (W : World) : (binOp .eql 28 (.agg #[.int .u8 x.kind, .string x.key, .string x.val, .string x.old, .bool x.had]) (.agg #[.int .u8 y.kind, .string y.key, .string y.val, .string y.old, .bool y.had])).run Try.prog W = .ok (.bool (x.same y)) W := by
  have h := eq_po x y W
  go_simp
theorem bin_api_Op_neq (x y : PO) (W : World) : (binOp .neq 28 (.agg #[.int .u8 x.kind, .string x.key, .string x.val, .string x.old, .bool x.had]) (.agg #[.int .u8 y.kind, .string y.key, .string y.val, .string y.old, .bool y.had])).run Try.prog W = .ok (.bool (!(x.same y))) W := by
  have h := eq_po x y W
  go_simp
theorem bin_api_Result_eql (x y : PR) (W : World) : (binOp .eql 30 (.agg #[.int .u8 x.kind, .bool x.found, .string x.val]) (.agg #[.int .u8 y.kind, .bool y.found, .string y.val])).run Try.prog W = .ok (.bool (x.same y)) W := by
  have h := eq_res x y W
  go_simp
theorem bin_api_Result_neq (x y : PR) (W : World) : (binOp .neq 30 (.agg #[.int .u8 x.kind, .bool x.found, .string x.val]) (.agg #[.int .u8 y.kind, .bool y.found, .string y.val])).run Try.prog W = .ok (.bool (!(x.same y))) W := by
  have h := eq_res x y W
  go_simp
theorem bin_api_Command_eql (x y : CM) (W : World) : (binOp .eql 36 (.agg #[.int .u8 x.kind, .int .i64 x.shard, .int .i64 x.store, .int .i64 x.epoch]) (.agg #[.int .u8 y.kind, .int .i64 y.shard, .int .i64 y.store, .int .i64 y.epoch])).run Try.prog W = .ok (.bool (x.same y)) W := by
  have h := eq_cm x y W
  go_simp
theorem bin_api_Command_neq (x y : CM) (W : World) : (binOp .neq 36 (.agg #[.int .u8 x.kind, .int .i64 x.shard, .int .i64 x.store, .int .i64 x.epoch]) (.agg #[.int .u8 y.kind, .int .i64 y.shard, .int .i64 y.store, .int .i64 y.epoch])).run Try.prog W = .ok (.bool (!(x.same y))) W := by
  have h := eq_cm x y W
  go_simp
theorem guard_uint8_eql (x y : Operand) (u v : Int) (W : World) : (eqGuard .eql 5 x y (.int .u8 u) (.int .u8 v)).run Try.prog W = .ok () W := by go_simp
theorem guard_uint8_neq (x y : Operand) (u v : Int) (W : World) : (eqGuard .neq 5 x y (.int .u8 u) (.int .u8 v)).run Try.prog W = .ok () W := by go_simp
theorem guard_int_eql (x y : Operand) (u v : Int) (W : World) : (eqGuard .eql 3 x y (.int .i64 u) (.int .i64 v)).run Try.prog W = .ok () W := by go_simp
theorem guard_int_neq (x y : Operand) (u v : Int) (W : World) : (eqGuard .neq 3 x y (.int .i64 u) (.int .i64 v)).run Try.prog W = .ok () W := by go_simp
theorem guard_api_Errno_eql (x y : Operand) (u v : Int) (W : World) : (eqGuard .eql 24 x y (.int .i64 u) (.int .i64 v)).run Try.prog W = .ok () W := by go_simp
theorem guard_api_Errno_neq (x y : Operand) (u v : Int) (W : World) : (eqGuard .neq 24 x y (.int .i64 u) (.int .i64 v)).run Try.prog W = .ok () W := by go_simp
theorem guard_bool_eql (x y : Operand) (u v : Bool) (W : World) : (eqGuard .eql 4 x y (.bool u) (.bool v)).run Try.prog W = .ok () W := by go_simp
theorem guard_bool_neq (x y : Operand) (u v : Bool) (W : World) : (eqGuard .neq 4 x y (.bool u) (.bool v)).run Try.prog W = .ok () W := by go_simp
theorem guard_string_eql (x y : Operand) (u v : ByteArray) (W : World) : (eqGuard .eql 9 x y (.string u) (.string v)).run Try.prog W = .ok () W := by go_simp
theorem guard_string_neq (x y : Operand) (u v : ByteArray) (W : World) : (eqGuard .neq 9 x y (.string u) (.string v)).run Try.prog W = .ok () W := by go_simp
theorem guard_api_Op_eql (x y : Operand) (u v : Array Value) (W : World) : (eqGuard .eql 28 x y (.agg u) (.agg v)).run Try.prog W = .ok () W := run_eqGuard_agg W _ _ _ _ _ _ (by kernel_rfl)
theorem guard_api_Op_neq (x y : Operand) (u v : Array Value) (W : World) : (eqGuard .neq 28 x y (.agg u) (.agg v)).run Try.prog W = .ok () W := run_eqGuard_agg W _ _ _ _ _ _ (by kernel_rfl)
theorem guard_api_Result_eql (x y : Operand) (u v : Array Value) (W : World) : (eqGuard .eql 30 x y (.agg u) (.agg v)).run Try.prog W = .ok () W := run_eqGuard_agg W _ _ _ _ _ _ (by kernel_rfl)
theorem guard_api_Result_neq (x y : Operand) (u v : Array Value) (W : World) : (eqGuard .neq 30 x y (.agg u) (.agg v)).run Try.prog W = .ok () W := run_eqGuard_agg W _ _ _ _ _ _ (by kernel_rfl)
theorem guard_api_Command_eql (x y : Operand) (u v : Array Value) (W : World) : (eqGuard .eql 36 x y (.agg u) (.agg v)).run Try.prog W = .ok () W := run_eqGuard_agg W _ _ _ _ _ _ (by kernel_rfl)
theorem guard_api_Command_neq (x y : Operand) (u v : Array Value) (W : World) : (eqGuard .neq 36 x y (.agg u) (.agg v)).run Try.prog W = .ok () W := run_eqGuard_agg W _ _ _ _ _ _ (by kernel_rfl)
theorem mc_0 (m : MG) (vE vL vP vX : Value) : (m.cells vE vL vP vX)[0]? = some (.int .u8 m.kind) := rfl
theorem mc_1 (m : MG) (vE vL vP vX : Value) : (m.cells vE vL vP vX)[1]? = some (.int .i64 m.shard) := rfl
theorem mc_2 (m : MG) (vE vL vP vX : Value) : (m.cells vE vL vP vX)[2]? = some (.int .i64 m.epoch) := rfl
theorem mc_3 (m : MG) (vE vL vP vX : Value) : (m.cells vE vL vP vX)[3]? = some (.int .i64 m.owner) := rfl
theorem mc_4 (m : MG) (vE vL vP vX : Value) : (m.cells vE vL vP vX)[4]? = some (.int .i64 m.req) := rfl
theorem mc_5 (m : MG) (vE vL vP vX : Value) : (m.cells vE vL vP vX)[5]? = some (.int .i64 m.client) := rfl
theorem mc_6 (m : MG) (vE vL vP vX : Value) : (m.cells vE vL vP vX)[6]? = some (.int .i64 m.id) := rfl
theorem mc_7 (m : MG) (vE vL vP vX : Value) : (m.cells vE vL vP vX)[7]? = some (.int .u8 m.op.kind) := rfl
theorem mc_8 (m : MG) (vE vL vP vX : Value) : (m.cells vE vL vP vX)[8]? = some (.string m.op.key) := rfl
theorem mc_9 (m : MG) (vE vL vP vX : Value) : (m.cells vE vL vP vX)[9]? = some (.string m.op.val) := rfl
theorem mc_10 (m : MG) (vE vL vP vX : Value) : (m.cells vE vL vP vX)[10]? = some (.string m.op.old) := rfl
theorem mc_11 (m : MG) (vE vL vP vX : Value) : (m.cells vE vL vP vX)[11]? = some (.bool m.op.had) := rfl
theorem mc_12 (m : MG) (vE vL vP vX : Value) : (m.cells vE vL vP vX)[12]? = some (.int .i64 m.code) := rfl
theorem mc_13 (m : MG) (vE vL vP vX : Value) : (m.cells vE vL vP vX)[13]? = some (.int .u8 m.res.kind) := rfl
theorem mc_14 (m : MG) (vE vL vP vX : Value) : (m.cells vE vL vP vX)[14]? = some (.bool m.res.found) := rfl
theorem mc_15 (m : MG) (vE vL vP vX : Value) : (m.cells vE vL vP vX)[15]? = some (.string m.res.val) := rfl
theorem mc_16 (m : MG) (vE vL vP vX : Value) : (m.cells vE vL vP vX)[16]? = some (.int .i64 m.grant) := rfl
theorem mc_17 (m : MG) (vE vL vP vX : Value) : (m.cells vE vL vP vX)[17]? = some (.int .i64 m.term) := rfl
theorem mc_18 (m : MG) (vE vL vP vX : Value) : (m.cells vE vL vP vX)[18]? = some (.int .i64 m.index) := rfl
theorem mc_19 (m : MG) (vE vL vP vX : Value) : (m.cells vE vL vP vX)[19]? = some (.int .i64 m.prev) := rfl
theorem mc_20 (m : MG) (vE vL vP vX : Value) : (m.cells vE vL vP vX)[20]? = some (.int .i64 m.commit) := rfl
theorem mc_21 (m : MG) (vE vL vP vX : Value) : (m.cells vE vL vP vX)[21]? = some (.bool m.granted) := rfl
theorem mc_22 (m : MG) (vE vL vP vX : Value) : (m.cells vE vL vP vX)[22]? = some (vE) := rfl
theorem mc_23 (m : MG) (vE vL vP vX : Value) : (m.cells vE vL vP vX)[23]? = some (vL) := rfl
theorem mc_24 (m : MG) (vE vL vP vX : Value) : (m.cells vE vL vP vX)[24]? = some (.string m.state) := rfl
theorem mc_25 (m : MG) (vE vL vP vX : Value) : (m.cells vE vL vP vX)[25]? = some (.int .i64 m.part) := rfl
theorem mc_26 (m : MG) (vE vL vP vX : Value) : (m.cells vE vL vP vX)[26]? = some (.bool m.last) := rfl
theorem mc_27 (m : MG) (vE vL vP vX : Value) : (m.cells vE vL vP vX)[27]? = some (vP) := rfl
theorem mc_28 (m : MG) (vE vL vP vX : Value) : (m.cells vE vL vP vX)[28]? = some (vX) := rfl
theorem mc_29 (m : MG) (vE vL vP vX : Value) : (m.cells vE vL vP vX)[29]? = some (.int .u8 m.cmd.kind) := rfl
theorem mc_30 (m : MG) (vE vL vP vX : Value) : (m.cells vE vL vP vX)[30]? = some (.int .i64 m.cmd.shard) := rfl
theorem mc_31 (m : MG) (vE vL vP vX : Value) : (m.cells vE vL vP vX)[31]? = some (.int .i64 m.cmd.store) := rfl
theorem mc_32 (m : MG) (vE vL vP vX : Value) : (m.cells vE vL vP vX)[32]? = some (.int .i64 m.cmd.epoch) := rfl
end Go.Proofs.Ytblbcoknefgcaaa
