/-
  How an argument of bytes, as the statements' form reads it, reads as a list of bytes; and that a number that fits its kind fits 64 bits. No statement is proved here. No condition.
-/
import Derived.Test.YtlkcmiimmghghaaMem
import Derived.Test.YtlkcmiimmghghaaPlain
import Derived.ProofKit
import Derived.OpenShut
import Derived.ShutString
import Derived.ChangeOld
import Derived.SizedLaws
namespace Go.Proofs.Ytlkcmiimmghghaa
open Go.ChangeShapes Go.WideShapes Go.ChangeAt Go.RowKit
open Go.ChangeMaps (open_string shut_string)

theorem args_knob : ownKnob Try.prog.godebug = none := by kernel_rfl
theorem args_laid : laidOutB Try.prog = true := by kernel_rfl
theorem cells_u8 : Try.prog.cellsOf 5 = 1 := by kernel_rfl
theorem bytes_u8 : Try.prog.bytesOf 5 = 1 := by kernel_rfl

theorem fits_of_wf {n : Int} (h : (Lit.int .i64 n).wf = true) : I64 n := by
  have := bounds_i64 h
  unfold I64
  omega

theorem u8_back {n : Int} (h : (Lit.int .u8 n).wf = true) : ((UInt8.ofNat n.toNat).toNat : Int) = n := by
  have := bounds_u8 h
  rw [UInt8.toNat_ofNat']
  omega

end Go.Proofs.Ytlkcmiimmghghaa
