/-
  Plain facts on single numbers' bytes. No program in sight, no condition.
-/
import Derived.Test.YtfpammdpnccciaaPlain
namespace Go.Proofs.Ytfpammdpnccciaa
theorem uv_max : (uv 2147483647).length = 5 := by
  rw [uv_large (by omega), uv_large (by omega), uv_large (by omega), uv_large (by omega), uv_small (by omega)]
  simp
theorem zz_least : zz (-9223372036854775808) = 18446744073709551615 := by unfold zz; rw [if_pos (by omega)]; omega
theorem uv_least : uv (zz (-9223372036854775808)) = [255, 255, 255, 255, 255, 255, 255, 255, 255, 1] := by
  rw [zz_least]
  rw [uv_large (by omega), uv_large (by omega), uv_large (by omega), uv_large (by omega), uv_large (by omega), uv_large (by omega), uv_large (by omega), uv_large (by omega), uv_large (by omega), uv_small (by omega)]
  decide +kernel
end Go.Proofs.Ytfpammdpnccciaa
