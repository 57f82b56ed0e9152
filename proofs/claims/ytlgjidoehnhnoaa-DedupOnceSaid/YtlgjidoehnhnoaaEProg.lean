/-
  The program's seven functions: their contracts stand in the texts that are imported (pcheck_any, pplace_any, pfind_any, pdo_any, pseen_any, pnote_any, pstep_any). No statement is proved here. No condition.
-/
import Derived.Test.YtlgjidoehnhnoaaEStepP
namespace Go.Proofs.Ytlgjidoehnhnoaa
end Go.Proofs.Ytlgjidoehnhnoaa
