/-
  A message's twin: the program's. No statement is proved here. No condition.
-/
import Derived.Test.YtblbcoknefgcaaaMTwinM
namespace Go.Proofs.Ytblbcoknefgcaaa
open Go.RowKit

end Go.Proofs.Ytblbcoknefgcaaa
