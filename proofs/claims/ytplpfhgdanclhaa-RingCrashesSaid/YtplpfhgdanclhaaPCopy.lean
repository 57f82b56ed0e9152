/-
  The program's own disk: Copy. No statement is proved here. No condition.
-/
import Derived.Test.YtplpfhgdanclhaaPNew
namespace Go.Proofs.Ytplpfhgdanclhaa
open Go.RowKit Go.Maps

end Go.Proofs.Ytplpfhgdanclhaa
