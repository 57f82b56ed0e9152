/-
  The document's own disk: Crash, Read, Flush. Conditions: none but that it lies in memory and its lists are not too long.
-/
import Derived.Test.YtplpfhgdanclhaaDRefB
namespace Go.Proofs.Ytplpfhgdanclhaa
open Go.RowKit

end Go.Proofs.Ytplpfhgdanclhaa
