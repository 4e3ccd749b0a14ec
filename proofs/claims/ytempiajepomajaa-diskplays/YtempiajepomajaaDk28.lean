/-
  Layer 6: DiskOthers.
-/
import Derived.Test.YtempiajepomajaaDk27
namespace Go.Proofs.Ytempiajepomajaa
open Go.RowKit

end Go.Proofs.Ytempiajepomajaa
