/-
  Layer 6: DiskBegins.
-/
import Derived.Test.YtempiajepomajaaDk23
namespace Go.Proofs.Ytempiajepomajaa
open Go.RowKit

end Go.Proofs.Ytempiajepomajaa
