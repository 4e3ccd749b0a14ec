/-
  Layer 6: DiskBegins.
-/
import Derived.Test.YtiobkkiamjkmeaaDk23
namespace Go.Proofs.Ytiobkkiamjkmeaa
open Go.RowKit

end Go.Proofs.Ytiobkkiamjkmeaa
