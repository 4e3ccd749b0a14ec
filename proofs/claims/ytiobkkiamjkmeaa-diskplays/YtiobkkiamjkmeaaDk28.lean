/-
  Layer 6: DiskOthers.
-/
import Derived.Test.YtiobkkiamjkmeaaDk27
namespace Go.Proofs.Ytiobkkiamjkmeaa
open Go.RowKit

end Go.Proofs.Ytiobkkiamjkmeaa
