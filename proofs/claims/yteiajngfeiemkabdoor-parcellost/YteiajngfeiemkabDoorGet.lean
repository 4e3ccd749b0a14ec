/-
  Walks of layer 1: octet.isSize, octet.Get, the document's Get.
-/
import Derived.Test.YteiajngfeiemkabDoorNum
import Derived.Test.YteiajngfeiemkabDoorMathB
import Derived.Test.YteiajngfeiemkabDoorBits
namespace Go.Proofs.YteiajngfeiemkabDoor
open Go.RowKit

end Go.Proofs.YteiajngfeiemkabDoor
