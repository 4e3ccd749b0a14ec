/-
  Walks of layer 1: octet.isSize, octet.Get, the document's Get.
-/
import Derived.Test.YteiajngfeiemkaaDoorNum
import Derived.Test.YteiajngfeiemkaaDoorMathB
import Derived.Test.YteiajngfeiemkaaDoorBits
namespace Go.Proofs.YteiajngfeiemkaaDoor
open Go.RowKit

end Go.Proofs.YteiajngfeiemkaaDoor
