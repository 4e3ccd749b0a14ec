/-
  Walks of layer 1: octet.areDigits, octet.Number, the document's Number.
-/
import Derived.Test.YteiajngfeiemkabDoorRet
import Derived.Test.YteiajngfeiemkabDoorProg
import Derived.Test.YteiajngfeiemkabDoorMathA
import Derived.WalkKit
namespace Go.Proofs.YteiajngfeiemkabDoor
open Go.RowKit


theorem ret_two {a b c d : Int} (h : a = c) (h' : b = d) : Ending.returned (.tuple #[.int .i64 a, .int .i64 b]) = .returned (.tuple #[.int .i64 c, .int .i64 d]) := by rw [h, h']

end Go.Proofs.YteiajngfeiemkabDoor
