/-
  Walks of layer 1: octet.Put, the document's Put.
-/
import Derived.Test.YteiajngfeiemkabDoorGet
import Derived.Test.YteiajngfeiemkabDoorMathCo
import Derived.Lib.Builder
import Derived.Lib.BufferMore
import Derived.Laws.IdiomStrings
namespace Go.Proofs.YteiajngfeiemkabDoor
open Go.RowKit

theorem ret_sn {s t : ByteArray} {b d : Int} (h : s = t) (h' : b = d) : Ending.returned (.tuple #[.string s, .int .i64 b]) = .returned (.tuple #[.string t, .int .i64 d]) := by rw [h, h']

end Go.Proofs.YteiajngfeiemkabDoor
