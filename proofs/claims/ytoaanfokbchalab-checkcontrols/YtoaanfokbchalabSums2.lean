/-
  Walk of layer 2: the document's Sum.
-/
import Derived.Test.YtoaanfokbchalabSums
namespace Go.Proofs.Ytoaanfokbchalab
open Go.RowKit

end Go.Proofs.Ytoaanfokbchalab
