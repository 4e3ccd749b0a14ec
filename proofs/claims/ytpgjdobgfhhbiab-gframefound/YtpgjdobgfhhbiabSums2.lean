/-
  Walk of layer 2: the document's Sum.
-/
import Derived.Test.YtpgjdobgfhhbiabSums
namespace Go.Proofs.Ytpgjdobgfhhbiab
open Go.RowKit

end Go.Proofs.Ytpgjdobgfhhbiab
