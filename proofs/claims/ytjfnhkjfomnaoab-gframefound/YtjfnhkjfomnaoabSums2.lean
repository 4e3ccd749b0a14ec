/-
  Walk of layer 2: the document's Sum.
-/
import Derived.Test.YtjfnhkjfomnaoabSums
namespace Go.Proofs.Ytjfnhkjfomnaoab
open Go.RowKit

end Go.Proofs.Ytjfnhkjfomnaoab
