/-
  Layer 8's statement ChatEnds, of what a row hands in.
-/
import Derived.Test.YtpggnhnpphbaeaaDoorCh32
import Derived.Test.YtpggnhnpphbaeaaDoorStIn
namespace Go.Proofs.YtpggnhnpphbaeaaDoor
open Go.RowKit

end Go.Proofs.YtpggnhnpphbaeaaDoor
