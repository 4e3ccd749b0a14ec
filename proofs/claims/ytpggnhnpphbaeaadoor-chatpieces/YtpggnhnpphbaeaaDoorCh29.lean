/-
  Layer 8: Tick, arm by arm.
-/
import Derived.Test.YtpggnhnpphbaeaaDoorCh28
namespace Go.Proofs.YtpggnhnpphbaeaaDoor
open Go.RowKit

end Go.Proofs.YtpggnhnpphbaeaaDoor
