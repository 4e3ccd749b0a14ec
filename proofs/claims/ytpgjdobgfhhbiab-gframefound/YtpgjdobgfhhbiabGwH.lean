/-
  Walks of the laws of layer 11: GframeBack.
-/
import Derived.Test.YtpgjdobgfhhbiabGwG
namespace Go.Proofs.Ytpgjdobgfhhbiab
open Go.RowKit
theorem Gf.more {w W : World} (h : Below w.heap.size w W) (o : Obj) : Below w.heap.size w (W.alloc o) := h.alloc h.size o
end Go.Proofs.Ytpgjdobgfhhbiab
