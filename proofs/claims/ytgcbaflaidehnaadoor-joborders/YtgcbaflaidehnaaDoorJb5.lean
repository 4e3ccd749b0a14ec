/-
  Walks of layer 5: the document's Check.
-/
import Derived.Test.YtgcbaflaidehnaaDoorJb4
namespace Go.Proofs.YtgcbaflaidehnaaDoor
open Go.RowKit

namespace Job
theorem cmd_oth {k : Int} {c : ByteArray} {b : Bool} (hk : k ≠ 2) (h : cmd k c.data.toList = b) : (c.toList == []) = b := by
  unfold cmd at h; rw [if_neg hk] at h; rw [tl_eq]; exact h
end Job

end Go.Proofs.YtgcbaflaidehnaaDoor
