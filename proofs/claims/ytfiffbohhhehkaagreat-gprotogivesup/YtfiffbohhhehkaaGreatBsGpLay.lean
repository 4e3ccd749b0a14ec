/-
  Arguments of the statements of layers 15 and 16: what every row asks.
-/
import Derived.Test.YtfiffbohhhehkaaGreatBsLay0
import Derived.Lib.SmallJoins
import Derived.Carry
namespace Go.Proofs.YtfiffbohhhehkaaGreat
open Go.ChangeShapes Go.WideShapes Go.ChangeAt Go.RowKit
theorem laidOutP : laidOutB Tryz.prog = true := by kernel_rfl
end Go.Proofs.YtfiffbohhhehkaaGreat
