/-
  Layer 8's statement ChatEnds, of what a row hands in.
-/
import Derived.Test.YtbgdbdkgokikfaaDoorCh32
namespace Go.Proofs.YtbgdbdkgokikfaaDoor
open Go.RowKit

/-- what a row says of steps that are handed in -/
structure StepsIn (W : World) (a : Option Addr) (cap : Nat) (vs : List SV) (xs : List Ch.St) : Prop where
  sts : ISts W vs xs
  row : Row0 stepE W a vs
  nil : a = none → cap = 0
  lc : vs.length ≤ cap
  cm : cap ≤ maxLen
  bd : ∀ x ∈ xs, x.wants.length ≤ maxLen ∧ x.nudge.length ≤ maxLen ∧ x.send.size ≤ maxLen
end Go.Proofs.YtbgdbdkgokikfaaDoor
