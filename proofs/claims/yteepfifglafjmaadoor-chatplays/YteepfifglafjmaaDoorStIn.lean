/-
  Layer 8: what a row says of steps that are handed in.
-/
import Derived.Test.YteepfifglafjmaaDoorCh23
namespace Go.Proofs.YteepfifglafjmaaDoor
open Go.RowKit

/-- what a row says of steps that are handed in -/
structure StepsIn (W : World) (a : Option Addr) (cap : Nat) (vs : List SV) (xs : List Ch.St) : Prop where
  sts : ISts W vs xs
  row : Row0 stepE W a vs
  nil : a = none → cap = 0
  lc : vs.length ≤ cap
  cm : cap ≤ maxLen
  bd : ∀ x ∈ xs, x.wants.length ≤ maxLen ∧ x.nudge.length ≤ maxLen ∧ x.send.size ≤ maxLen
end Go.Proofs.YteepfifglafjmaaDoor
