/-
  Layer 8's statement ChatEnds, of what a row hands in.
-/
import Derived.Test.YtdclnimmfnlnhaaDoorCh32
namespace Go.Proofs.YtdclnimmfnlnhaaDoor
open Go.RowKit

/-- what a row says of steps that are handed in -/
structure StepsIn (W : World) (a : Option Addr) (cap : Nat) (vs : List SV) (xs : List Ch.St) : Prop where
  sts : ISts W vs xs
  row : Row0 stepE W a vs
  nil : a = none → cap = 0
  lc : vs.length ≤ cap
  cm : cap ≤ maxLen
  bd : ∀ x ∈ xs, x.wants.length ≤ maxLen ∧ x.nudge.length ≤ maxLen ∧ x.send.size ≤ maxLen
theorem ends_card (a : Option Addr) (c : Nat) (vs : List SV) (xs : List Ch.St) (p : Int) (_lo : -9223372036854775808 ≤ p) (_hi : p ≤ 9223372036854775807) (w : World) (h : StepsIn w a c vs xs) (hE : Env w) :
    Calls Tryd.prog 8 #[.slice a vs.length c, .int .i64 p] w fun e w' => e = .returned (.bool true) ∧ Below w.heap.size w w' := by
  rw [h.sts.1]
  exact ends_walk a c vs xs p w h.row h.sts (fun x hx => (h.bd x hx).2.2) hE
end Go.Proofs.YtdclnimmfnlnhaaDoor
