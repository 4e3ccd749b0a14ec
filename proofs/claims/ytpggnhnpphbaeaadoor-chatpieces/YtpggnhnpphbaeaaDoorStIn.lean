/-
  Layer 8: what a row says of steps that are handed in.
-/
import Derived.Test.YtpggnhnpphbaeaaDoorCh23
namespace Go.Proofs.YtpggnhnpphbaeaaDoor
open Go.RowKit

/-- what a row says of steps that are handed in -/
structure StepsIn (W : World) (a : Option Addr) (cap : Nat) (vs : List SV) (xs : List Ch.St) : Prop where
  sts : ISts W vs xs
  row : Row0 stepE W a vs
  nil : a = none → cap = 0
  lc : vs.length ≤ cap
  cm : cap ≤ maxLen
  bd : ∀ x ∈ xs, x.wants.length ≤ maxLen ∧ x.nudge.length ≤ maxLen ∧ x.send.size ≤ maxLen
/-- a step that is only read -/
structure LSt (W : World) (v : SV) (x : Ch.St) : Prop where
  n : v.n = x.wants.length
  wants : Row0 strE W v.a x.wants
  m : v.m = x.nudge.length
  nudge : Row0 strE W v.b x.nudge
  s : v.s = x.send
theorem LSt.below {W W' : World} {v : SV} {x : Ch.St} (h : LSt W v x) (hb : Below W.heap.size W W') : LSt W' v x := ⟨h.n, h.wants.below hb, h.m, h.nudge.below hb, h.s⟩
def LSts (W : World) (vs : List SV) (xs : List Ch.St) : Prop := vs.length = xs.length ∧ ∀ (i : Nat) (h1 : i < vs.length) (h2 : i < xs.length), LSt W vs[i] xs[i]
theorem LSts.below {W W' : World} {vs : List SV} {xs : List Ch.St} (h : LSts W vs xs) (hb : Below W.heap.size W W') : LSts W' vs xs := ⟨h.1, fun i h1 h2 => (h.2 i h1 h2).below hb⟩
theorem ISts.ls {W : World} {vs : List SV} {xs : List Ch.St} (h : ISts W vs xs) : LSts W vs xs := ⟨h.1, fun i h1 h2 => have q := h.2 i h1 h2; ⟨q.n, q.wants, q.m, q.nudge, q.s⟩⟩
end Go.Proofs.YtpggnhnpphbaeaaDoor
