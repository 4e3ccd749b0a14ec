/-
  Layer 8: steps that a caller hands in: rows that are only read.
-/
import Derived.Test.YtpggnhnpphbaeaaDoorCh16
namespace Go.Proofs.YtpggnhnpphbaeaaDoor
open Go.RowKit

/-- none, or a row -/
def Row0 {α : Type} (E : Rg.El α) (W : World) (a : Option Addr) (l : List α) : Prop := l = [] ∨ E.Row W a l
theorem Row0.row {α : Type} {E : Rg.El α} {W : World} {a : Option Addr} {l : List α} (h : Row0 E W a l) {i : Nat} (hi : i < l.length) : E.Row W a l := by
  rcases h with rfl | h
  · simp at hi
  · exact h
theorem Row0.below {α : Type} {E : Rg.El α} {W W' : World} {a : Option Addr} {l : List α} (h : Row0 E W a l) (hb : Below W.heap.size W W') : Row0 E W' a l := h.imp id (fun h => h.below hb)
/-- a step that is handed in -/
structure ISt (W : World) (v : SV) (x : Ch.St) : Prop where
  n : v.n = x.wants.length
  wants : Row0 strE W v.a x.wants
  nc : v.n ≤ v.c
  an : v.a = none → v.c = 0
  m : v.m = x.nudge.length
  nudge : Row0 strE W v.b x.nudge
  md : v.m ≤ v.d
  bn : v.b = none → v.d = 0
  s : v.s = x.send
theorem ISt.below {W W' : World} {v : SV} {x : Ch.St} (h : ISt W v x) (hb : Below W.heap.size W W') : ISt W' v x := ⟨h.n, h.wants.below hb, h.nc, h.an, h.m, h.nudge.below hb, h.md, h.bn, h.s⟩
/-- steps that are handed in -/
def ISts (W : World) (vs : List SV) (xs : List Ch.St) : Prop := vs.length = xs.length ∧ ∀ (i : Nat) (h1 : i < vs.length) (h2 : i < xs.length), ISt W vs[i] xs[i]
theorem ISts.below {W W' : World} {vs : List SV} {xs : List Ch.St} (h : ISts W vs xs) (hb : Below W.heap.size W W') : ISts W' vs xs := ⟨h.1, fun i h1 h2 => (h.2 i h1 h2).below hb⟩
end Go.Proofs.YtpggnhnpphbaeaaDoor
