/-
  An argument of the type api.Parcel (a struct of an int and a string), opened and shut.
-/
import Derived.Test.YteiajngfeiemkaaDoorProg
import Derived.ProofKit
import Derived.OpenShut
import Derived.Lib.SmallJoins
import Derived.ChangeMaps
import Derived.Carry
namespace Go.Proofs.YteiajngfeiemkaaDoor
open Go.ChangeShapes Go.WideShapes Go.ChangeAt Go.RowKit

theorem parCells : Tryd.prog.cellsOf 23 = 2 := by kernel_rfl
theorem laidOutP : laidOutB Tryd.prog = true := by kernel_rfl
section
variable {H : Type} {enc : TypeId × Value → H} {w : World} {base : Nat} {spare : Nat → Bool} {held : Bool}
theorem open_parv {r : Reach} {b0 : Nat} {v : Value} {d : DataW H} {p : List MemPlace} (hv : Value.okWide Tryd.prog w r b0 23 v) (h : DataW.Trod enc Tryd.prog w base spare held 23 v d p) :
    ∃ (n : Int) (y : ByteArray), v = .agg #[.int .i64 n, .string y] ∧ p = [] ∧ y.size ≤ maxLen := by
  obtain ⟨v0, v1, y0, y1, m, rfl, rfl, rfl, h0, h1⟩ := Go.Joins.open_agg2 Tryd.underlying23 (by kernel_rfl) parCells hv h
  obtain ⟨n, e0, x0, _⟩ := DataW.trod_int Tryd.underlying3 h0
  obtain ⟨y, e1, x1, w1⟩ := DataW.trod_string Tryd.underlying9 h1
  obtain rfl : v0 = .int .i64 n := by simpa using e0
  obtain rfl : v1 = .string y := by simpa using e1
  subst x0 x1
  exact ⟨n, y, rfl, rfl, w1⟩
end
end Go.Proofs.YteiajngfeiemkaaDoor
