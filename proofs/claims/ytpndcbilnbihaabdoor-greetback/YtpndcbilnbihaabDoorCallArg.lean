/-
  An argument of the type api.Call (a struct of a string and an int), opened and shut.
-/
import Derived.Test.YtpndcbilnbihaabDoorProg
import Derived.ProofKit
import Derived.OpenShut
import Derived.Lib.SmallJoins
import Derived.ChangeMaps
import Derived.Carry
namespace Go.Proofs.YtpndcbilnbihaabDoor
open Go.ChangeShapes Go.WideShapes Go.ChangeAt Go.RowKit

theorem callCells : Tryd.prog.cellsOf 23 = 2 := by kernel_rfl
section
variable {H : Type} {enc : TypeId × Value → H} {w : World} {base : Nat} {spare : Nat → Bool} {held : Bool}
theorem open_callv {r : Reach} {b0 : Nat} {v : Value} {d : DataW H} {p : List MemPlace} (hv : Value.okWide Tryd.prog w r b0 23 v) (h : DataW.Trod enc Tryd.prog w base spare held 23 v d p) :
    ∃ (y : ByteArray) (n : Int), v = .agg #[.string y, .int .i64 n] ∧ p = [] ∧ y.size ≤ maxLen ∧ (Lit.int .i64 n).wf = true := by
  obtain ⟨v0, v1, y0, y1, m, rfl, rfl, rfl, h0, h1⟩ := Go.Joins.open_agg2 Tryd.underlying23 (by kernel_rfl) callCells hv h
  obtain ⟨y, e0, x0, w0⟩ := DataW.trod_string Tryd.underlying9 h0
  obtain ⟨n, e1, x1, w1⟩ := DataW.trod_int Tryd.underlying3 h1
  obtain rfl : v0 = .string y := by simpa using e0
  obtain rfl : v1 = .int .i64 n := by simpa using e1
  subst x0 x1
  exact ⟨y, n, rfl, rfl, w0, w1⟩
end
theorem laidOutP : laidOutB Tryd.prog = true := by kernel_rfl
end Go.Proofs.YtpndcbilnbihaabDoor
