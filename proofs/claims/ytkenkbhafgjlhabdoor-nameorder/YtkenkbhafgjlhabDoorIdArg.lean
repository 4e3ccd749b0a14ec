/-
  An argument of the type api.Id (a struct of two ints), opened and shut.
-/
import Derived.Test.YtkenkbhafgjlhabDoorProg
import Derived.ProofKit
import Derived.OpenShut
import Derived.Lib.SmallJoins
namespace Go.Proofs.YtkenkbhafgjlhabDoor
open Go.ChangeShapes Go.WideShapes Go.ChangeAt Go.RowKit

theorem idCells : Tryd.prog.cellsOf 23 = 2 := by kernel_rfl
section
variable {H : Type} {enc : TypeId × Value → H} {w : World} {base : Nat} {spare : Nat → Bool} {held : Bool}
theorem open_id {r : Reach} {b0 : Nat} {v : Value} {d : DataW H} {p : List MemPlace} (hv : Value.okWide Tryd.prog w r b0 23 v) (h : DataW.Trod enc Tryd.prog w base spare held 23 v d p) :
    ∃ g n : Int, v = .agg #[.int .i64 g, .int .i64 n] ∧ d = .agg [.lit (.int .i64 g), .lit (.int .i64 n)] ∧ p = [] ∧ (Lit.int .i64 g).wf = true ∧ (Lit.int .i64 n).wf = true := by
  obtain ⟨v0, v1, y0, y1, m, rfl, rfl, rfl, h0, h1⟩ := Go.Joins.open_agg2 Tryd.underlying23 (by kernel_rfl) idCells hv h
  obtain ⟨g, e0, x0, w0⟩ := DataW.trod_int Tryd.underlying3 h0
  obtain ⟨n, e1, x1, w1⟩ := DataW.trod_int Tryd.underlying3 h1
  obtain rfl : v0 = .int .i64 g := by simpa using e0
  obtain rfl : v1 = .int .i64 n := by simpa using e1
  subst x0 x1
  exact ⟨g, n, rfl, rfl, rfl, w0, w1⟩
theorem shut_id {g n : Int} (w0 : (Lit.int .i64 g).wf = true) (w1 : (Lit.int .i64 n).wf = true) :
    DataW.Trod enc Tryd.prog w base spare held 23 (.agg #[.int .i64 g, .int .i64 n]) (.agg [.lit (.int .i64 g), .lit (.int .i64 n)]) [] := by
  have h0 : ∃ m, DataW.trod enc Tryd.prog w base spare held m 3 [.int .i64 g] = some (.lit (.int .i64 g), []) := by
    obtain ⟨m, h⟩ := shut_int (enc := enc) (w := w) (base := base) (spare := spare) (held := held) Tryd.underlying3 w0; exact ⟨m, h⟩
  have h1 : ∃ m, DataW.trod enc Tryd.prog w base spare held m 3 [.int .i64 n] = some (.lit (.int .i64 n), []) := by
    obtain ⟨m, h⟩ := shut_int (enc := enc) (w := w) (base := base) (spare := spare) (held := held) Tryd.underlying3 w1; exact ⟨m, h⟩
  exact Go.Joins.shut_agg2 Tryd.underlying23 (by kernel_rfl) idCells h0 h1
end
end Go.Proofs.YtkenkbhafgjlhabDoor
