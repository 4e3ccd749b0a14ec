/-
  Walks of the laws of layer 5: JobRises, whatever row it is given.
-/
import Derived.Test.YthjlhbbhdliffaaDoorLawJ7
import Derived.Test.YthjlhbbhdliffaaDoorJobsArg
namespace Go.Proofs.YthjlhbbhdliffaaDoor
open Go.RowKit

theorem rises_walk (a : Option Addr) (cap : Nat) (l : List Job.Jb) (_ : ∀ j ∈ l, Fits j) (hn : l.length ≤ maxLen) (_ : a = none → cap = 0) (w : World) (hrow : JRow0 w a l) (hw : Ok w) :
    Calls Tryd.prog 7 #[.slice a l.length cap] w fun e w' => e = .returned (.bool true) ∧ Below w.heap.size w w' := by
  rcases hrow with rfl | ⟨rfl, rfl⟩ | ⟨b, o, rfl, hb, hc⟩
  · cases a with
    | none => exact rises_none cap w hw
    | some ad => exact rises_some ad cap w hw
  · exact rises_none cap w hw
  · exact rises_row b o cap l hn w hb hc hw
end Go.Proofs.YthjlhbbhdliffaaDoor
