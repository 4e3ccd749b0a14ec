/-
  Layer 8: nudgeOf.
-/
import Derived.Test.YtpggnhnpphbaeaaDoorCh14
namespace Go.Proofs.YtpggnhnpphbaeaaDoor
open Go.RowKit

theorem bel_dN {B : Nat} {w w' : World} (h : Below B w w') (q : Nat) : Below B w (w'.drewN q) := ⟨h.1, h.2, h.3, h.4, h.5⟩
theorem placeB (w1 : World) (C : World → Prop) (hC : ∀ W, Below w1.heap.size w1 W → C W) (a n : Int) (r : Bool) (hd : decide (0 ≤ a ∧ a < n) = r) : ∀ W, Below w1.heap.size w1 W → Calls Tryd.prog 20 #[.int .i64 a, .int .i64 n] W fun e w' => e = .returned (.bool r) ∧ Below w1.heap.size w1 w' ∧ C w' := fun W hW => by
  rw [← hd]
  exact (place_any a n W).mono fun e w' ⟨h1, h2⟩ => ⟨h1, by rw [h2]; exact hW, by rw [h2]; exact hC W hW⟩

/-- what is sent in the stead of a text -/
def Ch.nudgeOf (c : Ch.Co) : Option ByteArray := if 0 ≤ c.step ∧ c.step < (c.steps.length : Int) then (if 0 ≤ c.want ∧ c.want < ((Ch.at_ c).nudge.length : Int) then some ((Ch.at_ c).nudge.getD c.want.toNat ⟨#[]⟩) else none) else none
/-- behind nudgeOf -/
def NPost (w : World) (r : Option ByteArray) (e : Ending) (w' : World) : Prop := Below w.heap.size w w' ∧ match r with
  | some s => e = .returned (.tuple #[.string s, .bool true])
  | none => e = .returned (.tuple #[.string ⟨#[]⟩, .bool false])
end Go.Proofs.YtpggnhnpphbaeaaDoor
