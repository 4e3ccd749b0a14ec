/-
  Chats (layer 8) in plain mathematics: a chat that goes on.
-/
import Derived.Test.YtpggnhnpphbaeaaDoorMathI
namespace Go.Proofs.YtpggnhnpphbaeaaDoor
namespace Ch
/-- a chat -/
structure Co where
  steps : List St
  step : Int
  want : Int
  seen : List UInt8
  wait : Int
  pat : Int
  over : Bool
  failed : Bool
def none_ : St := ⟨[], [], ⟨#[]⟩⟩
def at_ (c : Co) : St := c.steps.getD c.step.toNat none_
def wanted (c : Co) : ByteArray := (at_ c).wants.getD c.want.toNat ⟨#[]⟩
/-- as far as what was seen brings it -/
def run : Nat → Co → List UInt8 → Co × List UInt8
  | 0, c, out => (c, out)
  | n + 1, c, out => if 0 ≤ c.step ∧ c.step < (c.steps.length : Int) then
      (if 0 ≤ c.want ∧ c.want < ((at_ c).wants.length : Int) then
        (if (Lib.cut c.seen (wanted c).data.toList).2.2 = true then run n { c with seen := (Lib.cut c.seen (wanted c).data.toList).2.1, step := c.step + 1, want := 0, wait := 0 } (out ++ (at_ c).send.data.toList)
        else ({ c with seen := c.seen.drop (c.seen.length - 300) }, out))
      else ({ c with failed := true }, out))
    else ({ c with over := true }, out)
def goOn (c : Co) : Co × List UInt8 := run (c.steps.length + 1) c []
def feed (c : Co) (s : List UInt8) : Co × List UInt8 := if c.over = true ∨ c.failed = true then (c, []) else goOn { c with seen := c.seen ++ s }
def begin_ (l : List St) (p : Int) : Co × List UInt8 := goOn ⟨l, 0, 0, [], 0, min (max p 1) 1000, false, false⟩
end Ch
end Go.Proofs.YtpggnhnpphbaeaaDoor
