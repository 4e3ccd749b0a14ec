/-
  Chats (layer 8) in plain mathematics: the example that each statement ends with.
-/
import Derived.Test.YtpggnhnpphbaeaaDoorMathX
import Derived.Test.YtpggnhnpphbaeaaDoorMathY
import Derived.KernelRfl
namespace Go.Proofs.YtpggnhnpphbaeaaDoor
namespace Ch
def exText : ByteArray := ⟨#[111, 103, 105, 110, 58, 45, 92, 114, 92, 99, 45, 111, 103, 105, 110, 58, 32, 117, 117, 99, 112, 32, 119, 111, 114, 100, 58, 32, 120, 92, 99]⟩
def exSteps : List St := [⟨[⟨#[111, 103, 105, 110, 58]⟩, ⟨#[111, 103, 105, 110, 58]⟩], [⟨#[13]⟩], ⟨#[117, 117, 99, 112, 13]⟩⟩, ⟨[⟨#[119, 111, 114, 100, 58]⟩], [], ⟨#[120]⟩⟩]
set_option maxRecDepth 100000 in
theorem ex_parse : parse exText = (exSteps, 0) := by kernel_rfl
def ex1 : Co := ⟨exSteps, 0, 0, [], 0, 3, false, false⟩
def ex2 : Co := ⟨exSteps, 1, 0, [32], 0, 3, false, false⟩
def ex3 : Co := ⟨exSteps, 2, 0, [32], 0, 3, true, false⟩
set_option maxRecDepth 100000 in
theorem ex_begin : begin_ exSteps 3 = (ex1, []) := by kernel_rfl
set_option maxRecDepth 100000 in
theorem ex_feed1 : feed ex1 [108, 111, 103, 105, 110, 58, 32] = (ex2, [117, 117, 99, 112, 13]) := by kernel_rfl
set_option maxRecDepth 100000 in
theorem ex_feed2 : feed ex2 [80, 97, 115, 115, 119, 111, 114, 100, 58, 32] = (ex3, [120]) := by kernel_rfl
end Ch
end Go.Proofs.YtpggnhnpphbaeaaDoor
