/-
  No cell of these rows narrows 'for every input' (looked for: loops, veiled, ifaces, maps, wideKeys, modest, calm, conditions, laid).
  DERIVED. THE GIVEN ROWS OF THIS SEAT. 4 by the template 'for every input the law returns true; each argument reads behind the call as it read before'; 0 by the template 'total and deterministic' (their statements: YtpndcbilnbihaaaTotals.lean).
  GIVEN WITH THE SEED: the statements are not yours to turn. If you find one false, say at which input.
  Laid BY PROGRAM, IN A SANDBOX (cutbox-rows.mjs): the forced cells as the released guide's own fill.sh prints them over the translation f24167325cf06d37… (all of the seat's roots in one cut). By AI agents, Wed Nov 11 2026. No macro, syntax, notation, axiom, sorry.
-/
import Derived.Test.YtpndcbilnbihaaaChecked
import GoSem.Claim
import GoSem.ClaimJoined
import GoSem.ClaimMapViews
import Derived.JoinedTies
import Derived.KernelRfl
namespace Go.Proofs.Ytpndcbilnbihaaa
/- THE CELL 'sum', in the pinned program and in every row, IS THE sha256 OF THE DUMP (.gsa) THAT YtpndcbilnbihaaaProg.lean LOADS. Nothing in Lean hashes anything: it is a label: what it is worth is what the hold of that sum in a sandbox is worth. -/
noncomputable def Try.pinned : Pinned := { name := "ytpndcbilnbihaaa", sum := "f24167325cf06d374ebcb9ea45c9f96d57296199da314d190613f8a7f3e30263", checked := Try.checked }
namespace Rows
def none {H : Type} : Left H := { results := [], args := [] }

/-- 'postchaiselaw09.GreetHellos': WHATEVER THE INPUT: true; the input reads as it did. -/
def greetHellosSpec : ChangeSpec := { name := "greetHellos", fn := fun _ => fun
  | [d1, d2] => { results := [.lit (.bool true)], args := [d1, d2] }
  | _ => none }
def greetHellosRow : OpenClaim := { program := "ytpndcbilnbihaaa", sum := "f24167325cf06d374ebcb9ea45c9f96d57296199da314d190613f8a7f3e30263", func := "postchaise/postchaiselaw09.GreetHellos", spec := "greetHellos", inPlace := ["internal/bytealg.IndexByteString", "internal/abi.NoEscape", "internal/bytealg.IndexString"], named := ["internal/bytealg.MaxLen"], apart := false }
def GreetHellosSaid : Prop := greetHellosRow.holds Try.pinned (OpenSpec.ofChange greetHellosSpec)

/-- ITS FALSE NEIGHBOUR: 'it returns false'. Refute it at one input. -/
def greetHellosWrong : ChangeSpec := { name := "greetHellos", fn := fun _ => fun
  | [d1, d2] => { results := [.lit (.bool false)], args := [d1, d2] }
  | _ => none }
def GreetHellosWrongFalsely : Prop := greetHellosRow.holds Try.pinned (OpenSpec.ofChange greetHellosWrong)

/-- 'postchaiselaw09.GreetScans': WHATEVER THE INPUT: true; the input reads as it did. -/
def greetScansSpec : ChangeSpec := { name := "greetScans", fn := fun _ => fun
  | [d] => { results := [.lit (.bool true)], args := [d] }
  | _ => none }
def greetScansRow : OpenClaim := { program := "ytpndcbilnbihaaa", sum := "f24167325cf06d374ebcb9ea45c9f96d57296199da314d190613f8a7f3e30263", func := "postchaise/postchaiselaw09.GreetScans", spec := "greetScans", inPlace := ["internal/bytealg.IndexByteString", "internal/abi.NoEscape", "internal/bytealg.IndexString"], named := ["internal/bytealg.MaxLen"], apart := false }
def GreetScansSaid : Prop := greetScansRow.holds Try.pinned (OpenSpec.ofChange greetScansSpec)

/-- ITS FALSE NEIGHBOUR: 'it returns false'. Refute it at one input. -/
def greetScansWrong : ChangeSpec := { name := "greetScans", fn := fun _ => fun
  | [d] => { results := [.lit (.bool false)], args := [d] }
  | _ => none }
def GreetScansWrongFalsely : Prop := greetScansRow.holds Try.pinned (OpenSpec.ofChange greetScansWrong)

/-- 'postchaiselaw09.GreetOffers': WHATEVER THE INPUT: true; the input reads as it did. -/
def greetOffersSpec : ChangeSpec := { name := "greetOffers", fn := fun _ => fun
  | [d1, d2, d3] => { results := [.lit (.bool true)], args := [d1, d2, d3] }
  | _ => none }
def greetOffersRow : OpenClaim := { program := "ytpndcbilnbihaaa", sum := "f24167325cf06d374ebcb9ea45c9f96d57296199da314d190613f8a7f3e30263", func := "postchaise/postchaiselaw09.GreetOffers", spec := "greetOffers", inPlace := ["internal/bytealg.IndexByteString", "internal/abi.NoEscape", "internal/bytealg.IndexString"], named := ["internal/bytealg.MaxLen"], apart := false }
def GreetOffersSaid : Prop := greetOffersRow.holds Try.pinned (OpenSpec.ofChange greetOffersSpec)

/-- ITS FALSE NEIGHBOUR: 'it returns false'. Refute it at one input. -/
def greetOffersWrong : ChangeSpec := { name := "greetOffers", fn := fun _ => fun
  | [d1, d2, d3] => { results := [.lit (.bool false)], args := [d1, d2, d3] }
  | _ => none }
def GreetOffersWrongFalsely : Prop := greetOffersRow.holds Try.pinned (OpenSpec.ofChange greetOffersWrong)

/-- 'postchaiselaw09.GreetDoors': WHATEVER THE INPUT: true; the input reads as it did. -/
def greetDoorsSpec : ChangeSpec := { name := "greetDoors", fn := fun _ => fun
  | [d1, d2, d3] => { results := [.lit (.bool true)], args := [d1, d2, d3] }
  | _ => none }
def greetDoorsRow : OpenClaim := { program := "ytpndcbilnbihaaa", sum := "f24167325cf06d374ebcb9ea45c9f96d57296199da314d190613f8a7f3e30263", func := "postchaise/postchaiselaw09.GreetDoors", spec := "greetDoors", inPlace := ["internal/bytealg.IndexByteString", "internal/abi.NoEscape", "internal/bytealg.IndexString"], named := ["internal/bytealg.MaxLen"], apart := false }
def GreetDoorsSaid : Prop := greetDoorsRow.holds Try.pinned (OpenSpec.ofChange greetDoorsSpec)

/-- ITS FALSE NEIGHBOUR: 'it returns false'. Refute it at one input. -/
def greetDoorsWrong : ChangeSpec := { name := "greetDoors", fn := fun _ => fun
  | [d1, d2, d3] => { results := [.lit (.bool false)], args := [d1, d2, d3] }
  | _ => none }
def GreetDoorsWrongFalsely : Prop := greetDoorsRow.holds Try.pinned (OpenSpec.ofChange greetDoorsWrong)

/- THE SECOND FORM. 'bulk': how many values and letters a reading holds, each counted each time it is reached (what is shared counts as often as it is met; a slice's spare places count too). A statement '..UptoSaid' is the law's where the arguments, and the package variables that the reading takes, are together of bulk at most 1048576: NARROWER than '..Said'. Prove '..Said' where nothing that the law and all that it calls make is longer than what came in: it says more and counts as full. Else prove '..UptoSaid'. A law counts once. -/
mutual
def uptoBulk {H : Type} : DataW H → Nat
  | .lit (.string bytes) => bytes.length + 1
  | .lit _ => 1
  | .nil => 1
  | .ptr d => uptoBulk d + 1
  | .slice elems spare => uptoBulkAll elems + uptoBulkAll spare + 1
  | .agg parts => uptoBulkAll parts + 1
  | .iface _ d => uptoBulk d + 1
  | .map entries => uptoBulkEntries entries + 1
  | .held _ => 1
def uptoBulkAll {H : Type} : List (DataW H) → Nat
  | [] => 0
  | d :: r => uptoBulk d + uptoBulkAll r
def uptoBulkEntries {H : Type} : List (Lit × DataW H) → Nat
  | [] => 0
  | x :: r => uptoBulkEntry x + uptoBulkEntries r
def uptoBulkEntry {H : Type} : Lit × DataW H → Nat
  | (.string bytes, d) => bytes.length + uptoBulk d + 1
  | (_, d) => uptoBulk d + 1
 end
def uptoSmall : (H : Type) → List (DataW H) → Bool := fun _ ds => decide (uptoBulkAll ds ≤ 1048576)
def OpenSpec.upto (s : _root_.Go.ChangeSpec) : _root_.Go.OpenSpec := { _root_.Go.OpenSpec.ofChange s with cond := some uptoSmall }

/-- 'postchaiselaw09.GreetHellos', WHERE WHAT IT READS IS OF BULK AT MOST 1048576: true; the input reads as it did. -/
def greetHellosUptoRow : OpenClaim := { program := "ytpndcbilnbihaaa", sum := "f24167325cf06d374ebcb9ea45c9f96d57296199da314d190613f8a7f3e30263", func := "postchaise/postchaiselaw09.GreetHellos", spec := "greetHellos", inPlace := ["internal/bytealg.IndexByteString", "internal/abi.NoEscape", "internal/bytealg.IndexString"], named := ["internal/bytealg.MaxLen"], apart := false, narrowed := true }
def GreetHellosUptoSaid : Prop := greetHellosUptoRow.holds Try.pinned (OpenSpec.upto greetHellosSpec)

/-- 'postchaiselaw09.GreetScans', WHERE WHAT IT READS IS OF BULK AT MOST 1048576: true; the input reads as it did. -/
def greetScansUptoRow : OpenClaim := { program := "ytpndcbilnbihaaa", sum := "f24167325cf06d374ebcb9ea45c9f96d57296199da314d190613f8a7f3e30263", func := "postchaise/postchaiselaw09.GreetScans", spec := "greetScans", inPlace := ["internal/bytealg.IndexByteString", "internal/abi.NoEscape", "internal/bytealg.IndexString"], named := ["internal/bytealg.MaxLen"], apart := false, narrowed := true }
def GreetScansUptoSaid : Prop := greetScansUptoRow.holds Try.pinned (OpenSpec.upto greetScansSpec)

/-- 'postchaiselaw09.GreetOffers', WHERE WHAT IT READS IS OF BULK AT MOST 1048576: true; the input reads as it did. -/
def greetOffersUptoRow : OpenClaim := { program := "ytpndcbilnbihaaa", sum := "f24167325cf06d374ebcb9ea45c9f96d57296199da314d190613f8a7f3e30263", func := "postchaise/postchaiselaw09.GreetOffers", spec := "greetOffers", inPlace := ["internal/bytealg.IndexByteString", "internal/abi.NoEscape", "internal/bytealg.IndexString"], named := ["internal/bytealg.MaxLen"], apart := false, narrowed := true }
def GreetOffersUptoSaid : Prop := greetOffersUptoRow.holds Try.pinned (OpenSpec.upto greetOffersSpec)

/-- 'postchaiselaw09.GreetDoors', WHERE WHAT IT READS IS OF BULK AT MOST 1048576: true; the input reads as it did. -/
def greetDoorsUptoRow : OpenClaim := { program := "ytpndcbilnbihaaa", sum := "f24167325cf06d374ebcb9ea45c9f96d57296199da314d190613f8a7f3e30263", func := "postchaise/postchaiselaw09.GreetDoors", spec := "greetDoors", inPlace := ["internal/bytealg.IndexByteString", "internal/abi.NoEscape", "internal/bytealg.IndexString"], named := ["internal/bytealg.MaxLen"], apart := false, narrowed := true }
def GreetDoorsUptoSaid : Prop := greetDoorsUptoRow.holds Try.pinned (OpenSpec.upto greetDoorsSpec)

end Rows
end Go.Proofs.Ytpndcbilnbihaaa
