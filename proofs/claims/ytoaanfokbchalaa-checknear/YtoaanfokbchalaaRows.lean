/-
  No cell of these rows narrows 'for every input' (looked for: loops, veiled, ifaces, maps, wideKeys, modest, calm, conditions, laid).
  DERIVED. THE GIVEN ROWS OF THIS SEAT. 6 by the template 'for every input the law returns true; each argument reads behind the call as it read before'; 0 by the template 'total and deterministic' (their statements: YtoaanfokbchalaaTotals.lean).
  GIVEN WITH THE SEED: the statements are not yours to turn. If you find one false, say at which input.
  Laid BY PROGRAM, IN A SANDBOX (cutbox-rows.mjs): the forced cells as the released guide's own fill.sh prints them over the translation 731cc36128dd554b… (all of the seat's roots in one cut). By AI agents, Wed Nov 11 2026. No macro, syntax, notation, axiom, sorry.
-/
import Derived.Test.YtoaanfokbchalaaChecked
import GoSem.Claim
import GoSem.ClaimJoined
import GoSem.ClaimMapViews
import Derived.JoinedTies
import Derived.KernelRfl
namespace Go.Proofs.Ytoaanfokbchalaa
/- THE CELL 'sum', in the pinned program and in every row, IS THE sha256 OF THE DUMP (.gsa) THAT YtoaanfokbchalaaProg.lean LOADS. Nothing in Lean hashes anything: it is a label: what it is worth is what the hold of that sum in a sandbox is worth. -/
noncomputable def Try.pinned : Pinned := { name := "ytoaanfokbchalaa", sum := "731cc36128dd554bec31b91bc1362c946d1dbc4ec4ba998db677b5a550b7d5e1", checked := Try.checked }
namespace Rows
def none {H : Type} : Left H := { results := [], args := [] }

/-- 'postchaiselaw02.CheckSums': WHATEVER THE INPUT: true; the input reads as it did. -/
def checkSumsSpec : ChangeSpec := { name := "checkSums", fn := fun _ => fun
  | [d] => { results := [.lit (.bool true)], args := [d] }
  | _ => none }
def checkSumsRow : OpenClaim := { program := "ytoaanfokbchalaa", sum := "731cc36128dd554bec31b91bc1362c946d1dbc4ec4ba998db677b5a550b7d5e1", func := "postchaise/postchaiselaw02.CheckSums", spec := "checkSums", apart := false }
def CheckSumsSaid : Prop := checkSumsRow.holds Try.pinned (OpenSpec.ofChange checkSumsSpec)

/-- ITS FALSE NEIGHBOUR: 'it returns false'. Refute it at one input. -/
def checkSumsWrong : ChangeSpec := { name := "checkSums", fn := fun _ => fun
  | [d] => { results := [.lit (.bool false)], args := [d] }
  | _ => none }
def CheckSumsWrongFalsely : Prop := checkSumsRow.holds Try.pinned (OpenSpec.ofChange checkSumsWrong)

/-- 'postchaiselaw02.CheckPackets': WHATEVER THE INPUT: true; the input reads as it did. -/
def checkPacketsSpec : ChangeSpec := { name := "checkPackets", fn := fun _ => fun
  | [d1, d2] => { results := [.lit (.bool true)], args := [d1, d2] }
  | _ => none }
def checkPacketsRow : OpenClaim := { program := "ytoaanfokbchalaa", sum := "731cc36128dd554bec31b91bc1362c946d1dbc4ec4ba998db677b5a550b7d5e1", func := "postchaise/postchaiselaw02.CheckPackets", spec := "checkPackets", apart := false }
def CheckPacketsSaid : Prop := checkPacketsRow.holds Try.pinned (OpenSpec.ofChange checkPacketsSpec)

/-- ITS FALSE NEIGHBOUR: 'it returns false'. Refute it at one input. -/
def checkPacketsWrong : ChangeSpec := { name := "checkPackets", fn := fun _ => fun
  | [d1, d2] => { results := [.lit (.bool false)], args := [d1, d2] }
  | _ => none }
def CheckPacketsWrongFalsely : Prop := checkPacketsRow.holds Try.pinned (OpenSpec.ofChange checkPacketsWrong)

/-- 'postchaiselaw02.CheckMore': WHATEVER THE INPUT: true; the input reads as it did. -/
def checkMoreSpec : ChangeSpec := { name := "checkMore", fn := fun _ => fun
  | [d1, d2] => { results := [.lit (.bool true)], args := [d1, d2] }
  | _ => none }
def checkMoreRow : OpenClaim := { program := "ytoaanfokbchalaa", sum := "731cc36128dd554bec31b91bc1362c946d1dbc4ec4ba998db677b5a550b7d5e1", func := "postchaise/postchaiselaw02.CheckMore", spec := "checkMore", apart := false }
def CheckMoreSaid : Prop := checkMoreRow.holds Try.pinned (OpenSpec.ofChange checkMoreSpec)

/-- ITS FALSE NEIGHBOUR: 'it returns false'. Refute it at one input. -/
def checkMoreWrong : ChangeSpec := { name := "checkMore", fn := fun _ => fun
  | [d1, d2] => { results := [.lit (.bool false)], args := [d1, d2] }
  | _ => none }
def CheckMoreWrongFalsely : Prop := checkMoreRow.holds Try.pinned (OpenSpec.ofChange checkMoreWrong)

/-- 'postchaiselaw02.CheckJoins': WHATEVER THE INPUT: true; the input reads as it did. -/
def checkJoinsSpec : ChangeSpec := { name := "checkJoins", fn := fun _ => fun
  | [d1, d2, d3] => { results := [.lit (.bool true)], args := [d1, d2, d3] }
  | _ => none }
def checkJoinsRow : OpenClaim := { program := "ytoaanfokbchalaa", sum := "731cc36128dd554bec31b91bc1362c946d1dbc4ec4ba998db677b5a550b7d5e1", func := "postchaise/postchaiselaw02.CheckJoins", spec := "checkJoins", apart := false }
def CheckJoinsSaid : Prop := checkJoinsRow.holds Try.pinned (OpenSpec.ofChange checkJoinsSpec)

/-- ITS FALSE NEIGHBOUR: 'it returns false'. Refute it at one input. -/
def checkJoinsWrong : ChangeSpec := { name := "checkJoins", fn := fun _ => fun
  | [d1, d2, d3] => { results := [.lit (.bool false)], args := [d1, d2, d3] }
  | _ => none }
def CheckJoinsWrongFalsely : Prop := checkJoinsRow.holds Try.pinned (OpenSpec.ofChange checkJoinsWrong)

/-- 'postchaiselaw02.CheckNear': WHATEVER THE INPUT: true; the input reads as it did. -/
def checkNearSpec : ChangeSpec := { name := "checkNear", fn := fun _ => fun
  | [d1, d2, d3] => { results := [.lit (.bool true)], args := [d1, d2, d3] }
  | _ => none }
def checkNearRow : OpenClaim := { program := "ytoaanfokbchalaa", sum := "731cc36128dd554bec31b91bc1362c946d1dbc4ec4ba998db677b5a550b7d5e1", func := "postchaise/postchaiselaw02.CheckNear", spec := "checkNear", apart := false }
def CheckNearSaid : Prop := checkNearRow.holds Try.pinned (OpenSpec.ofChange checkNearSpec)

/-- ITS FALSE NEIGHBOUR: 'it returns false'. Refute it at one input. -/
def checkNearWrong : ChangeSpec := { name := "checkNear", fn := fun _ => fun
  | [d1, d2, d3] => { results := [.lit (.bool false)], args := [d1, d2, d3] }
  | _ => none }
def CheckNearWrongFalsely : Prop := checkNearRow.holds Try.pinned (OpenSpec.ofChange checkNearWrong)

/-- 'postchaiselaw02.CheckXors': WHATEVER THE INPUT: true; the input reads as it did. -/
def checkXorsSpec : ChangeSpec := { name := "checkXors", fn := fun _ => fun
  | [d1, d2] => { results := [.lit (.bool true)], args := [d1, d2] }
  | _ => none }
def checkXorsRow : OpenClaim := { program := "ytoaanfokbchalaa", sum := "731cc36128dd554bec31b91bc1362c946d1dbc4ec4ba998db677b5a550b7d5e1", func := "postchaise/postchaiselaw02.CheckXors", spec := "checkXors", apart := false }
def CheckXorsSaid : Prop := checkXorsRow.holds Try.pinned (OpenSpec.ofChange checkXorsSpec)

/-- ITS FALSE NEIGHBOUR: 'it returns false'. Refute it at one input. -/
def checkXorsWrong : ChangeSpec := { name := "checkXors", fn := fun _ => fun
  | [d1, d2] => { results := [.lit (.bool false)], args := [d1, d2] }
  | _ => none }
def CheckXorsWrongFalsely : Prop := checkXorsRow.holds Try.pinned (OpenSpec.ofChange checkXorsWrong)

/- THE SECOND FORM. 'bulk': how many values and letters a reading holds, each counted each time it is reached (what is shared counts as often as it is met; a slice's spare places count too). A statement '..UptoSaid' is the law's where the arguments, and the package variables that the reading takes, are together of bulk at most 1048576: NARROWER than '..Said'. Prove '..Said' where nothing that the law and all that it calls make is longer than what came in: it says more and counts as full. Else prove '..UptoSaid'. A law counts once. -/
mutual
def uptoBulk {H : Type} : DataW H → Nat
  | .lit (.string bytes) => bytes.length + 1
  | .lit _ => 1
  | .nil => 1
  | .ptr d => uptoBulk d + 1
  | .slice elems spare => uptoBulkAll elems + uptoBulkAll spare + 1
  | .agg parts => uptoBulkAll parts + 1
  | .iface _ d => uptoBulk d + 1
  | .map entries => uptoBulkEntries entries + 1
  | .held _ => 1
def uptoBulkAll {H : Type} : List (DataW H) → Nat
  | [] => 0
  | d :: r => uptoBulk d + uptoBulkAll r
def uptoBulkEntries {H : Type} : List (Lit × DataW H) → Nat
  | [] => 0
  | x :: r => uptoBulkEntry x + uptoBulkEntries r
def uptoBulkEntry {H : Type} : Lit × DataW H → Nat
  | (.string bytes, d) => bytes.length + uptoBulk d + 1
  | (_, d) => uptoBulk d + 1
 end
def uptoSmall : (H : Type) → List (DataW H) → Bool := fun _ ds => decide (uptoBulkAll ds ≤ 1048576)
def OpenSpec.upto (s : _root_.Go.ChangeSpec) : _root_.Go.OpenSpec := { _root_.Go.OpenSpec.ofChange s with cond := some uptoSmall }

/-- 'postchaiselaw02.CheckSums', WHERE WHAT IT READS IS OF BULK AT MOST 1048576: true; the input reads as it did. -/
def checkSumsUptoRow : OpenClaim := { program := "ytoaanfokbchalaa", sum := "731cc36128dd554bec31b91bc1362c946d1dbc4ec4ba998db677b5a550b7d5e1", func := "postchaise/postchaiselaw02.CheckSums", spec := "checkSums", apart := false, narrowed := true }
def CheckSumsUptoSaid : Prop := checkSumsUptoRow.holds Try.pinned (OpenSpec.upto checkSumsSpec)

/-- 'postchaiselaw02.CheckPackets', WHERE WHAT IT READS IS OF BULK AT MOST 1048576: true; the input reads as it did. -/
def checkPacketsUptoRow : OpenClaim := { program := "ytoaanfokbchalaa", sum := "731cc36128dd554bec31b91bc1362c946d1dbc4ec4ba998db677b5a550b7d5e1", func := "postchaise/postchaiselaw02.CheckPackets", spec := "checkPackets", apart := false, narrowed := true }
def CheckPacketsUptoSaid : Prop := checkPacketsUptoRow.holds Try.pinned (OpenSpec.upto checkPacketsSpec)

/-- 'postchaiselaw02.CheckMore', WHERE WHAT IT READS IS OF BULK AT MOST 1048576: true; the input reads as it did. -/
def checkMoreUptoRow : OpenClaim := { program := "ytoaanfokbchalaa", sum := "731cc36128dd554bec31b91bc1362c946d1dbc4ec4ba998db677b5a550b7d5e1", func := "postchaise/postchaiselaw02.CheckMore", spec := "checkMore", apart := false, narrowed := true }
def CheckMoreUptoSaid : Prop := checkMoreUptoRow.holds Try.pinned (OpenSpec.upto checkMoreSpec)

/-- 'postchaiselaw02.CheckJoins', WHERE WHAT IT READS IS OF BULK AT MOST 1048576: true; the input reads as it did. -/
def checkJoinsUptoRow : OpenClaim := { program := "ytoaanfokbchalaa", sum := "731cc36128dd554bec31b91bc1362c946d1dbc4ec4ba998db677b5a550b7d5e1", func := "postchaise/postchaiselaw02.CheckJoins", spec := "checkJoins", apart := false, narrowed := true }
def CheckJoinsUptoSaid : Prop := checkJoinsUptoRow.holds Try.pinned (OpenSpec.upto checkJoinsSpec)

/-- 'postchaiselaw02.CheckNear', WHERE WHAT IT READS IS OF BULK AT MOST 1048576: true; the input reads as it did. -/
def checkNearUptoRow : OpenClaim := { program := "ytoaanfokbchalaa", sum := "731cc36128dd554bec31b91bc1362c946d1dbc4ec4ba998db677b5a550b7d5e1", func := "postchaise/postchaiselaw02.CheckNear", spec := "checkNear", apart := false, narrowed := true }
def CheckNearUptoSaid : Prop := checkNearUptoRow.holds Try.pinned (OpenSpec.upto checkNearSpec)

/-- 'postchaiselaw02.CheckXors', WHERE WHAT IT READS IS OF BULK AT MOST 1048576: true; the input reads as it did. -/
def checkXorsUptoRow : OpenClaim := { program := "ytoaanfokbchalaa", sum := "731cc36128dd554bec31b91bc1362c946d1dbc4ec4ba998db677b5a550b7d5e1", func := "postchaise/postchaiselaw02.CheckXors", spec := "checkXors", apart := false, narrowed := true }
def CheckXorsUptoSaid : Prop := checkXorsUptoRow.holds Try.pinned (OpenSpec.upto checkXorsSpec)

end Rows
end Go.Proofs.Ytoaanfokbchalaa
