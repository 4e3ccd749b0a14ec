/-
  No cell of these rows narrows 'for every input' (looked for: loops, veiled, ifaces, maps, wideKeys, modest, calm, conditions, laid).
  DERIVED. THE GIVEN ROWS OF THIS SEAT. 4 by the template 'for every input the law returns true; each argument reads behind the call as it read before'; 0 by the template 'total and deterministic' (their statements: YtlclfkogbfigbaaGreatTotals.lean).
  GIVEN WITH THE SEED: the statements are not yours to turn. If you find one false, say at which input.
  Laid BY PROGRAM, IN A SANDBOX (cutbox-rows.mjs): the forced cells as the released guide's own fill.sh prints them over the translation dd478998bbe7f2f9… (all of the seat's roots in one cut). By AI agents, Wed Nov 11 2026. No macro, syntax, notation, axiom, sorry.
-/
import Derived.Test.YtlclfkogbfigbaaGreatChecked
import GoSem.Claim
import GoSem.ClaimJoined
import GoSem.ClaimMapViews
import Derived.JoinedTies
import Derived.KernelRfl
namespace Go.Proofs.YtlclfkogbfigbaaGreat
/- THE CELL 'sum', in the pinned program and in every row, IS THE sha256 OF THE DUMP (.gsa) THAT YtlclfkogbfigbaaGreatProg.lean LOADS. Nothing in Lean hashes anything: it is a label: what it is worth is what the hold of that sum in a sandbox is worth. -/
noncomputable def Tryz.pinned : Pinned := { name := "ytlclfkogbfigbaagreat", sum := "dd478998bbe7f2f9307d5f40714558740f7ec3a3bfdf44de4739055da1988b97", checked := Tryz.checked }
namespace Rows
def none {H : Type} : Left H := { results := [], args := [] }

/-- 'postchaiselaw16.IprotoBegins': WHATEVER THE INPUT: true; the input reads as it did. -/
def iprotoBeginsSpec : ChangeSpec := { name := "iprotoBegins", fn := fun _ => fun
  | [d1, d2, d3] => { results := [.lit (.bool true)], args := [d1, d2, d3] }
  | _ => none }
def iprotoBeginsRow : OpenClaim := { program := "ytlclfkogbfigbaagreat", sum := "dd478998bbe7f2f9307d5f40714558740f7ec3a3bfdf44de4739055da1988b97", func := "postchaise/postchaiselaw16.IprotoBegins", spec := "iprotoBegins", inPlace := ["internal/abi.NoEscape", "slices.overlaps[postchaise/api.IFrame]"], unfollowed := true, recurses := true, apart := false }
def IprotoBeginsSaid : Prop := iprotoBeginsRow.holds Tryz.pinned (OpenSpec.ofChange iprotoBeginsSpec)

/-- ITS FALSE NEIGHBOUR: 'it returns false'. Refute it at one input. -/
def iprotoBeginsWrong : ChangeSpec := { name := "iprotoBegins", fn := fun _ => fun
  | [d1, d2, d3] => { results := [.lit (.bool false)], args := [d1, d2, d3] }
  | _ => none }
def IprotoBeginsWrongFalsely : Prop := iprotoBeginsRow.holds Tryz.pinned (OpenSpec.ofChange iprotoBeginsWrong)

/-- 'postchaiselaw16.IprotoCalls': WHATEVER THE INPUT: true; the input reads as it did. -/
def iprotoCallsSpec : ChangeSpec := { name := "iprotoCalls", fn := fun _ => fun
  | [d1, d2, d3] => { results := [.lit (.bool true)], args := [d1, d2, d3] }
  | _ => none }
def iprotoCallsRow : OpenClaim := { program := "ytlclfkogbfigbaagreat", sum := "dd478998bbe7f2f9307d5f40714558740f7ec3a3bfdf44de4739055da1988b97", func := "postchaise/postchaiselaw16.IprotoCalls", spec := "iprotoCalls", inPlace := ["internal/abi.NoEscape", "slices.overlaps[postchaise/api.IFrame]"], unfollowed := true, recurses := true, apart := false }
def IprotoCallsSaid : Prop := iprotoCallsRow.holds Tryz.pinned (OpenSpec.ofChange iprotoCallsSpec)

/-- ITS FALSE NEIGHBOUR: 'it returns false'. Refute it at one input. -/
def iprotoCallsWrong : ChangeSpec := { name := "iprotoCalls", fn := fun _ => fun
  | [d1, d2, d3] => { results := [.lit (.bool false)], args := [d1, d2, d3] }
  | _ => none }
def IprotoCallsWrongFalsely : Prop := iprotoCallsRow.holds Tryz.pinned (OpenSpec.ofChange iprotoCallsWrong)

/-- 'postchaiselaw16.IprotoRight': WHATEVER THE INPUT: true; the input reads as it did. -/
def iprotoRightSpec : ChangeSpec := { name := "iprotoRight", fn := fun _ => fun
  | [d1, d2] => { results := [.lit (.bool true)], args := [d1, d2] }
  | _ => none }
def iprotoRightRow : OpenClaim := { program := "ytlclfkogbfigbaagreat", sum := "dd478998bbe7f2f9307d5f40714558740f7ec3a3bfdf44de4739055da1988b97", func := "postchaise/postchaiselaw16.IprotoRight", spec := "iprotoRight", inPlace := ["internal/abi.NoEscape", "slices.overlaps[postchaise/api.IFrame]"], unfollowed := true, recurses := true, apart := false }
def IprotoRightSaid : Prop := iprotoRightRow.holds Tryz.pinned (OpenSpec.ofChange iprotoRightSpec)

/-- ITS FALSE NEIGHBOUR: 'it returns false'. Refute it at one input. -/
def iprotoRightWrong : ChangeSpec := { name := "iprotoRight", fn := fun _ => fun
  | [d1, d2] => { results := [.lit (.bool false)], args := [d1, d2] }
  | _ => none }
def IprotoRightWrongFalsely : Prop := iprotoRightRow.holds Tryz.pinned (OpenSpec.ofChange iprotoRightWrong)

/-- 'postchaiselaw16.IprotoGivesUp': WHATEVER THE INPUT: true; the input reads as it did. -/
def iprotoGivesUpSpec : ChangeSpec := { name := "iprotoGivesUp", fn := fun _ => fun
  | [d1, d2] => { results := [.lit (.bool true)], args := [d1, d2] }
  | _ => none }
def iprotoGivesUpRow : OpenClaim := { program := "ytlclfkogbfigbaagreat", sum := "dd478998bbe7f2f9307d5f40714558740f7ec3a3bfdf44de4739055da1988b97", func := "postchaise/postchaiselaw16.IprotoGivesUp", spec := "iprotoGivesUp", inPlace := ["internal/abi.NoEscape", "slices.overlaps[postchaise/api.IFrame]"], unfollowed := true, recurses := true, apart := false }
def IprotoGivesUpSaid : Prop := iprotoGivesUpRow.holds Tryz.pinned (OpenSpec.ofChange iprotoGivesUpSpec)

/-- ITS FALSE NEIGHBOUR: 'it returns false'. Refute it at one input. -/
def iprotoGivesUpWrong : ChangeSpec := { name := "iprotoGivesUp", fn := fun _ => fun
  | [d1, d2] => { results := [.lit (.bool false)], args := [d1, d2] }
  | _ => none }
def IprotoGivesUpWrongFalsely : Prop := iprotoGivesUpRow.holds Tryz.pinned (OpenSpec.ofChange iprotoGivesUpWrong)

/- THE SECOND FORM. 'bulk': how many values and letters a reading holds, each counted each time it is reached (what is shared counts as often as it is met; a slice's spare places count too). A statement '..UptoSaid' is the law's where the arguments, and the package variables that the reading takes, are together of bulk at most 1048576: NARROWER than '..Said'. Prove '..Said' where nothing that the law and all that it calls make is longer than what came in: it says more and counts as full. Else prove '..UptoSaid'. A law counts once. -/
mutual
def uptoBulk {H : Type} : DataW H → Nat
  | .lit (.string bytes) => bytes.length + 1
  | .lit _ => 1
  | .nil => 1
  | .ptr d => uptoBulk d + 1
  | .slice elems spare => uptoBulkAll elems + uptoBulkAll spare + 1
  | .agg parts => uptoBulkAll parts + 1
  | .iface _ d => uptoBulk d + 1
  | .map entries => uptoBulkEntries entries + 1
  | .held _ => 1
def uptoBulkAll {H : Type} : List (DataW H) → Nat
  | [] => 0
  | d :: r => uptoBulk d + uptoBulkAll r
def uptoBulkEntries {H : Type} : List (Lit × DataW H) → Nat
  | [] => 0
  | x :: r => uptoBulkEntry x + uptoBulkEntries r
def uptoBulkEntry {H : Type} : Lit × DataW H → Nat
  | (.string bytes, d) => bytes.length + uptoBulk d + 1
  | (_, d) => uptoBulk d + 1
 end
def uptoSmall : (H : Type) → List (DataW H) → Bool := fun _ ds => decide (uptoBulkAll ds ≤ 1048576)
def OpenSpec.upto (s : _root_.Go.ChangeSpec) : _root_.Go.OpenSpec := { _root_.Go.OpenSpec.ofChange s with cond := some uptoSmall }

/-- 'postchaiselaw16.IprotoBegins', WHERE WHAT IT READS IS OF BULK AT MOST 1048576: true; the input reads as it did. -/
def iprotoBeginsUptoRow : OpenClaim := { program := "ytlclfkogbfigbaagreat", sum := "dd478998bbe7f2f9307d5f40714558740f7ec3a3bfdf44de4739055da1988b97", func := "postchaise/postchaiselaw16.IprotoBegins", spec := "iprotoBegins", inPlace := ["internal/abi.NoEscape", "slices.overlaps[postchaise/api.IFrame]"], unfollowed := true, recurses := true, apart := false, narrowed := true }
def IprotoBeginsUptoSaid : Prop := iprotoBeginsUptoRow.holds Tryz.pinned (OpenSpec.upto iprotoBeginsSpec)

/-- 'postchaiselaw16.IprotoCalls', WHERE WHAT IT READS IS OF BULK AT MOST 1048576: true; the input reads as it did. -/
def iprotoCallsUptoRow : OpenClaim := { program := "ytlclfkogbfigbaagreat", sum := "dd478998bbe7f2f9307d5f40714558740f7ec3a3bfdf44de4739055da1988b97", func := "postchaise/postchaiselaw16.IprotoCalls", spec := "iprotoCalls", inPlace := ["internal/abi.NoEscape", "slices.overlaps[postchaise/api.IFrame]"], unfollowed := true, recurses := true, apart := false, narrowed := true }
def IprotoCallsUptoSaid : Prop := iprotoCallsUptoRow.holds Tryz.pinned (OpenSpec.upto iprotoCallsSpec)

/-- 'postchaiselaw16.IprotoRight', WHERE WHAT IT READS IS OF BULK AT MOST 1048576: true; the input reads as it did. -/
def iprotoRightUptoRow : OpenClaim := { program := "ytlclfkogbfigbaagreat", sum := "dd478998bbe7f2f9307d5f40714558740f7ec3a3bfdf44de4739055da1988b97", func := "postchaise/postchaiselaw16.IprotoRight", spec := "iprotoRight", inPlace := ["internal/abi.NoEscape", "slices.overlaps[postchaise/api.IFrame]"], unfollowed := true, recurses := true, apart := false, narrowed := true }
def IprotoRightUptoSaid : Prop := iprotoRightUptoRow.holds Tryz.pinned (OpenSpec.upto iprotoRightSpec)

/-- 'postchaiselaw16.IprotoGivesUp', WHERE WHAT IT READS IS OF BULK AT MOST 1048576: true; the input reads as it did. -/
def iprotoGivesUpUptoRow : OpenClaim := { program := "ytlclfkogbfigbaagreat", sum := "dd478998bbe7f2f9307d5f40714558740f7ec3a3bfdf44de4739055da1988b97", func := "postchaise/postchaiselaw16.IprotoGivesUp", spec := "iprotoGivesUp", inPlace := ["internal/abi.NoEscape", "slices.overlaps[postchaise/api.IFrame]"], unfollowed := true, recurses := true, apart := false, narrowed := true }
def IprotoGivesUpUptoSaid : Prop := iprotoGivesUpUptoRow.holds Tryz.pinned (OpenSpec.upto iprotoGivesUpSpec)

end Rows
end Go.Proofs.YtlclfkogbfigbaaGreat
