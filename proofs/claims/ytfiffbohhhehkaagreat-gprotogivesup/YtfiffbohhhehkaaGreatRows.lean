/-
  No cell of these rows narrows 'for every input' (looked for: loops, veiled, ifaces, maps, wideKeys, modest, calm, conditions, laid).
  DERIVED. THE GIVEN ROWS OF THIS SEAT. 4 by the template 'for every input the law returns true; each argument reads behind the call as it read before'; 0 by the template 'total and deterministic' (their statements: YtfiffbohhhehkaaGreatTotals.lean).
  GIVEN WITH THE SEED: the statements are not yours to turn. If you find one false, say at which input.
  Laid BY PROGRAM, IN A SANDBOX (cutbox-rows.mjs): the forced cells as the released guide's own fill.sh prints them over the translation f2611334dd0fa7c4… (all of the seat's roots in one cut). By AI agents, Wed Nov 11 2026. No macro, syntax, notation, axiom, sorry.
-/
import Derived.Test.YtfiffbohhhehkaaGreatChecked
import GoSem.Claim
import GoSem.ClaimJoined
import GoSem.ClaimMapViews
import Derived.JoinedTies
import Derived.KernelRfl
namespace Go.Proofs.YtfiffbohhhehkaaGreat
/- THE CELL 'sum', in the pinned program and in every row, IS THE sha256 OF THE DUMP (.gsa) THAT YtfiffbohhhehkaaGreatProg.lean LOADS. Nothing in Lean hashes anything: it is a label: what it is worth is what the hold of that sum in a sandbox is worth. -/
noncomputable def Tryz.pinned : Pinned := { name := "ytfiffbohhhehkaagreat", sum := "f2611334dd0fa7c45a1d4ee8d32929ad5c41435e1f993a27c225c7a1487466e3", checked := Tryz.checked }
namespace Rows
def none {H : Type} : Left H := { results := [], args := [] }

/-- 'postchaiselaw15.GprotoBegins': WHATEVER THE INPUT: true; the input reads as it did. -/
def gprotoBeginsSpec : ChangeSpec := { name := "gprotoBegins", fn := fun _ => fun
  | [d1, d2, d3] => { results := [.lit (.bool true)], args := [d1, d2, d3] }
  | _ => none }
def gprotoBeginsRow : OpenClaim := { program := "ytfiffbohhhehkaagreat", sum := "f2611334dd0fa7c45a1d4ee8d32929ad5c41435e1f993a27c225c7a1487466e3", func := "postchaise/postchaiselaw15.GprotoBegins", spec := "gprotoBegins", inPlace := ["internal/abi.NoEscape", "internal/bytealg.MakeNoZero"], unfollowed := true, recurses := true, apart := false }
def GprotoBeginsSaid : Prop := gprotoBeginsRow.holds Tryz.pinned (OpenSpec.ofChange gprotoBeginsSpec)

/-- ITS FALSE NEIGHBOUR: 'it returns false'. Refute it at one input. -/
def gprotoBeginsWrong : ChangeSpec := { name := "gprotoBegins", fn := fun _ => fun
  | [d1, d2, d3] => { results := [.lit (.bool false)], args := [d1, d2, d3] }
  | _ => none }
def GprotoBeginsWrongFalsely : Prop := gprotoBeginsRow.holds Tryz.pinned (OpenSpec.ofChange gprotoBeginsWrong)

/-- 'postchaiselaw15.GprotoCalls': WHATEVER THE INPUT: true; the input reads as it did. -/
def gprotoCallsSpec : ChangeSpec := { name := "gprotoCalls", fn := fun _ => fun
  | [d1, d2] => { results := [.lit (.bool true)], args := [d1, d2] }
  | _ => none }
def gprotoCallsRow : OpenClaim := { program := "ytfiffbohhhehkaagreat", sum := "f2611334dd0fa7c45a1d4ee8d32929ad5c41435e1f993a27c225c7a1487466e3", func := "postchaise/postchaiselaw15.GprotoCalls", spec := "gprotoCalls", inPlace := ["internal/abi.NoEscape", "internal/bytealg.MakeNoZero"], unfollowed := true, recurses := true, apart := false }
def GprotoCallsSaid : Prop := gprotoCallsRow.holds Tryz.pinned (OpenSpec.ofChange gprotoCallsSpec)

/-- ITS FALSE NEIGHBOUR: 'it returns false'. Refute it at one input. -/
def gprotoCallsWrong : ChangeSpec := { name := "gprotoCalls", fn := fun _ => fun
  | [d1, d2] => { results := [.lit (.bool false)], args := [d1, d2] }
  | _ => none }
def GprotoCallsWrongFalsely : Prop := gprotoCallsRow.holds Tryz.pinned (OpenSpec.ofChange gprotoCallsWrong)

/-- 'postchaiselaw15.GprotoGivesUp': WHATEVER THE INPUT: true; the input reads as it did. -/
def gprotoGivesUpSpec : ChangeSpec := { name := "gprotoGivesUp", fn := fun _ => fun
  | [d1, d2, d3] => { results := [.lit (.bool true)], args := [d1, d2, d3] }
  | _ => none }
def gprotoGivesUpRow : OpenClaim := { program := "ytfiffbohhhehkaagreat", sum := "f2611334dd0fa7c45a1d4ee8d32929ad5c41435e1f993a27c225c7a1487466e3", func := "postchaise/postchaiselaw15.GprotoGivesUp", spec := "gprotoGivesUp", inPlace := ["internal/abi.NoEscape", "internal/bytealg.MakeNoZero"], unfollowed := true, recurses := true, apart := false }
def GprotoGivesUpSaid : Prop := gprotoGivesUpRow.holds Tryz.pinned (OpenSpec.ofChange gprotoGivesUpSpec)

/-- ITS FALSE NEIGHBOUR: 'it returns false'. Refute it at one input. -/
def gprotoGivesUpWrong : ChangeSpec := { name := "gprotoGivesUp", fn := fun _ => fun
  | [d1, d2, d3] => { results := [.lit (.bool false)], args := [d1, d2, d3] }
  | _ => none }
def GprotoGivesUpWrongFalsely : Prop := gprotoGivesUpRow.holds Tryz.pinned (OpenSpec.ofChange gprotoGivesUpWrong)

/-- 'postchaiselaw15.GprotoCloses': WHATEVER THE INPUT: true; the input reads as it did. -/
def gprotoClosesSpec : ChangeSpec := { name := "gprotoCloses", fn := fun _ => fun
  | [d1, d2, d3] => { results := [.lit (.bool true)], args := [d1, d2, d3] }
  | _ => none }
def gprotoClosesRow : OpenClaim := { program := "ytfiffbohhhehkaagreat", sum := "f2611334dd0fa7c45a1d4ee8d32929ad5c41435e1f993a27c225c7a1487466e3", func := "postchaise/postchaiselaw15.GprotoCloses", spec := "gprotoCloses", inPlace := ["internal/abi.NoEscape", "internal/bytealg.MakeNoZero"], unfollowed := true, recurses := true, apart := false }
def GprotoClosesSaid : Prop := gprotoClosesRow.holds Tryz.pinned (OpenSpec.ofChange gprotoClosesSpec)

/-- ITS FALSE NEIGHBOUR: 'it returns false'. Refute it at one input. -/
def gprotoClosesWrong : ChangeSpec := { name := "gprotoCloses", fn := fun _ => fun
  | [d1, d2, d3] => { results := [.lit (.bool false)], args := [d1, d2, d3] }
  | _ => none }
def GprotoClosesWrongFalsely : Prop := gprotoClosesRow.holds Tryz.pinned (OpenSpec.ofChange gprotoClosesWrong)

/- THE SECOND FORM. 'bulk': how many values and letters a reading holds, each counted each time it is reached (what is shared counts as often as it is met; a slice's spare places count too). A statement '..UptoSaid' is the law's where the arguments, and the package variables that the reading takes, are together of bulk at most 1048576: NARROWER than '..Said'. Prove '..Said' where nothing that the law and all that it calls make is longer than what came in: it says more and counts as full. Else prove '..UptoSaid'. A law counts once. -/
mutual
def uptoBulk {H : Type} : DataW H → Nat
  | .lit (.string bytes) => bytes.length + 1
  | .lit _ => 1
  | .nil => 1
  | .ptr d => uptoBulk d + 1
  | .slice elems spare => uptoBulkAll elems + uptoBulkAll spare + 1
  | .agg parts => uptoBulkAll parts + 1
  | .iface _ d => uptoBulk d + 1
  | .map entries => uptoBulkEntries entries + 1
  | .held _ => 1
def uptoBulkAll {H : Type} : List (DataW H) → Nat
  | [] => 0
  | d :: r => uptoBulk d + uptoBulkAll r
def uptoBulkEntries {H : Type} : List (Lit × DataW H) → Nat
  | [] => 0
  | x :: r => uptoBulkEntry x + uptoBulkEntries r
def uptoBulkEntry {H : Type} : Lit × DataW H → Nat
  | (.string bytes, d) => bytes.length + uptoBulk d + 1
  | (_, d) => uptoBulk d + 1
 end
def uptoSmall : (H : Type) → List (DataW H) → Bool := fun _ ds => decide (uptoBulkAll ds ≤ 1048576)
def OpenSpec.upto (s : _root_.Go.ChangeSpec) : _root_.Go.OpenSpec := { _root_.Go.OpenSpec.ofChange s with cond := some uptoSmall }

/-- 'postchaiselaw15.GprotoBegins', WHERE WHAT IT READS IS OF BULK AT MOST 1048576: true; the input reads as it did. -/
def gprotoBeginsUptoRow : OpenClaim := { program := "ytfiffbohhhehkaagreat", sum := "f2611334dd0fa7c45a1d4ee8d32929ad5c41435e1f993a27c225c7a1487466e3", func := "postchaise/postchaiselaw15.GprotoBegins", spec := "gprotoBegins", inPlace := ["internal/abi.NoEscape", "internal/bytealg.MakeNoZero"], unfollowed := true, recurses := true, apart := false, narrowed := true }
def GprotoBeginsUptoSaid : Prop := gprotoBeginsUptoRow.holds Tryz.pinned (OpenSpec.upto gprotoBeginsSpec)

/-- 'postchaiselaw15.GprotoCalls', WHERE WHAT IT READS IS OF BULK AT MOST 1048576: true; the input reads as it did. -/
def gprotoCallsUptoRow : OpenClaim := { program := "ytfiffbohhhehkaagreat", sum := "f2611334dd0fa7c45a1d4ee8d32929ad5c41435e1f993a27c225c7a1487466e3", func := "postchaise/postchaiselaw15.GprotoCalls", spec := "gprotoCalls", inPlace := ["internal/abi.NoEscape", "internal/bytealg.MakeNoZero"], unfollowed := true, recurses := true, apart := false, narrowed := true }
def GprotoCallsUptoSaid : Prop := gprotoCallsUptoRow.holds Tryz.pinned (OpenSpec.upto gprotoCallsSpec)

/-- 'postchaiselaw15.GprotoGivesUp', WHERE WHAT IT READS IS OF BULK AT MOST 1048576: true; the input reads as it did. -/
def gprotoGivesUpUptoRow : OpenClaim := { program := "ytfiffbohhhehkaagreat", sum := "f2611334dd0fa7c45a1d4ee8d32929ad5c41435e1f993a27c225c7a1487466e3", func := "postchaise/postchaiselaw15.GprotoGivesUp", spec := "gprotoGivesUp", inPlace := ["internal/abi.NoEscape", "internal/bytealg.MakeNoZero"], unfollowed := true, recurses := true, apart := false, narrowed := true }
def GprotoGivesUpUptoSaid : Prop := gprotoGivesUpUptoRow.holds Tryz.pinned (OpenSpec.upto gprotoGivesUpSpec)

/-- 'postchaiselaw15.GprotoCloses', WHERE WHAT IT READS IS OF BULK AT MOST 1048576: true; the input reads as it did. -/
def gprotoClosesUptoRow : OpenClaim := { program := "ytfiffbohhhehkaagreat", sum := "f2611334dd0fa7c45a1d4ee8d32929ad5c41435e1f993a27c225c7a1487466e3", func := "postchaise/postchaiselaw15.GprotoCloses", spec := "gprotoCloses", inPlace := ["internal/abi.NoEscape", "internal/bytealg.MakeNoZero"], unfollowed := true, recurses := true, apart := false, narrowed := true }
def GprotoClosesUptoSaid : Prop := gprotoClosesUptoRow.holds Tryz.pinned (OpenSpec.upto gprotoClosesSpec)

end Rows
end Go.Proofs.YtfiffbohhhehkaaGreat
