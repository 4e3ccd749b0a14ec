/-
  No cell of these rows narrows 'for every input' (looked for: loops, veiled, ifaces, maps, wideKeys, modest, calm, conditions, laid).
  DERIVED. THE GIVEN ROWS OF THIS SEAT. 6 by the template 'for every input the law returns true; each argument reads behind the call as it read before'; 0 by the template 'total and deterministic' (their statements: YtalleocmnnnchaaTotals.lean).
  GIVEN WITH THE SEED: the statements are not yours to turn. If you find one false, say at which input.
  Laid BY PROGRAM, IN A SANDBOX (cutbox-rows.mjs): the forced cells as the released guide's own fill.sh prints them over the translation e7fef8e302dd8480… (all of the seat's roots in one cut). By AI agents, Wed Nov 11 2026. No macro, syntax, notation, axiom, sorry.
-/
import Derived.Test.YtalleocmnnnchaaChecked
import GoSem.Claim
import GoSem.ClaimJoined
import GoSem.ClaimMapViews
import Derived.JoinedTies
import Derived.KernelRfl
namespace Go.Proofs.Ytalleocmnnnchaa
/- THE CELL 'sum', in the pinned program and in every row, IS THE sha256 OF THE DUMP (.gsa) THAT YtalleocmnnnchaaProg.lean LOADS. Nothing in Lean hashes anything: it is a label: what it is worth is what the hold of that sum in a sandbox is worth. -/
noncomputable def Try.pinned : Pinned := { name := "ytalleocmnnnchaa", sum := "e7fef8e302dd84806eaaf7852211207c5630c47b5342dae59018117bb5471bb4", checked := Try.checked }
namespace Rows
def none {H : Type} : Left H := { results := [], args := [] }

/-- 'postchaiselaw07.LinePlays': WHATEVER THE INPUT: true; the input reads as it did. -/
def linePlaysSpec : ChangeSpec := { name := "linePlays", fn := fun _ => fun
  | [d] => { results := [.lit (.bool true)], args := [d] }
  | _ => none }
def linePlaysRow : OpenClaim := { program := "ytalleocmnnnchaa", sum := "e7fef8e302dd84806eaaf7852211207c5630c47b5342dae59018117bb5471bb4", func := "postchaise/postchaiselaw07.LinePlays", spec := "linePlays", inPlace := ["slices.overlaps[int]"], unfollowed := true, recurses := true, apart := false }
def LinePlaysSaid : Prop := linePlaysRow.holds Try.pinned (OpenSpec.ofChange linePlaysSpec)

/-- ITS FALSE NEIGHBOUR: 'it returns false'. Refute it at one input. -/
def linePlaysWrong : ChangeSpec := { name := "linePlays", fn := fun _ => fun
  | [d] => { results := [.lit (.bool false)], args := [d] }
  | _ => none }
def LinePlaysWrongFalsely : Prop := linePlaysRow.holds Try.pinned (OpenSpec.ofChange linePlaysWrong)

/-- 'postchaiselaw07.LineCleans': WHATEVER THE INPUT: true; the input reads as it did. -/
def lineCleansSpec : ChangeSpec := { name := "lineCleans", fn := fun _ => fun
  | [d1, d2, d3] => { results := [.lit (.bool true)], args := [d1, d2, d3] }
  | _ => none }
def lineCleansRow : OpenClaim := { program := "ytalleocmnnnchaa", sum := "e7fef8e302dd84806eaaf7852211207c5630c47b5342dae59018117bb5471bb4", func := "postchaise/postchaiselaw07.LineCleans", spec := "lineCleans", inPlace := ["slices.overlaps[int]"], unfollowed := true, recurses := true, apart := false }
def LineCleansSaid : Prop := lineCleansRow.holds Try.pinned (OpenSpec.ofChange lineCleansSpec)

/-- ITS FALSE NEIGHBOUR: 'it returns false'. Refute it at one input. -/
def lineCleansWrong : ChangeSpec := { name := "lineCleans", fn := fun _ => fun
  | [d1, d2, d3] => { results := [.lit (.bool false)], args := [d1, d2, d3] }
  | _ => none }
def LineCleansWrongFalsely : Prop := lineCleansRow.holds Try.pinned (OpenSpec.ofChange lineCleansWrong)

/-- 'postchaiselaw07.LineOrder': WHATEVER THE INPUT: true; the input reads as it did. -/
def lineOrderSpec : ChangeSpec := { name := "lineOrder", fn := fun _ => fun
  | [d1, d2] => { results := [.lit (.bool true)], args := [d1, d2] }
  | _ => none }
def lineOrderRow : OpenClaim := { program := "ytalleocmnnnchaa", sum := "e7fef8e302dd84806eaaf7852211207c5630c47b5342dae59018117bb5471bb4", func := "postchaise/postchaiselaw07.LineOrder", spec := "lineOrder", inPlace := ["slices.overlaps[int]"], unfollowed := true, recurses := true, apart := false }
def LineOrderSaid : Prop := lineOrderRow.holds Try.pinned (OpenSpec.ofChange lineOrderSpec)

/-- ITS FALSE NEIGHBOUR: 'it returns false'. Refute it at one input. -/
def lineOrderWrong : ChangeSpec := { name := "lineOrder", fn := fun _ => fun
  | [d1, d2] => { results := [.lit (.bool false)], args := [d1, d2] }
  | _ => none }
def LineOrderWrongFalsely : Prop := lineOrderRow.holds Try.pinned (OpenSpec.ofChange lineOrderWrong)

/-- 'postchaiselaw07.LineMarks': WHATEVER THE INPUT: true; the input reads as it did. -/
def lineMarksSpec : ChangeSpec := { name := "lineMarks", fn := fun _ => fun
  | [d1, d2, d3] => { results := [.lit (.bool true)], args := [d1, d2, d3] }
  | _ => none }
def lineMarksRow : OpenClaim := { program := "ytalleocmnnnchaa", sum := "e7fef8e302dd84806eaaf7852211207c5630c47b5342dae59018117bb5471bb4", func := "postchaise/postchaiselaw07.LineMarks", spec := "lineMarks", inPlace := ["slices.overlaps[int]"], unfollowed := true, recurses := true, apart := false }
def LineMarksSaid : Prop := lineMarksRow.holds Try.pinned (OpenSpec.ofChange lineMarksSpec)

/-- ITS FALSE NEIGHBOUR: 'it returns false'. Refute it at one input. -/
def lineMarksWrong : ChangeSpec := { name := "lineMarks", fn := fun _ => fun
  | [d1, d2, d3] => { results := [.lit (.bool false)], args := [d1, d2, d3] }
  | _ => none }
def LineMarksWrongFalsely : Prop := lineMarksRow.holds Try.pinned (OpenSpec.ofChange lineMarksWrong)

/-- 'postchaiselaw07.LineApart': WHATEVER THE INPUT: true; the input reads as it did. -/
def lineApartSpec : ChangeSpec := { name := "lineApart", fn := fun _ => fun
  | [d1, d2] => { results := [.lit (.bool true)], args := [d1, d2] }
  | _ => none }
def lineApartRow : OpenClaim := { program := "ytalleocmnnnchaa", sum := "e7fef8e302dd84806eaaf7852211207c5630c47b5342dae59018117bb5471bb4", func := "postchaise/postchaiselaw07.LineApart", spec := "lineApart", inPlace := ["slices.overlaps[int]"], unfollowed := true, recurses := true, apart := false }
def LineApartSaid : Prop := lineApartRow.holds Try.pinned (OpenSpec.ofChange lineApartSpec)

/-- ITS FALSE NEIGHBOUR: 'it returns false'. Refute it at one input. -/
def lineApartWrong : ChangeSpec := { name := "lineApart", fn := fun _ => fun
  | [d1, d2] => { results := [.lit (.bool false)], args := [d1, d2] }
  | _ => none }
def LineApartWrongFalsely : Prop := lineApartRow.holds Try.pinned (OpenSpec.ofChange lineApartWrong)

/-- 'postchaiselaw07.LineRefused': WHATEVER THE INPUT: true; the input reads as it did. -/
def lineRefusedSpec : ChangeSpec := { name := "lineRefused", fn := fun _ => fun
  | [d1, d2] => { results := [.lit (.bool true)], args := [d1, d2] }
  | _ => none }
def lineRefusedRow : OpenClaim := { program := "ytalleocmnnnchaa", sum := "e7fef8e302dd84806eaaf7852211207c5630c47b5342dae59018117bb5471bb4", func := "postchaise/postchaiselaw07.LineRefused", spec := "lineRefused", inPlace := ["slices.overlaps[int]"], unfollowed := true, recurses := true, apart := false }
def LineRefusedSaid : Prop := lineRefusedRow.holds Try.pinned (OpenSpec.ofChange lineRefusedSpec)

/-- ITS FALSE NEIGHBOUR: 'it returns false'. Refute it at one input. -/
def lineRefusedWrong : ChangeSpec := { name := "lineRefused", fn := fun _ => fun
  | [d1, d2] => { results := [.lit (.bool false)], args := [d1, d2] }
  | _ => none }
def LineRefusedWrongFalsely : Prop := lineRefusedRow.holds Try.pinned (OpenSpec.ofChange lineRefusedWrong)

/- THE SECOND FORM. 'bulk': how many values and letters a reading holds, each counted each time it is reached (what is shared counts as often as it is met; a slice's spare places count too). A statement '..UptoSaid' is the law's where the arguments, and the package variables that the reading takes, are together of bulk at most 1048576: NARROWER than '..Said'. Prove '..Said' where nothing that the law and all that it calls make is longer than what came in: it says more and counts as full. Else prove '..UptoSaid'. A law counts once. -/
mutual
def uptoBulk {H : Type} : DataW H → Nat
  | .lit (.string bytes) => bytes.length + 1
  | .lit _ => 1
  | .nil => 1
  | .ptr d => uptoBulk d + 1
  | .slice elems spare => uptoBulkAll elems + uptoBulkAll spare + 1
  | .agg parts => uptoBulkAll parts + 1
  | .iface _ d => uptoBulk d + 1
  | .map entries => uptoBulkEntries entries + 1
  | .held _ => 1
def uptoBulkAll {H : Type} : List (DataW H) → Nat
  | [] => 0
  | d :: r => uptoBulk d + uptoBulkAll r
def uptoBulkEntries {H : Type} : List (Lit × DataW H) → Nat
  | [] => 0
  | x :: r => uptoBulkEntry x + uptoBulkEntries r
def uptoBulkEntry {H : Type} : Lit × DataW H → Nat
  | (.string bytes, d) => bytes.length + uptoBulk d + 1
  | (_, d) => uptoBulk d + 1
 end
def uptoSmall : (H : Type) → List (DataW H) → Bool := fun _ ds => decide (uptoBulkAll ds ≤ 1048576)
def OpenSpec.upto (s : _root_.Go.ChangeSpec) : _root_.Go.OpenSpec := { _root_.Go.OpenSpec.ofChange s with cond := some uptoSmall }

/-- 'postchaiselaw07.LinePlays', WHERE WHAT IT READS IS OF BULK AT MOST 1048576: true; the input reads as it did. -/
def linePlaysUptoRow : OpenClaim := { program := "ytalleocmnnnchaa", sum := "e7fef8e302dd84806eaaf7852211207c5630c47b5342dae59018117bb5471bb4", func := "postchaise/postchaiselaw07.LinePlays", spec := "linePlays", inPlace := ["slices.overlaps[int]"], unfollowed := true, recurses := true, apart := false, narrowed := true }
def LinePlaysUptoSaid : Prop := linePlaysUptoRow.holds Try.pinned (OpenSpec.upto linePlaysSpec)

/-- 'postchaiselaw07.LineCleans', WHERE WHAT IT READS IS OF BULK AT MOST 1048576: true; the input reads as it did. -/
def lineCleansUptoRow : OpenClaim := { program := "ytalleocmnnnchaa", sum := "e7fef8e302dd84806eaaf7852211207c5630c47b5342dae59018117bb5471bb4", func := "postchaise/postchaiselaw07.LineCleans", spec := "lineCleans", inPlace := ["slices.overlaps[int]"], unfollowed := true, recurses := true, apart := false, narrowed := true }
def LineCleansUptoSaid : Prop := lineCleansUptoRow.holds Try.pinned (OpenSpec.upto lineCleansSpec)

/-- 'postchaiselaw07.LineOrder', WHERE WHAT IT READS IS OF BULK AT MOST 1048576: true; the input reads as it did. -/
def lineOrderUptoRow : OpenClaim := { program := "ytalleocmnnnchaa", sum := "e7fef8e302dd84806eaaf7852211207c5630c47b5342dae59018117bb5471bb4", func := "postchaise/postchaiselaw07.LineOrder", spec := "lineOrder", inPlace := ["slices.overlaps[int]"], unfollowed := true, recurses := true, apart := false, narrowed := true }
def LineOrderUptoSaid : Prop := lineOrderUptoRow.holds Try.pinned (OpenSpec.upto lineOrderSpec)

/-- 'postchaiselaw07.LineMarks', WHERE WHAT IT READS IS OF BULK AT MOST 1048576: true; the input reads as it did. -/
def lineMarksUptoRow : OpenClaim := { program := "ytalleocmnnnchaa", sum := "e7fef8e302dd84806eaaf7852211207c5630c47b5342dae59018117bb5471bb4", func := "postchaise/postchaiselaw07.LineMarks", spec := "lineMarks", inPlace := ["slices.overlaps[int]"], unfollowed := true, recurses := true, apart := false, narrowed := true }
def LineMarksUptoSaid : Prop := lineMarksUptoRow.holds Try.pinned (OpenSpec.upto lineMarksSpec)

/-- 'postchaiselaw07.LineApart', WHERE WHAT IT READS IS OF BULK AT MOST 1048576: true; the input reads as it did. -/
def lineApartUptoRow : OpenClaim := { program := "ytalleocmnnnchaa", sum := "e7fef8e302dd84806eaaf7852211207c5630c47b5342dae59018117bb5471bb4", func := "postchaise/postchaiselaw07.LineApart", spec := "lineApart", inPlace := ["slices.overlaps[int]"], unfollowed := true, recurses := true, apart := false, narrowed := true }
def LineApartUptoSaid : Prop := lineApartUptoRow.holds Try.pinned (OpenSpec.upto lineApartSpec)

/-- 'postchaiselaw07.LineRefused', WHERE WHAT IT READS IS OF BULK AT MOST 1048576: true; the input reads as it did. -/
def lineRefusedUptoRow : OpenClaim := { program := "ytalleocmnnnchaa", sum := "e7fef8e302dd84806eaaf7852211207c5630c47b5342dae59018117bb5471bb4", func := "postchaise/postchaiselaw07.LineRefused", spec := "lineRefused", inPlace := ["slices.overlaps[int]"], unfollowed := true, recurses := true, apart := false, narrowed := true }
def LineRefusedUptoSaid : Prop := lineRefusedUptoRow.holds Try.pinned (OpenSpec.upto lineRefusedSpec)

end Rows
end Go.Proofs.Ytalleocmnnnchaa
