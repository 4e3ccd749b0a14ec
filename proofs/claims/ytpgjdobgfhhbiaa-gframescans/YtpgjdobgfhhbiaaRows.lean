/-
  No cell of these rows narrows 'for every input' (looked for: loops, veiled, ifaces, maps, wideKeys, modest, calm, conditions, laid).
  DERIVED. THE GIVEN ROWS OF THIS SEAT. 6 by the template 'for every input the law returns true; each argument reads behind the call as it read before'; 0 by the template 'total and deterministic' (their statements: YtpgjdobgfhhbiaaTotals.lean).
  GIVEN WITH THE SEED: the statements are not yours to turn. If you find one false, say at which input.
  Laid BY PROGRAM, IN A SANDBOX (cutbox-rows.mjs): the forced cells as the released guide's own fill.sh prints them over the translation 9e56f67690c0f17d… (all of the seat's roots in one cut). By AI agents, Wed Nov 11 2026. No macro, syntax, notation, axiom, sorry.
-/
import Derived.Test.YtpgjdobgfhhbiaaChecked
import GoSem.Claim
import GoSem.ClaimJoined
import GoSem.ClaimMapViews
import Derived.JoinedTies
import Derived.KernelRfl
namespace Go.Proofs.Ytpgjdobgfhhbiaa
/- THE CELL 'sum', in the pinned program and in every row, IS THE sha256 OF THE DUMP (.gsa) THAT YtpgjdobgfhhbiaaProg.lean LOADS. Nothing in Lean hashes anything: it is a label: what it is worth is what the hold of that sum in a sandbox is worth. -/
noncomputable def Try.pinned : Pinned := { name := "ytpgjdobgfhhbiaa", sum := "9e56f67690c0f17d81f7de6e04d20498fd4db6c8cae62f714ecdc9e7cafebeb8", checked := Try.checked }
namespace Rows
def none {H : Type} : Left H := { results := [], args := [] }

/-- 'postchaiselaw11.GframeWrites': WHATEVER THE INPUT: true; the input reads as it did. -/
def gframeWritesSpec : ChangeSpec := { name := "gframeWrites", fn := fun _ => fun
  | [d] => { results := [.lit (.bool true)], args := [d] }
  | _ => none }
def gframeWritesRow : OpenClaim := { program := "ytpgjdobgfhhbiaa", sum := "9e56f67690c0f17d81f7de6e04d20498fd4db6c8cae62f714ecdc9e7cafebeb8", func := "postchaise/postchaiselaw11.GframeWrites", spec := "gframeWrites", inPlace := ["internal/abi.NoEscape", "internal/bytealg.MakeNoZero"], apart := false }
def GframeWritesSaid : Prop := gframeWritesRow.holds Try.pinned (OpenSpec.ofChange gframeWritesSpec)

/-- ITS FALSE NEIGHBOUR: 'it returns false'. Refute it at one input. -/
def gframeWritesWrong : ChangeSpec := { name := "gframeWrites", fn := fun _ => fun
  | [d] => { results := [.lit (.bool false)], args := [d] }
  | _ => none }
def GframeWritesWrongFalsely : Prop := gframeWritesRow.holds Try.pinned (OpenSpec.ofChange gframeWritesWrong)

/-- 'postchaiselaw11.GframeReads': WHATEVER THE INPUT: true; the input reads as it did. -/
def gframeReadsSpec : ChangeSpec := { name := "gframeReads", fn := fun _ => fun
  | [d] => { results := [.lit (.bool true)], args := [d] }
  | _ => none }
def gframeReadsRow : OpenClaim := { program := "ytpgjdobgfhhbiaa", sum := "9e56f67690c0f17d81f7de6e04d20498fd4db6c8cae62f714ecdc9e7cafebeb8", func := "postchaise/postchaiselaw11.GframeReads", spec := "gframeReads", inPlace := ["internal/abi.NoEscape", "internal/bytealg.MakeNoZero"], apart := false }
def GframeReadsSaid : Prop := gframeReadsRow.holds Try.pinned (OpenSpec.ofChange gframeReadsSpec)

/-- ITS FALSE NEIGHBOUR: 'it returns false'. Refute it at one input. -/
def gframeReadsWrong : ChangeSpec := { name := "gframeReads", fn := fun _ => fun
  | [d] => { results := [.lit (.bool false)], args := [d] }
  | _ => none }
def GframeReadsWrongFalsely : Prop := gframeReadsRow.holds Try.pinned (OpenSpec.ofChange gframeReadsWrong)

/-- 'postchaiselaw11.GframeScans': WHATEVER THE INPUT: true; the input reads as it did. -/
def gframeScansSpec : ChangeSpec := { name := "gframeScans", fn := fun _ => fun
  | [d] => { results := [.lit (.bool true)], args := [d] }
  | _ => none }
def gframeScansRow : OpenClaim := { program := "ytpgjdobgfhhbiaa", sum := "9e56f67690c0f17d81f7de6e04d20498fd4db6c8cae62f714ecdc9e7cafebeb8", func := "postchaise/postchaiselaw11.GframeScans", spec := "gframeScans", inPlace := ["internal/abi.NoEscape", "internal/bytealg.MakeNoZero"], apart := false }
def GframeScansSaid : Prop := gframeScansRow.holds Try.pinned (OpenSpec.ofChange gframeScansSpec)

/-- ITS FALSE NEIGHBOUR: 'it returns false'. Refute it at one input. -/
def gframeScansWrong : ChangeSpec := { name := "gframeScans", fn := fun _ => fun
  | [d] => { results := [.lit (.bool false)], args := [d] }
  | _ => none }
def GframeScansWrongFalsely : Prop := gframeScansRow.holds Try.pinned (OpenSpec.ofChange gframeScansWrong)

/-- 'postchaiselaw11.GframeBack': WHATEVER THE INPUT: true; the input reads as it did. -/
def gframeBackSpec : ChangeSpec := { name := "gframeBack", fn := fun _ => fun
  | [d1, d2] => { results := [.lit (.bool true)], args := [d1, d2] }
  | _ => none }
def gframeBackRow : OpenClaim := { program := "ytpgjdobgfhhbiaa", sum := "9e56f67690c0f17d81f7de6e04d20498fd4db6c8cae62f714ecdc9e7cafebeb8", func := "postchaise/postchaiselaw11.GframeBack", spec := "gframeBack", inPlace := ["internal/abi.NoEscape", "internal/bytealg.MakeNoZero"], apart := false }
def GframeBackSaid : Prop := gframeBackRow.holds Try.pinned (OpenSpec.ofChange gframeBackSpec)

/-- ITS FALSE NEIGHBOUR: 'it returns false'. Refute it at one input. -/
def gframeBackWrong : ChangeSpec := { name := "gframeBack", fn := fun _ => fun
  | [d1, d2] => { results := [.lit (.bool false)], args := [d1, d2] }
  | _ => none }
def GframeBackWrongFalsely : Prop := gframeBackRow.holds Try.pinned (OpenSpec.ofChange gframeBackWrong)

/-- 'postchaiselaw11.GframeCuts': WHATEVER THE INPUT: true; the input reads as it did. -/
def gframeCutsSpec : ChangeSpec := { name := "gframeCuts", fn := fun _ => fun
  | [d1, d2] => { results := [.lit (.bool true)], args := [d1, d2] }
  | _ => none }
def gframeCutsRow : OpenClaim := { program := "ytpgjdobgfhhbiaa", sum := "9e56f67690c0f17d81f7de6e04d20498fd4db6c8cae62f714ecdc9e7cafebeb8", func := "postchaise/postchaiselaw11.GframeCuts", spec := "gframeCuts", inPlace := ["internal/abi.NoEscape", "internal/bytealg.MakeNoZero"], apart := false }
def GframeCutsSaid : Prop := gframeCutsRow.holds Try.pinned (OpenSpec.ofChange gframeCutsSpec)

/-- ITS FALSE NEIGHBOUR: 'it returns false'. Refute it at one input. -/
def gframeCutsWrong : ChangeSpec := { name := "gframeCuts", fn := fun _ => fun
  | [d1, d2] => { results := [.lit (.bool false)], args := [d1, d2] }
  | _ => none }
def GframeCutsWrongFalsely : Prop := gframeCutsRow.holds Try.pinned (OpenSpec.ofChange gframeCutsWrong)

/-- 'postchaiselaw11.GframeTurned': WHATEVER THE INPUT: true; the input reads as it did. -/
def gframeTurnedSpec : ChangeSpec := { name := "gframeTurned", fn := fun _ => fun
  | [d1, d2, d3] => { results := [.lit (.bool true)], args := [d1, d2, d3] }
  | _ => none }
def gframeTurnedRow : OpenClaim := { program := "ytpgjdobgfhhbiaa", sum := "9e56f67690c0f17d81f7de6e04d20498fd4db6c8cae62f714ecdc9e7cafebeb8", func := "postchaise/postchaiselaw11.GframeTurned", spec := "gframeTurned", inPlace := ["internal/abi.NoEscape", "internal/bytealg.MakeNoZero"], apart := false }
def GframeTurnedSaid : Prop := gframeTurnedRow.holds Try.pinned (OpenSpec.ofChange gframeTurnedSpec)

/-- ITS FALSE NEIGHBOUR: 'it returns false'. Refute it at one input. -/
def gframeTurnedWrong : ChangeSpec := { name := "gframeTurned", fn := fun _ => fun
  | [d1, d2, d3] => { results := [.lit (.bool false)], args := [d1, d2, d3] }
  | _ => none }
def GframeTurnedWrongFalsely : Prop := gframeTurnedRow.holds Try.pinned (OpenSpec.ofChange gframeTurnedWrong)

/- THE SECOND FORM. 'bulk': how many values and letters a reading holds, each counted each time it is reached (what is shared counts as often as it is met; a slice's spare places count too). A statement '..UptoSaid' is the law's where the arguments, and the package variables that the reading takes, are together of bulk at most 1048576: NARROWER than '..Said'. Prove '..Said' where nothing that the law and all that it calls make is longer than what came in: it says more and counts as full. Else prove '..UptoSaid'. A law counts once. -/
mutual
def uptoBulk {H : Type} : DataW H → Nat
  | .lit (.string bytes) => bytes.length + 1
  | .lit _ => 1
  | .nil => 1
  | .ptr d => uptoBulk d + 1
  | .slice elems spare => uptoBulkAll elems + uptoBulkAll spare + 1
  | .agg parts => uptoBulkAll parts + 1
  | .iface _ d => uptoBulk d + 1
  | .map entries => uptoBulkEntries entries + 1
  | .held _ => 1
def uptoBulkAll {H : Type} : List (DataW H) → Nat
  | [] => 0
  | d :: r => uptoBulk d + uptoBulkAll r
def uptoBulkEntries {H : Type} : List (Lit × DataW H) → Nat
  | [] => 0
  | x :: r => uptoBulkEntry x + uptoBulkEntries r
def uptoBulkEntry {H : Type} : Lit × DataW H → Nat
  | (.string bytes, d) => bytes.length + uptoBulk d + 1
  | (_, d) => uptoBulk d + 1
 end
def uptoSmall : (H : Type) → List (DataW H) → Bool := fun _ ds => decide (uptoBulkAll ds ≤ 1048576)
def OpenSpec.upto (s : _root_.Go.ChangeSpec) : _root_.Go.OpenSpec := { _root_.Go.OpenSpec.ofChange s with cond := some uptoSmall }

/-- 'postchaiselaw11.GframeWrites', WHERE WHAT IT READS IS OF BULK AT MOST 1048576: true; the input reads as it did. -/
def gframeWritesUptoRow : OpenClaim := { program := "ytpgjdobgfhhbiaa", sum := "9e56f67690c0f17d81f7de6e04d20498fd4db6c8cae62f714ecdc9e7cafebeb8", func := "postchaise/postchaiselaw11.GframeWrites", spec := "gframeWrites", inPlace := ["internal/abi.NoEscape", "internal/bytealg.MakeNoZero"], apart := false, narrowed := true }
def GframeWritesUptoSaid : Prop := gframeWritesUptoRow.holds Try.pinned (OpenSpec.upto gframeWritesSpec)

/-- 'postchaiselaw11.GframeReads', WHERE WHAT IT READS IS OF BULK AT MOST 1048576: true; the input reads as it did. -/
def gframeReadsUptoRow : OpenClaim := { program := "ytpgjdobgfhhbiaa", sum := "9e56f67690c0f17d81f7de6e04d20498fd4db6c8cae62f714ecdc9e7cafebeb8", func := "postchaise/postchaiselaw11.GframeReads", spec := "gframeReads", inPlace := ["internal/abi.NoEscape", "internal/bytealg.MakeNoZero"], apart := false, narrowed := true }
def GframeReadsUptoSaid : Prop := gframeReadsUptoRow.holds Try.pinned (OpenSpec.upto gframeReadsSpec)

/-- 'postchaiselaw11.GframeScans', WHERE WHAT IT READS IS OF BULK AT MOST 1048576: true; the input reads as it did. -/
def gframeScansUptoRow : OpenClaim := { program := "ytpgjdobgfhhbiaa", sum := "9e56f67690c0f17d81f7de6e04d20498fd4db6c8cae62f714ecdc9e7cafebeb8", func := "postchaise/postchaiselaw11.GframeScans", spec := "gframeScans", inPlace := ["internal/abi.NoEscape", "internal/bytealg.MakeNoZero"], apart := false, narrowed := true }
def GframeScansUptoSaid : Prop := gframeScansUptoRow.holds Try.pinned (OpenSpec.upto gframeScansSpec)

/-- 'postchaiselaw11.GframeBack', WHERE WHAT IT READS IS OF BULK AT MOST 1048576: true; the input reads as it did. -/
def gframeBackUptoRow : OpenClaim := { program := "ytpgjdobgfhhbiaa", sum := "9e56f67690c0f17d81f7de6e04d20498fd4db6c8cae62f714ecdc9e7cafebeb8", func := "postchaise/postchaiselaw11.GframeBack", spec := "gframeBack", inPlace := ["internal/abi.NoEscape", "internal/bytealg.MakeNoZero"], apart := false, narrowed := true }
def GframeBackUptoSaid : Prop := gframeBackUptoRow.holds Try.pinned (OpenSpec.upto gframeBackSpec)

/-- 'postchaiselaw11.GframeCuts', WHERE WHAT IT READS IS OF BULK AT MOST 1048576: true; the input reads as it did. -/
def gframeCutsUptoRow : OpenClaim := { program := "ytpgjdobgfhhbiaa", sum := "9e56f67690c0f17d81f7de6e04d20498fd4db6c8cae62f714ecdc9e7cafebeb8", func := "postchaise/postchaiselaw11.GframeCuts", spec := "gframeCuts", inPlace := ["internal/abi.NoEscape", "internal/bytealg.MakeNoZero"], apart := false, narrowed := true }
def GframeCutsUptoSaid : Prop := gframeCutsUptoRow.holds Try.pinned (OpenSpec.upto gframeCutsSpec)

/-- 'postchaiselaw11.GframeTurned', WHERE WHAT IT READS IS OF BULK AT MOST 1048576: true; the input reads as it did. -/
def gframeTurnedUptoRow : OpenClaim := { program := "ytpgjdobgfhhbiaa", sum := "9e56f67690c0f17d81f7de6e04d20498fd4db6c8cae62f714ecdc9e7cafebeb8", func := "postchaise/postchaiselaw11.GframeTurned", spec := "gframeTurned", inPlace := ["internal/abi.NoEscape", "internal/bytealg.MakeNoZero"], apart := false, narrowed := true }
def GframeTurnedUptoSaid : Prop := gframeTurnedUptoRow.holds Try.pinned (OpenSpec.upto gframeTurnedSpec)

end Rows
end Go.Proofs.Ytpgjdobgfhhbiaa
