/-
  No cell of these rows narrows 'for every input' (looked for: loops, veiled, ifaces, maps, wideKeys, modest, calm, conditions, laid).
  DERIVED. THE GIVEN ROWS OF THIS SEAT. 6 by the template 'for every input the law returns true; each argument reads behind the call as it read before'; 0 by the template 'total and deterministic' (their statements: YtghelhcmecmldaaTotals.lean).
  GIVEN WITH THE SEED: the statements are not yours to turn. If you find one false, say at which input.
  Laid BY PROGRAM, IN A SANDBOX (cutbox-rows.mjs): the forced cells as the released guide's own fill.sh prints them over the translation 868d86b56e4b5d33… (all of the seat's roots in one cut). By AI agents, Wed Nov 11 2026. No macro, syntax, notation, axiom, sorry.
-/
import Derived.Test.YtghelhcmecmldaaChecked
import GoSem.Claim
import GoSem.ClaimJoined
import GoSem.ClaimMapViews
import Derived.JoinedTies
import Derived.KernelRfl
namespace Go.Proofs.Ytghelhcmecmldaa
/- THE CELL 'sum', in the pinned program and in every row, IS THE sha256 OF THE DUMP (.gsa) THAT YtghelhcmecmldaaProg.lean LOADS. Nothing in Lean hashes anything: it is a label: what it is worth is what the hold of that sum in a sandbox is worth. -/
noncomputable def Try.pinned : Pinned := { name := "ytghelhcmecmldaa", sum := "868d86b56e4b5d33377f74fb4af29a5dbfff72157ee4773481c6f4c88473da4b", checked := Try.checked }
namespace Rows
def none {H : Type} : Left H := { results := [], args := [] }

/-- 'postchaiselaw12.IframeWrites': WHATEVER THE INPUT: true; the input reads as it did. -/
def iframeWritesSpec : ChangeSpec := { name := "iframeWrites", fn := fun _ => fun
  | [d] => { results := [.lit (.bool true)], args := [d] }
  | _ => none }
def iframeWritesRow : OpenClaim := { program := "ytghelhcmecmldaa", sum := "868d86b56e4b5d33377f74fb4af29a5dbfff72157ee4773481c6f4c88473da4b", func := "postchaise/postchaiselaw12.IframeWrites", spec := "iframeWrites", apart := false }
def IframeWritesSaid : Prop := iframeWritesRow.holds Try.pinned (OpenSpec.ofChange iframeWritesSpec)

/-- ITS FALSE NEIGHBOUR: 'it returns false'. Refute it at one input. -/
def iframeWritesWrong : ChangeSpec := { name := "iframeWrites", fn := fun _ => fun
  | [d] => { results := [.lit (.bool false)], args := [d] }
  | _ => none }
def IframeWritesWrongFalsely : Prop := iframeWritesRow.holds Try.pinned (OpenSpec.ofChange iframeWritesWrong)

/-- 'postchaiselaw12.IframeReads': WHATEVER THE INPUT: true; the input reads as it did. -/
def iframeReadsSpec : ChangeSpec := { name := "iframeReads", fn := fun _ => fun
  | [d] => { results := [.lit (.bool true)], args := [d] }
  | _ => none }
def iframeReadsRow : OpenClaim := { program := "ytghelhcmecmldaa", sum := "868d86b56e4b5d33377f74fb4af29a5dbfff72157ee4773481c6f4c88473da4b", func := "postchaise/postchaiselaw12.IframeReads", spec := "iframeReads", apart := false }
def IframeReadsSaid : Prop := iframeReadsRow.holds Try.pinned (OpenSpec.ofChange iframeReadsSpec)

/-- ITS FALSE NEIGHBOUR: 'it returns false'. Refute it at one input. -/
def iframeReadsWrong : ChangeSpec := { name := "iframeReads", fn := fun _ => fun
  | [d] => { results := [.lit (.bool false)], args := [d] }
  | _ => none }
def IframeReadsWrongFalsely : Prop := iframeReadsRow.holds Try.pinned (OpenSpec.ofChange iframeReadsWrong)

/-- 'postchaiselaw12.IframeScans': WHATEVER THE INPUT: true; the input reads as it did. -/
def iframeScansSpec : ChangeSpec := { name := "iframeScans", fn := fun _ => fun
  | [d] => { results := [.lit (.bool true)], args := [d] }
  | _ => none }
def iframeScansRow : OpenClaim := { program := "ytghelhcmecmldaa", sum := "868d86b56e4b5d33377f74fb4af29a5dbfff72157ee4773481c6f4c88473da4b", func := "postchaise/postchaiselaw12.IframeScans", spec := "iframeScans", apart := false }
def IframeScansSaid : Prop := iframeScansRow.holds Try.pinned (OpenSpec.ofChange iframeScansSpec)

/-- ITS FALSE NEIGHBOUR: 'it returns false'. Refute it at one input. -/
def iframeScansWrong : ChangeSpec := { name := "iframeScans", fn := fun _ => fun
  | [d] => { results := [.lit (.bool false)], args := [d] }
  | _ => none }
def IframeScansWrongFalsely : Prop := iframeScansRow.holds Try.pinned (OpenSpec.ofChange iframeScansWrong)

/-- 'postchaiselaw12.IframeBack': WHATEVER THE INPUT: true; the input reads as it did. -/
def iframeBackSpec : ChangeSpec := { name := "iframeBack", fn := fun _ => fun
  | [d1, d2] => { results := [.lit (.bool true)], args := [d1, d2] }
  | _ => none }
def iframeBackRow : OpenClaim := { program := "ytghelhcmecmldaa", sum := "868d86b56e4b5d33377f74fb4af29a5dbfff72157ee4773481c6f4c88473da4b", func := "postchaise/postchaiselaw12.IframeBack", spec := "iframeBack", apart := false }
def IframeBackSaid : Prop := iframeBackRow.holds Try.pinned (OpenSpec.ofChange iframeBackSpec)

/-- ITS FALSE NEIGHBOUR: 'it returns false'. Refute it at one input. -/
def iframeBackWrong : ChangeSpec := { name := "iframeBack", fn := fun _ => fun
  | [d1, d2] => { results := [.lit (.bool false)], args := [d1, d2] }
  | _ => none }
def IframeBackWrongFalsely : Prop := iframeBackRow.holds Try.pinned (OpenSpec.ofChange iframeBackWrong)

/-- 'postchaiselaw12.IframeCuts': WHATEVER THE INPUT: true; the input reads as it did. -/
def iframeCutsSpec : ChangeSpec := { name := "iframeCuts", fn := fun _ => fun
  | [d1, d2] => { results := [.lit (.bool true)], args := [d1, d2] }
  | _ => none }
def iframeCutsRow : OpenClaim := { program := "ytghelhcmecmldaa", sum := "868d86b56e4b5d33377f74fb4af29a5dbfff72157ee4773481c6f4c88473da4b", func := "postchaise/postchaiselaw12.IframeCuts", spec := "iframeCuts", apart := false }
def IframeCutsSaid : Prop := iframeCutsRow.holds Try.pinned (OpenSpec.ofChange iframeCutsSpec)

/-- ITS FALSE NEIGHBOUR: 'it returns false'. Refute it at one input. -/
def iframeCutsWrong : ChangeSpec := { name := "iframeCuts", fn := fun _ => fun
  | [d1, d2] => { results := [.lit (.bool false)], args := [d1, d2] }
  | _ => none }
def IframeCutsWrongFalsely : Prop := iframeCutsRow.holds Try.pinned (OpenSpec.ofChange iframeCutsWrong)

/-- 'postchaiselaw12.IframeTurned': WHATEVER THE INPUT: true; the input reads as it did. -/
def iframeTurnedSpec : ChangeSpec := { name := "iframeTurned", fn := fun _ => fun
  | [d1, d2, d3] => { results := [.lit (.bool true)], args := [d1, d2, d3] }
  | _ => none }
def iframeTurnedRow : OpenClaim := { program := "ytghelhcmecmldaa", sum := "868d86b56e4b5d33377f74fb4af29a5dbfff72157ee4773481c6f4c88473da4b", func := "postchaise/postchaiselaw12.IframeTurned", spec := "iframeTurned", apart := false }
def IframeTurnedSaid : Prop := iframeTurnedRow.holds Try.pinned (OpenSpec.ofChange iframeTurnedSpec)

/-- ITS FALSE NEIGHBOUR: 'it returns false'. Refute it at one input. -/
def iframeTurnedWrong : ChangeSpec := { name := "iframeTurned", fn := fun _ => fun
  | [d1, d2, d3] => { results := [.lit (.bool false)], args := [d1, d2, d3] }
  | _ => none }
def IframeTurnedWrongFalsely : Prop := iframeTurnedRow.holds Try.pinned (OpenSpec.ofChange iframeTurnedWrong)

/- THE SECOND FORM. 'bulk': how many values and letters a reading holds, each counted each time it is reached (what is shared counts as often as it is met; a slice's spare places count too). A statement '..UptoSaid' is the law's where the arguments, and the package variables that the reading takes, are together of bulk at most 1048576: NARROWER than '..Said'. Prove '..Said' where nothing that the law and all that it calls make is longer than what came in: it says more and counts as full. Else prove '..UptoSaid'. A law counts once. -/
mutual
def uptoBulk {H : Type} : DataW H → Nat
  | .lit (.string bytes) => bytes.length + 1
  | .lit _ => 1
  | .nil => 1
  | .ptr d => uptoBulk d + 1
  | .slice elems spare => uptoBulkAll elems + uptoBulkAll spare + 1
  | .agg parts => uptoBulkAll parts + 1
  | .iface _ d => uptoBulk d + 1
  | .map entries => uptoBulkEntries entries + 1
  | .held _ => 1
def uptoBulkAll {H : Type} : List (DataW H) → Nat
  | [] => 0
  | d :: r => uptoBulk d + uptoBulkAll r
def uptoBulkEntries {H : Type} : List (Lit × DataW H) → Nat
  | [] => 0
  | x :: r => uptoBulkEntry x + uptoBulkEntries r
def uptoBulkEntry {H : Type} : Lit × DataW H → Nat
  | (.string bytes, d) => bytes.length + uptoBulk d + 1
  | (_, d) => uptoBulk d + 1
 end
def uptoSmall : (H : Type) → List (DataW H) → Bool := fun _ ds => decide (uptoBulkAll ds ≤ 1048576)
def OpenSpec.upto (s : _root_.Go.ChangeSpec) : _root_.Go.OpenSpec := { _root_.Go.OpenSpec.ofChange s with cond := some uptoSmall }

/-- 'postchaiselaw12.IframeWrites', WHERE WHAT IT READS IS OF BULK AT MOST 1048576: true; the input reads as it did. -/
def iframeWritesUptoRow : OpenClaim := { program := "ytghelhcmecmldaa", sum := "868d86b56e4b5d33377f74fb4af29a5dbfff72157ee4773481c6f4c88473da4b", func := "postchaise/postchaiselaw12.IframeWrites", spec := "iframeWrites", apart := false, narrowed := true }
def IframeWritesUptoSaid : Prop := iframeWritesUptoRow.holds Try.pinned (OpenSpec.upto iframeWritesSpec)

/-- 'postchaiselaw12.IframeReads', WHERE WHAT IT READS IS OF BULK AT MOST 1048576: true; the input reads as it did. -/
def iframeReadsUptoRow : OpenClaim := { program := "ytghelhcmecmldaa", sum := "868d86b56e4b5d33377f74fb4af29a5dbfff72157ee4773481c6f4c88473da4b", func := "postchaise/postchaiselaw12.IframeReads", spec := "iframeReads", apart := false, narrowed := true }
def IframeReadsUptoSaid : Prop := iframeReadsUptoRow.holds Try.pinned (OpenSpec.upto iframeReadsSpec)

/-- 'postchaiselaw12.IframeScans', WHERE WHAT IT READS IS OF BULK AT MOST 1048576: true; the input reads as it did. -/
def iframeScansUptoRow : OpenClaim := { program := "ytghelhcmecmldaa", sum := "868d86b56e4b5d33377f74fb4af29a5dbfff72157ee4773481c6f4c88473da4b", func := "postchaise/postchaiselaw12.IframeScans", spec := "iframeScans", apart := false, narrowed := true }
def IframeScansUptoSaid : Prop := iframeScansUptoRow.holds Try.pinned (OpenSpec.upto iframeScansSpec)

/-- 'postchaiselaw12.IframeBack', WHERE WHAT IT READS IS OF BULK AT MOST 1048576: true; the input reads as it did. -/
def iframeBackUptoRow : OpenClaim := { program := "ytghelhcmecmldaa", sum := "868d86b56e4b5d33377f74fb4af29a5dbfff72157ee4773481c6f4c88473da4b", func := "postchaise/postchaiselaw12.IframeBack", spec := "iframeBack", apart := false, narrowed := true }
def IframeBackUptoSaid : Prop := iframeBackUptoRow.holds Try.pinned (OpenSpec.upto iframeBackSpec)

/-- 'postchaiselaw12.IframeCuts', WHERE WHAT IT READS IS OF BULK AT MOST 1048576: true; the input reads as it did. -/
def iframeCutsUptoRow : OpenClaim := { program := "ytghelhcmecmldaa", sum := "868d86b56e4b5d33377f74fb4af29a5dbfff72157ee4773481c6f4c88473da4b", func := "postchaise/postchaiselaw12.IframeCuts", spec := "iframeCuts", apart := false, narrowed := true }
def IframeCutsUptoSaid : Prop := iframeCutsUptoRow.holds Try.pinned (OpenSpec.upto iframeCutsSpec)

/-- 'postchaiselaw12.IframeTurned', WHERE WHAT IT READS IS OF BULK AT MOST 1048576: true; the input reads as it did. -/
def iframeTurnedUptoRow : OpenClaim := { program := "ytghelhcmecmldaa", sum := "868d86b56e4b5d33377f74fb4af29a5dbfff72157ee4773481c6f4c88473da4b", func := "postchaise/postchaiselaw12.IframeTurned", spec := "iframeTurned", apart := false, narrowed := true }
def IframeTurnedUptoSaid : Prop := iframeTurnedUptoRow.holds Try.pinned (OpenSpec.upto iframeTurnedSpec)

end Rows
end Go.Proofs.Ytghelhcmecmldaa
