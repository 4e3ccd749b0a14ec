/-
  DERIVED. GIVEN WITH THE SEED: THE CARDS: each row of YteiajngfeiemkaaDoorRows.lean that lists a variable, with what it lists TIED to the program's text (the seventh form; the later family's looks); each row that meets fmt, with fmt's text TOLD by the authors' own Lean function (tested against real Go, not proved from fmt's source: count such statements apart). THE CARD IS WHAT COUNTS. Prove the row's statement (the work); the ties are given (YteiajngfeiemkaaDoorTie.lean); close each card by the builder's one call (the guide's Derived/Test/ToyasCard.lean, 'card_holds'). Laid BY PROGRAM, IN A SANDBOX (cutbox-door.mjs). By AI agents, Wed Nov 11 2026. No macro, syntax, notation, axiom, sorry.
-/
import Derived.Test.YteiajngfeiemkaaDoorRows
import GoSem.ClaimSeven
namespace Go.Proofs.YteiajngfeiemkaaDoor
namespace Rows

/-- THE TIED CARD OF 'postchaiselaw13.ParcelWrites'. -/
def parcelWritesCard : Claim7 := { stood := { row := parcelWritesRow, standIns := [], harness := (true, "151ec7a4430927124c540c8782975b4381351c6e9ddf0a207cf7816107ab95ca"), looks := false }, kinds := [], alts := [], laidByText := true, laidKinds := [.data, .data, .data], laidTests := true, laidLooks := .later }
def ParcelWritesCardSaid : Prop := Claim7.holds Tryd.pinned (.plain (OpenSpec.ofChange parcelWritesSpec)) parcelWritesCard

/-- THE TIED CARD OF 'postchaiselaw13.ParcelReads'. -/
def parcelReadsCard : Claim7 := { stood := { row := parcelReadsRow, standIns := [], harness := (true, "151ec7a4430927124c540c8782975b4381351c6e9ddf0a207cf7816107ab95ca"), looks := false }, kinds := [], alts := [], laidByText := true, laidKinds := [.data, .data, .data], laidTests := true, laidLooks := .later }
def ParcelReadsCardSaid : Prop := Claim7.holds Tryd.pinned (.plain (OpenSpec.ofChange parcelReadsSpec)) parcelReadsCard

/-- THE TIED CARD OF 'postchaiselaw13.ParcelCuts'. -/
def parcelCutsCard : Claim7 := { stood := { row := parcelCutsRow, standIns := [], harness := (true, "151ec7a4430927124c540c8782975b4381351c6e9ddf0a207cf7816107ab95ca"), looks := false }, kinds := [], alts := [], laidByText := true, laidKinds := [.data, .data, .data], laidTests := true, laidLooks := .later }
def ParcelCutsCardSaid : Prop := Claim7.holds Tryd.pinned (.plain (OpenSpec.ofChange parcelCutsSpec)) parcelCutsCard

/-- THE TIED CARD OF 'postchaiselaw13.ParcelJoins'. -/
def parcelJoinsCard : Claim7 := { stood := { row := parcelJoinsRow, standIns := [], harness := (true, "151ec7a4430927124c540c8782975b4381351c6e9ddf0a207cf7816107ab95ca"), looks := false }, kinds := [], alts := [], laidByText := true, laidKinds := [.data, .data, .data], laidTests := true, laidLooks := .later }
def ParcelJoinsCardSaid : Prop := Claim7.holds Tryd.pinned (.plain (OpenSpec.ofChange parcelJoinsSpec)) parcelJoinsCard

/-- THE TIED CARD OF 'postchaiselaw13.ParcelBack'. -/
def parcelBackCard : Claim7 := { stood := { row := parcelBackRow, standIns := [], harness := (true, "151ec7a4430927124c540c8782975b4381351c6e9ddf0a207cf7816107ab95ca"), looks := false }, kinds := [], alts := [], laidByText := true, laidKinds := [.data, .data, .data], laidTests := true, laidLooks := .later }
def ParcelBackCardSaid : Prop := Claim7.holds Tryd.pinned (.plain (OpenSpec.ofChange parcelBackSpec)) parcelBackCard

/-- THE TIED CARD OF 'postchaiselaw13.ParcelWhole'. -/
def parcelWholeCard : Claim7 := { stood := { row := parcelWholeRow, standIns := [], harness := (true, "151ec7a4430927124c540c8782975b4381351c6e9ddf0a207cf7816107ab95ca"), looks := false }, kinds := [], alts := [], laidByText := true, laidKinds := [.data, .data, .data], laidTests := true, laidLooks := .later }
def ParcelWholeCardSaid : Prop := Claim7.holds Tryd.pinned (.plain (OpenSpec.ofChange parcelWholeSpec)) parcelWholeCard

/-- THE SECOND FORM's CARD OF 'postchaiselaw13.ParcelWrites'. -/
def parcelWritesUptoCard : Claim7 := { stood := { row := parcelWritesUptoRow, standIns := [], harness := (true, "151ec7a4430927124c540c8782975b4381351c6e9ddf0a207cf7816107ab95ca"), looks := false }, kinds := [], alts := [], laidByText := true, laidKinds := [.data, .data, .data], laidTests := true, laidLooks := .later }
def ParcelWritesUptoCardSaid : Prop := Claim7.holds Tryd.pinned (.plain (OpenSpec.upto parcelWritesSpec)) parcelWritesUptoCard

/-- THE SECOND FORM's CARD OF 'postchaiselaw13.ParcelReads'. -/
def parcelReadsUptoCard : Claim7 := { stood := { row := parcelReadsUptoRow, standIns := [], harness := (true, "151ec7a4430927124c540c8782975b4381351c6e9ddf0a207cf7816107ab95ca"), looks := false }, kinds := [], alts := [], laidByText := true, laidKinds := [.data, .data, .data], laidTests := true, laidLooks := .later }
def ParcelReadsUptoCardSaid : Prop := Claim7.holds Tryd.pinned (.plain (OpenSpec.upto parcelReadsSpec)) parcelReadsUptoCard

/-- THE SECOND FORM's CARD OF 'postchaiselaw13.ParcelCuts'. -/
def parcelCutsUptoCard : Claim7 := { stood := { row := parcelCutsUptoRow, standIns := [], harness := (true, "151ec7a4430927124c540c8782975b4381351c6e9ddf0a207cf7816107ab95ca"), looks := false }, kinds := [], alts := [], laidByText := true, laidKinds := [.data, .data, .data], laidTests := true, laidLooks := .later }
def ParcelCutsUptoCardSaid : Prop := Claim7.holds Tryd.pinned (.plain (OpenSpec.upto parcelCutsSpec)) parcelCutsUptoCard

/-- THE SECOND FORM's CARD OF 'postchaiselaw13.ParcelJoins'. -/
def parcelJoinsUptoCard : Claim7 := { stood := { row := parcelJoinsUptoRow, standIns := [], harness := (true, "151ec7a4430927124c540c8782975b4381351c6e9ddf0a207cf7816107ab95ca"), looks := false }, kinds := [], alts := [], laidByText := true, laidKinds := [.data, .data, .data], laidTests := true, laidLooks := .later }
def ParcelJoinsUptoCardSaid : Prop := Claim7.holds Tryd.pinned (.plain (OpenSpec.upto parcelJoinsSpec)) parcelJoinsUptoCard

/-- THE SECOND FORM's CARD OF 'postchaiselaw13.ParcelBack'. -/
def parcelBackUptoCard : Claim7 := { stood := { row := parcelBackUptoRow, standIns := [], harness := (true, "151ec7a4430927124c540c8782975b4381351c6e9ddf0a207cf7816107ab95ca"), looks := false }, kinds := [], alts := [], laidByText := true, laidKinds := [.data, .data, .data], laidTests := true, laidLooks := .later }
def ParcelBackUptoCardSaid : Prop := Claim7.holds Tryd.pinned (.plain (OpenSpec.upto parcelBackSpec)) parcelBackUptoCard

/-- THE SECOND FORM's CARD OF 'postchaiselaw13.ParcelWhole'. -/
def parcelWholeUptoCard : Claim7 := { stood := { row := parcelWholeUptoRow, standIns := [], harness := (true, "151ec7a4430927124c540c8782975b4381351c6e9ddf0a207cf7816107ab95ca"), looks := false }, kinds := [], alts := [], laidByText := true, laidKinds := [.data, .data, .data], laidTests := true, laidLooks := .later }
def ParcelWholeUptoCardSaid : Prop := Claim7.holds Tryd.pinned (.plain (OpenSpec.upto parcelWholeSpec)) parcelWholeUptoCard
end Rows
end Go.Proofs.YteiajngfeiemkaaDoor
