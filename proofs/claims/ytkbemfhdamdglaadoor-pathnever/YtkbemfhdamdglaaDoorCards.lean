/-
  DERIVED. GIVEN WITH THE SEED: THE CARDS: each row of YtkbemfhdamdglaaDoorRows.lean that lists a variable, with what it lists TIED to the program's text (the seventh form; the later family's looks); each row that meets fmt, with fmt's text TOLD by the authors' own Lean function (tested against real Go, not proved from fmt's source: count such statements apart). THE CARD IS WHAT COUNTS. Prove the row's statement (the work); the ties are given (YtkbemfhdamdglaaDoorTie.lean); close each card by the builder's one call (the guide's Derived/Test/ToyasCard.lean, 'card_holds'). Laid BY PROGRAM, IN A SANDBOX (cutbox-door.mjs). By AI agents, Wed Nov 11 2026. No macro, syntax, notation, axiom, sorry.
-/
import Derived.Test.YtkbemfhdamdglaaDoorRows
import GoSem.ClaimSeven
namespace Go.Proofs.YtkbemfhdamdglaaDoor
namespace Rows

/-- THE TIED CARD OF 'postchaiselaw04.PathChecks'. -/
def pathChecksCard : Claim7 := { stood := { row := pathChecksRow, standIns := [], harness := (true, "c91d56932b9062e020f09deac512558909127810eba24cd0405ae2a423cce73a"), looks := false }, kinds := [], alts := [], laidByText := true, laidKinds := [.data, .pinned], laidTests := true, laidLooks := .later }
def PathChecksCardSaid : Prop := Claim7.holds Tryd.pinned (.plain (OpenSpec.ofChange pathChecksSpec)) pathChecksCard

/-- THE TIED CARD OF 'postchaiselaw04.PathCleans'. -/
def pathCleansCard : Claim7 := { stood := { row := pathCleansRow, standIns := [], harness := (true, "c91d56932b9062e020f09deac512558909127810eba24cd0405ae2a423cce73a"), looks := false }, kinds := [], alts := [], laidByText := true, laidKinds := [.data, .pinned], laidTests := true, laidLooks := .later }
def PathCleansCardSaid : Prop := Claim7.holds Tryd.pinned (.plain (OpenSpec.ofChange pathCleansSpec)) pathCleansCard

/-- THE TIED CARD OF 'postchaiselaw04.PathPermits'. -/
def pathPermitsCard : Claim7 := { stood := { row := pathPermitsRow, standIns := [], harness := (true, "c91d56932b9062e020f09deac512558909127810eba24cd0405ae2a423cce73a"), looks := false }, kinds := [], alts := [], laidByText := true, laidKinds := [.data, .pinned], laidTests := true, laidLooks := .later }
def PathPermitsCardSaid : Prop := Claim7.holds Tryd.pinned (.plain (OpenSpec.ofChange pathPermitsSpec)) pathPermitsCard

/-- THE TIED CARD OF 'postchaiselaw04.PathRests'. -/
def pathRestsCard : Claim7 := { stood := { row := pathRestsRow, standIns := [], harness := (true, "c91d56932b9062e020f09deac512558909127810eba24cd0405ae2a423cce73a"), looks := false }, kinds := [], alts := [], laidByText := true, laidKinds := [.data, .pinned], laidTests := true, laidLooks := .later }
def PathRestsCardSaid : Prop := Claim7.holds Tryd.pinned (.plain (OpenSpec.ofChange pathRestsSpec)) pathRestsCard

/-- THE TIED CARD OF 'postchaiselaw04.PathNever'. -/
def pathNeverCard : Claim7 := { stood := { row := pathNeverRow, standIns := [], harness := (true, "c91d56932b9062e020f09deac512558909127810eba24cd0405ae2a423cce73a"), looks := false }, kinds := [], alts := [], laidByText := true, laidKinds := [.data, .pinned], laidTests := true, laidLooks := .later }
def PathNeverCardSaid : Prop := Claim7.holds Tryd.pinned (.plain (OpenSpec.ofChange pathNeverSpec)) pathNeverCard

/-- THE TIED CARD OF 'postchaiselaw04.PathBelow'. -/
def pathBelowCard : Claim7 := { stood := { row := pathBelowRow, standIns := [], harness := (true, "c91d56932b9062e020f09deac512558909127810eba24cd0405ae2a423cce73a"), looks := false }, kinds := [], alts := [], laidByText := true, laidKinds := [.data, .pinned], laidTests := true, laidLooks := .later }
def PathBelowCardSaid : Prop := Claim7.holds Tryd.pinned (.plain (OpenSpec.ofChange pathBelowSpec)) pathBelowCard

/-- THE SECOND FORM's CARD OF 'postchaiselaw04.PathChecks'. -/
def pathChecksUptoCard : Claim7 := { stood := { row := pathChecksUptoRow, standIns := [], harness := (true, "c91d56932b9062e020f09deac512558909127810eba24cd0405ae2a423cce73a"), looks := false }, kinds := [], alts := [], laidByText := true, laidKinds := [.data, .pinned], laidTests := true, laidLooks := .later }
def PathChecksUptoCardSaid : Prop := Claim7.holds Tryd.pinned (.plain (OpenSpec.upto pathChecksSpec)) pathChecksUptoCard

/-- THE SECOND FORM's CARD OF 'postchaiselaw04.PathCleans'. -/
def pathCleansUptoCard : Claim7 := { stood := { row := pathCleansUptoRow, standIns := [], harness := (true, "c91d56932b9062e020f09deac512558909127810eba24cd0405ae2a423cce73a"), looks := false }, kinds := [], alts := [], laidByText := true, laidKinds := [.data, .pinned], laidTests := true, laidLooks := .later }
def PathCleansUptoCardSaid : Prop := Claim7.holds Tryd.pinned (.plain (OpenSpec.upto pathCleansSpec)) pathCleansUptoCard

/-- THE SECOND FORM's CARD OF 'postchaiselaw04.PathPermits'. -/
def pathPermitsUptoCard : Claim7 := { stood := { row := pathPermitsUptoRow, standIns := [], harness := (true, "c91d56932b9062e020f09deac512558909127810eba24cd0405ae2a423cce73a"), looks := false }, kinds := [], alts := [], laidByText := true, laidKinds := [.data, .pinned], laidTests := true, laidLooks := .later }
def PathPermitsUptoCardSaid : Prop := Claim7.holds Tryd.pinned (.plain (OpenSpec.upto pathPermitsSpec)) pathPermitsUptoCard

/-- THE SECOND FORM's CARD OF 'postchaiselaw04.PathRests'. -/
def pathRestsUptoCard : Claim7 := { stood := { row := pathRestsUptoRow, standIns := [], harness := (true, "c91d56932b9062e020f09deac512558909127810eba24cd0405ae2a423cce73a"), looks := false }, kinds := [], alts := [], laidByText := true, laidKinds := [.data, .pinned], laidTests := true, laidLooks := .later }
def PathRestsUptoCardSaid : Prop := Claim7.holds Tryd.pinned (.plain (OpenSpec.upto pathRestsSpec)) pathRestsUptoCard

/-- THE SECOND FORM's CARD OF 'postchaiselaw04.PathNever'. -/
def pathNeverUptoCard : Claim7 := { stood := { row := pathNeverUptoRow, standIns := [], harness := (true, "c91d56932b9062e020f09deac512558909127810eba24cd0405ae2a423cce73a"), looks := false }, kinds := [], alts := [], laidByText := true, laidKinds := [.data, .pinned], laidTests := true, laidLooks := .later }
def PathNeverUptoCardSaid : Prop := Claim7.holds Tryd.pinned (.plain (OpenSpec.upto pathNeverSpec)) pathNeverUptoCard

/-- THE SECOND FORM's CARD OF 'postchaiselaw04.PathBelow'. -/
def pathBelowUptoCard : Claim7 := { stood := { row := pathBelowUptoRow, standIns := [], harness := (true, "c91d56932b9062e020f09deac512558909127810eba24cd0405ae2a423cce73a"), looks := false }, kinds := [], alts := [], laidByText := true, laidKinds := [.data, .pinned], laidTests := true, laidLooks := .later }
def PathBelowUptoCardSaid : Prop := Claim7.holds Tryd.pinned (.plain (OpenSpec.upto pathBelowSpec)) pathBelowUptoCard
end Rows
end Go.Proofs.YtkbemfhdamdglaaDoor
