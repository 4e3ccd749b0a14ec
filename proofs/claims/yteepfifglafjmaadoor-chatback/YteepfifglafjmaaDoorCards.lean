/-
  DERIVED. GIVEN WITH THE SEED: THE CARDS: each row of YteepfifglafjmaaDoorRows.lean that lists a variable, with what it lists TIED to the program's text (the seventh form; the later family's looks); each row that meets fmt, with fmt's text TOLD by the authors' own Lean function (tested against real Go, not proved from fmt's source: count such statements apart). THE CARD IS WHAT COUNTS. Prove the row's statement (the work); the ties are given (YteepfifglafjmaaDoorTie.lean); close each card by the builder's one call (the guide's Derived/Test/ToyasCard.lean, 'card_holds'). Laid BY PROGRAM, IN A SANDBOX (cutbox-door.mjs). By AI agents, Wed Nov 11 2026. No macro, syntax, notation, axiom, sorry.
-/
import Derived.Test.YteepfifglafjmaaDoorRows
import GoSem.ClaimSeven
namespace Go.Proofs.YteepfifglafjmaaDoor
namespace Rows

/-- THE TIED CARD OF 'postchaiselaw08.ChatPrints'. -/
def chatPrintsCard : Claim7 := { stood := { row := chatPrintsRow, standIns := [], harness := (true, "35585607959ba184e2891ab5a9d6962858bbf78c553bb7ea74c6cc96178c4773"), looks := true }, kinds := [], alts := [], laidByText := true, laidKinds := [.data, .listed, .data, .pinned], laidTests := true, laidLooks := .later }
def ChatPrintsCardSaid : Prop := Claim7.holds Tryd.pinned (.plain (OpenSpec.ofChange chatPrintsSpec)) chatPrintsCard

/-- THE TIED CARD OF 'postchaiselaw08.ChatPlays'. -/
def chatPlaysCard : Claim7 := { stood := { row := chatPlaysRow, standIns := [], harness := (true, "35585607959ba184e2891ab5a9d6962858bbf78c553bb7ea74c6cc96178c4773"), looks := true }, kinds := [], alts := [], laidByText := true, laidKinds := [.data, .listed, .data, .pinned], laidTests := true, laidLooks := .later }
def ChatPlaysCardSaid : Prop := Claim7.holds Tryd.pinned (.plain (OpenSpec.ofChange chatPlaysSpec)) chatPlaysCard

/-- THE TIED CARD OF 'postchaiselaw08.ChatBack'. -/
def chatBackCard : Claim7 := { stood := { row := chatBackRow, standIns := [], harness := (true, "35585607959ba184e2891ab5a9d6962858bbf78c553bb7ea74c6cc96178c4773"), looks := true }, kinds := [], alts := [], laidByText := true, laidKinds := [.data, .listed, .data, .pinned], laidTests := true, laidLooks := .later }
def ChatBackCardSaid : Prop := Claim7.holds Tryd.pinned (.plain (OpenSpec.ofChange chatBackSpec)) chatBackCard

/-- THE SECOND FORM's CARD OF 'postchaiselaw08.ChatPrints'. -/
def chatPrintsUptoCard : Claim7 := { stood := { row := chatPrintsUptoRow, standIns := [], harness := (true, "35585607959ba184e2891ab5a9d6962858bbf78c553bb7ea74c6cc96178c4773"), looks := true }, kinds := [], alts := [], laidByText := true, laidKinds := [.data, .listed, .data, .pinned], laidTests := true, laidLooks := .later }
def ChatPrintsUptoCardSaid : Prop := Claim7.holds Tryd.pinned (.plain (OpenSpec.upto chatPrintsSpec)) chatPrintsUptoCard

/-- THE SECOND FORM's CARD OF 'postchaiselaw08.ChatPlays'. -/
def chatPlaysUptoCard : Claim7 := { stood := { row := chatPlaysUptoRow, standIns := [], harness := (true, "35585607959ba184e2891ab5a9d6962858bbf78c553bb7ea74c6cc96178c4773"), looks := true }, kinds := [], alts := [], laidByText := true, laidKinds := [.data, .listed, .data, .pinned], laidTests := true, laidLooks := .later }
def ChatPlaysUptoCardSaid : Prop := Claim7.holds Tryd.pinned (.plain (OpenSpec.upto chatPlaysSpec)) chatPlaysUptoCard

/-- THE SECOND FORM's CARD OF 'postchaiselaw08.ChatBack'. -/
def chatBackUptoCard : Claim7 := { stood := { row := chatBackUptoRow, standIns := [], harness := (true, "35585607959ba184e2891ab5a9d6962858bbf78c553bb7ea74c6cc96178c4773"), looks := true }, kinds := [], alts := [], laidByText := true, laidKinds := [.data, .listed, .data, .pinned], laidTests := true, laidLooks := .later }
def ChatBackUptoCardSaid : Prop := Claim7.holds Tryd.pinned (.plain (OpenSpec.upto chatBackSpec)) chatBackUptoCard
end Rows
end Go.Proofs.YteepfifglafjmaaDoor
