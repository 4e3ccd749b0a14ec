/-
  DERIVED. GIVEN WITH THE SEED: THE CARDS: each row of YtpggnhnpphbaeaaDoorRows.lean that lists a variable, with what it lists TIED to the program's text (the seventh form; the later family's looks); each row that meets fmt, with fmt's text TOLD by the authors' own Lean function (tested against real Go, not proved from fmt's source: count such statements apart). THE CARD IS WHAT COUNTS. Prove the row's statement (the work); the ties are given (YtpggnhnpphbaeaaDoorTie.lean); close each card by the builder's one call (the guide's Derived/Test/ToyasCard.lean, 'card_holds'). Laid BY PROGRAM, IN A SANDBOX (cutbox-door.mjs). By AI agents, Wed Nov 11 2026. No macro, syntax, notation, axiom, sorry.
-/
import Derived.Test.YtpggnhnpphbaeaaDoorRows
import GoSem.ClaimSeven
namespace Go.Proofs.YtpggnhnpphbaeaaDoor
namespace Rows

/-- THE TIED CARD OF 'postchaiselaw08.ChatPieces'. -/
def chatPiecesCard : Claim7 := { stood := { row := chatPiecesRow, standIns := [], harness := (true, "3de81b35dc39b3c5bd122b2f5bb676bb36b06a691fdc7ad59c9a44f457b57eca"), looks := true }, kinds := [], alts := [], laidByText := true, laidKinds := [.data, .listed, .data, .pinned], laidTests := true, laidLooks := .later }
def ChatPiecesCardSaid : Prop := Claim7.holds Tryd.pinned (.plain (OpenSpec.ofChange chatPiecesSpec)) chatPiecesCard

/-- THE SECOND FORM's CARD OF 'postchaiselaw08.ChatPieces'. -/
def chatPiecesUptoCard : Claim7 := { stood := { row := chatPiecesUptoRow, standIns := [], harness := (true, "3de81b35dc39b3c5bd122b2f5bb676bb36b06a691fdc7ad59c9a44f457b57eca"), looks := true }, kinds := [], alts := [], laidByText := true, laidKinds := [.data, .listed, .data, .pinned], laidTests := true, laidLooks := .later }
def ChatPiecesUptoCardSaid : Prop := Claim7.holds Tryd.pinned (.plain (OpenSpec.upto chatPiecesSpec)) chatPiecesUptoCard
end Rows
end Go.Proofs.YtpggnhnpphbaeaaDoor
