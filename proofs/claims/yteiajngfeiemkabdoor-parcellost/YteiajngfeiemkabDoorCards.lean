/-
  DERIVED. GIVEN WITH THE SEED: THE CARDS: each row of YteiajngfeiemkabDoorRows.lean that lists a variable, with what it lists TIED to the program's text (the seventh form; the later family's looks); each row that meets fmt, with fmt's text TOLD by the authors' own Lean function (tested against real Go, not proved from fmt's source: count such statements apart). THE CARD IS WHAT COUNTS. Prove the row's statement (the work); the ties are given (YteiajngfeiemkabDoorTie.lean); close each card by the builder's one call (the guide's Derived/Test/ToyasCard.lean, 'card_holds'). Laid BY PROGRAM, IN A SANDBOX (cutbox-door.mjs). By AI agents, Wed Nov 11 2026. No macro, syntax, notation, axiom, sorry.
-/
import Derived.Test.YteiajngfeiemkabDoorRows
import GoSem.ClaimSeven
namespace Go.Proofs.YteiajngfeiemkabDoor
namespace Rows

/-- THE TIED CARD OF 'postchaiselaw13.ParcelLost'. -/
def parcelLostCard : Claim7 := { stood := { row := parcelLostRow, standIns := [], harness := (true, "bd65fdd00cf348c7cb428ba1bd190cf36f35b8f8bce022b58c8b642df5730b2e"), looks := false }, kinds := [], alts := [], laidByText := true, laidKinds := [.data, .data, .data], laidTests := true, laidLooks := .later }
def ParcelLostCardSaid : Prop := Claim7.holds Tryd.pinned (.plain (OpenSpec.ofChange parcelLostSpec)) parcelLostCard

/-- THE SECOND FORM's CARD OF 'postchaiselaw13.ParcelLost'. -/
def parcelLostUptoCard : Claim7 := { stood := { row := parcelLostUptoRow, standIns := [], harness := (true, "bd65fdd00cf348c7cb428ba1bd190cf36f35b8f8bce022b58c8b642df5730b2e"), looks := false }, kinds := [], alts := [], laidByText := true, laidKinds := [.data, .data, .data], laidTests := true, laidLooks := .later }
def ParcelLostUptoCardSaid : Prop := Claim7.holds Tryd.pinned (.plain (OpenSpec.upto parcelLostSpec)) parcelLostUptoCard
end Rows
end Go.Proofs.YteiajngfeiemkabDoor
