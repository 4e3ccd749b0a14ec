/-
  DERIVED. GIVEN WITH THE SEED: THE CARDS: each row of YtpndcbilnbihaabDoorRows.lean that lists a variable, with what it lists TIED to the program's text (the seventh form; the later family's looks); each row that meets fmt, with fmt's text TOLD by the authors' own Lean function (tested against real Go, not proved from fmt's source: count such statements apart). THE CARD IS WHAT COUNTS. Prove the row's statement (the work); the ties are given (YtpndcbilnbihaabDoorTie.lean); close each card by the builder's one call (the guide's Derived/Test/ToyasCard.lean, 'card_holds'). Laid BY PROGRAM, IN A SANDBOX (cutbox-door.mjs). By AI agents, Wed Nov 11 2026. No macro, syntax, notation, axiom, sorry.
-/
import Derived.Test.YtpndcbilnbihaabDoorRows
import GoSem.ClaimSeven
namespace Go.Proofs.YtpndcbilnbihaabDoor
namespace Rows

/-- THE TIED CARD OF 'postchaiselaw09.GreetBack'. -/
def greetBackCard : Claim7 := { stood := { row := greetBackRow, standIns := [], harness := (true, "a268988811bf014076e2a30499ec52133e9ebea08ee9f3b475f956d142cee57e"), looks := false }, kinds := [], alts := [], laidByText := true, laidKinds := [.data, .data, .data], laidTests := true, laidLooks := .later }
def GreetBackCardSaid : Prop := Claim7.holds Tryd.pinned (.plain (OpenSpec.ofChange greetBackSpec)) greetBackCard

/-- THE SECOND FORM's CARD OF 'postchaiselaw09.GreetBack'. -/
def greetBackUptoCard : Claim7 := { stood := { row := greetBackUptoRow, standIns := [], harness := (true, "a268988811bf014076e2a30499ec52133e9ebea08ee9f3b475f956d142cee57e"), looks := false }, kinds := [], alts := [], laidByText := true, laidKinds := [.data, .data, .data], laidTests := true, laidLooks := .later }
def GreetBackUptoCardSaid : Prop := Claim7.holds Tryd.pinned (.plain (OpenSpec.upto greetBackSpec)) greetBackUptoCard
end Rows
end Go.Proofs.YtpndcbilnbihaabDoor
