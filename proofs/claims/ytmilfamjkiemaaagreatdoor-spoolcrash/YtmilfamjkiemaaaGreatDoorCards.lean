/-
  DERIVED. GIVEN WITH THE SEED: THE CARDS: each row of YtmilfamjkiemaaaGreatDoorRows.lean that lists a variable, with what it lists TIED to the program's text (the seventh form; the later family's looks); each row that meets fmt, with fmt's text TOLD by the authors' own Lean function (tested against real Go, not proved from fmt's source: count such statements apart). THE CARD IS WHAT COUNTS. Prove the row's statement (the work); the ties are given (YtmilfamjkiemaaaGreatDoorTie.lean); close each card by the builder's one call (the guide's Derived/Test/ToyasCard.lean, 'card_holds'). Laid BY PROGRAM, IN A SANDBOX (cutbox-door.mjs). By AI agents, Wed Nov 11 2026. No macro, syntax, notation, axiom, sorry.
-/
import Derived.Test.YtmilfamjkiemaaaGreatDoorRows
import GoSem.ClaimSeven
namespace Go.Proofs.YtmilfamjkiemaaaGreatDoor
namespace Rows

/-- THE TIED CARD OF 'postchaiselaw18.SpoolPlays'. -/
def spoolPlaysCard : Claim7 := { stood := { row := spoolPlaysRow, standIns := [], harness := (true, "6b40e896d41b1c1bca85e5dbd518ba01c42d581b920f49a822491aa93570709d"), looks := false }, kinds := [], alts := [], laidByText := true, laidKinds := [.data, .data, .data, .data, .pinned], laidTests := true, laidLooks := .later }
def SpoolPlaysCardSaid : Prop := Claim7.holds Tryz.pinned (.plain (OpenSpec.ofChange spoolPlaysSpec)) spoolPlaysCard

/-- THE TIED CARD OF 'postchaiselaw18.SpoolKeeps'. -/
def spoolKeepsCard : Claim7 := { stood := { row := spoolKeepsRow, standIns := [], harness := (true, "6b40e896d41b1c1bca85e5dbd518ba01c42d581b920f49a822491aa93570709d"), looks := false }, kinds := [], alts := [], laidByText := true, laidKinds := [.data, .data, .data, .data, .pinned], laidTests := true, laidLooks := .later }
def SpoolKeepsCardSaid : Prop := Claim7.holds Tryz.pinned (.plain (OpenSpec.ofChange spoolKeepsSpec)) spoolKeepsCard

/-- THE TIED CARD OF 'postchaiselaw18.SpoolNumbers'. -/
def spoolNumbersCard : Claim7 := { stood := { row := spoolNumbersRow, standIns := [], harness := (true, "6b40e896d41b1c1bca85e5dbd518ba01c42d581b920f49a822491aa93570709d"), looks := false }, kinds := [], alts := [], laidByText := true, laidKinds := [.data, .data, .data, .data, .pinned], laidTests := true, laidLooks := .later }
def SpoolNumbersCardSaid : Prop := Claim7.holds Tryz.pinned (.plain (OpenSpec.ofChange spoolNumbersSpec)) spoolNumbersCard

/-- THE TIED CARD OF 'postchaiselaw18.SpoolCrash'. -/
def spoolCrashCard : Claim7 := { stood := { row := spoolCrashRow, standIns := [], harness := (true, "6b40e896d41b1c1bca85e5dbd518ba01c42d581b920f49a822491aa93570709d"), looks := false }, kinds := [], alts := [], laidByText := true, laidKinds := [.data, .data, .data, .data, .pinned], laidTests := true, laidLooks := .later }
def SpoolCrashCardSaid : Prop := Claim7.holds Tryz.pinned (.plain (OpenSpec.ofChange spoolCrashSpec)) spoolCrashCard

/-- THE TIED CARD OF 'postchaiselaw18.SpoolOrder'. -/
def spoolOrderCard : Claim7 := { stood := { row := spoolOrderRow, standIns := [], harness := (true, "6b40e896d41b1c1bca85e5dbd518ba01c42d581b920f49a822491aa93570709d"), looks := false }, kinds := [], alts := [], laidByText := true, laidKinds := [.data, .data, .data, .data, .pinned], laidTests := true, laidLooks := .later }
def SpoolOrderCardSaid : Prop := Claim7.holds Tryz.pinned (.plain (OpenSpec.ofChange spoolOrderSpec)) spoolOrderCard

/-- THE SECOND FORM's CARD OF 'postchaiselaw18.SpoolPlays'. -/
def spoolPlaysUptoCard : Claim7 := { stood := { row := spoolPlaysUptoRow, standIns := [], harness := (true, "6b40e896d41b1c1bca85e5dbd518ba01c42d581b920f49a822491aa93570709d"), looks := false }, kinds := [], alts := [], laidByText := true, laidKinds := [.data, .data, .data, .data, .pinned], laidTests := true, laidLooks := .later }
def SpoolPlaysUptoCardSaid : Prop := Claim7.holds Tryz.pinned (.plain (OpenSpec.upto spoolPlaysSpec)) spoolPlaysUptoCard

/-- THE SECOND FORM's CARD OF 'postchaiselaw18.SpoolKeeps'. -/
def spoolKeepsUptoCard : Claim7 := { stood := { row := spoolKeepsUptoRow, standIns := [], harness := (true, "6b40e896d41b1c1bca85e5dbd518ba01c42d581b920f49a822491aa93570709d"), looks := false }, kinds := [], alts := [], laidByText := true, laidKinds := [.data, .data, .data, .data, .pinned], laidTests := true, laidLooks := .later }
def SpoolKeepsUptoCardSaid : Prop := Claim7.holds Tryz.pinned (.plain (OpenSpec.upto spoolKeepsSpec)) spoolKeepsUptoCard

/-- THE SECOND FORM's CARD OF 'postchaiselaw18.SpoolNumbers'. -/
def spoolNumbersUptoCard : Claim7 := { stood := { row := spoolNumbersUptoRow, standIns := [], harness := (true, "6b40e896d41b1c1bca85e5dbd518ba01c42d581b920f49a822491aa93570709d"), looks := false }, kinds := [], alts := [], laidByText := true, laidKinds := [.data, .data, .data, .data, .pinned], laidTests := true, laidLooks := .later }
def SpoolNumbersUptoCardSaid : Prop := Claim7.holds Tryz.pinned (.plain (OpenSpec.upto spoolNumbersSpec)) spoolNumbersUptoCard

/-- THE SECOND FORM's CARD OF 'postchaiselaw18.SpoolCrash'. -/
def spoolCrashUptoCard : Claim7 := { stood := { row := spoolCrashUptoRow, standIns := [], harness := (true, "6b40e896d41b1c1bca85e5dbd518ba01c42d581b920f49a822491aa93570709d"), looks := false }, kinds := [], alts := [], laidByText := true, laidKinds := [.data, .data, .data, .data, .pinned], laidTests := true, laidLooks := .later }
def SpoolCrashUptoCardSaid : Prop := Claim7.holds Tryz.pinned (.plain (OpenSpec.upto spoolCrashSpec)) spoolCrashUptoCard

/-- THE SECOND FORM's CARD OF 'postchaiselaw18.SpoolOrder'. -/
def spoolOrderUptoCard : Claim7 := { stood := { row := spoolOrderUptoRow, standIns := [], harness := (true, "6b40e896d41b1c1bca85e5dbd518ba01c42d581b920f49a822491aa93570709d"), looks := false }, kinds := [], alts := [], laidByText := true, laidKinds := [.data, .data, .data, .data, .pinned], laidTests := true, laidLooks := .later }
def SpoolOrderUptoCardSaid : Prop := Claim7.holds Tryz.pinned (.plain (OpenSpec.upto spoolOrderSpec)) spoolOrderUptoCard
end Rows
end Go.Proofs.YtmilfamjkiemaaaGreatDoor
