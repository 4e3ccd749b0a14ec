/-
  DERIVED. GIVEN WITH THE SEED: THE CARDS: each row of YtgnjjbpfgokndaaDoorRows.lean that lists a variable, with what it lists TIED to the program's text (the seventh form; the later family's looks); each row that meets fmt, with fmt's text TOLD by the authors' own Lean function (tested against real Go, not proved from fmt's source: count such statements apart). THE CARD IS WHAT COUNTS. Prove the row's statement (the work); the ties are given (YtgnjjbpfgokndaaDoorTie.lean); close each card by the builder's one call (the guide's Derived/Test/ToyasCard.lean, 'card_holds'). Laid BY PROGRAM, IN A SANDBOX (cutbox-door.mjs). By AI agents, Wed Nov 11 2026. No macro, syntax, notation, axiom, sorry.
-/
import Derived.Test.YtgnjjbpfgokndaaDoorRows
import GoSem.ClaimSeven
namespace Go.Proofs.YtgnjjbpfgokndaaDoor
namespace Rows

/-- THE TIED CARD OF 'postchaiselaw10.CommandTexts'. -/
def commandTextsCard : Claim7 := { stood := { row := commandTextsRow, standIns := [], harness := (true, "5e8af3206b34151a08b6cef95fd9f97bd7e991295f4868fa13b64d2153c57bce"), looks := false }, kinds := [], alts := [], laidByText := true, laidKinds := [.data, .data, .data, .data, .pinned], laidTests := true, laidLooks := .later }
def CommandTextsCardSaid : Prop := Claim7.holds Tryd.pinned (.plain (OpenSpec.ofChange commandTextsSpec)) commandTextsCard

/-- THE TIED CARD OF 'postchaiselaw10.CommandParses'. -/
def commandParsesCard : Claim7 := { stood := { row := commandParsesRow, standIns := [], harness := (true, "5e8af3206b34151a08b6cef95fd9f97bd7e991295f4868fa13b64d2153c57bce"), looks := false }, kinds := [], alts := [], laidByText := true, laidKinds := [.data, .data, .data, .data, .pinned], laidTests := true, laidLooks := .later }
def CommandParsesCardSaid : Prop := Claim7.holds Tryd.pinned (.plain (OpenSpec.ofChange commandParsesSpec)) commandParsesCard

/-- THE TIED CARD OF 'postchaiselaw10.CommandBack'. -/
def commandBackCard : Claim7 := { stood := { row := commandBackRow, standIns := [], harness := (true, "5e8af3206b34151a08b6cef95fd9f97bd7e991295f4868fa13b64d2153c57bce"), looks := false }, kinds := [], alts := [], laidByText := true, laidKinds := [.data, .data, .data, .data, .pinned], laidTests := true, laidLooks := .later }
def CommandBackCardSaid : Prop := Claim7.holds Tryd.pinned (.plain (OpenSpec.ofChange commandBackSpec)) commandBackCard

/-- THE TIED CARD OF 'postchaiselaw10.CommandApart'. -/
def commandApartCard : Claim7 := { stood := { row := commandApartRow, standIns := [], harness := (true, "5e8af3206b34151a08b6cef95fd9f97bd7e991295f4868fa13b64d2153c57bce"), looks := false }, kinds := [], alts := [], laidByText := true, laidKinds := [.data, .data, .data, .data, .pinned], laidTests := true, laidLooks := .later }
def CommandApartCardSaid : Prop := Claim7.holds Tryd.pinned (.plain (OpenSpec.ofChange commandApartSpec)) commandApartCard

/-- THE TIED CARD OF 'postchaiselaw10.CommandShort'. -/
def commandShortCard : Claim7 := { stood := { row := commandShortRow, standIns := [], harness := (true, "5e8af3206b34151a08b6cef95fd9f97bd7e991295f4868fa13b64d2153c57bce"), looks := false }, kinds := [], alts := [], laidByText := true, laidKinds := [.data, .data, .data, .data, .pinned], laidTests := true, laidLooks := .later }
def CommandShortCardSaid : Prop := Claim7.holds Tryd.pinned (.plain (OpenSpec.ofChange commandShortSpec)) commandShortCard

/-- THE SECOND FORM's CARD OF 'postchaiselaw10.CommandTexts'. -/
def commandTextsUptoCard : Claim7 := { stood := { row := commandTextsUptoRow, standIns := [], harness := (true, "5e8af3206b34151a08b6cef95fd9f97bd7e991295f4868fa13b64d2153c57bce"), looks := false }, kinds := [], alts := [], laidByText := true, laidKinds := [.data, .data, .data, .data, .pinned], laidTests := true, laidLooks := .later }
def CommandTextsUptoCardSaid : Prop := Claim7.holds Tryd.pinned (.plain (OpenSpec.upto commandTextsSpec)) commandTextsUptoCard

/-- THE SECOND FORM's CARD OF 'postchaiselaw10.CommandParses'. -/
def commandParsesUptoCard : Claim7 := { stood := { row := commandParsesUptoRow, standIns := [], harness := (true, "5e8af3206b34151a08b6cef95fd9f97bd7e991295f4868fa13b64d2153c57bce"), looks := false }, kinds := [], alts := [], laidByText := true, laidKinds := [.data, .data, .data, .data, .pinned], laidTests := true, laidLooks := .later }
def CommandParsesUptoCardSaid : Prop := Claim7.holds Tryd.pinned (.plain (OpenSpec.upto commandParsesSpec)) commandParsesUptoCard

/-- THE SECOND FORM's CARD OF 'postchaiselaw10.CommandBack'. -/
def commandBackUptoCard : Claim7 := { stood := { row := commandBackUptoRow, standIns := [], harness := (true, "5e8af3206b34151a08b6cef95fd9f97bd7e991295f4868fa13b64d2153c57bce"), looks := false }, kinds := [], alts := [], laidByText := true, laidKinds := [.data, .data, .data, .data, .pinned], laidTests := true, laidLooks := .later }
def CommandBackUptoCardSaid : Prop := Claim7.holds Tryd.pinned (.plain (OpenSpec.upto commandBackSpec)) commandBackUptoCard

/-- THE SECOND FORM's CARD OF 'postchaiselaw10.CommandApart'. -/
def commandApartUptoCard : Claim7 := { stood := { row := commandApartUptoRow, standIns := [], harness := (true, "5e8af3206b34151a08b6cef95fd9f97bd7e991295f4868fa13b64d2153c57bce"), looks := false }, kinds := [], alts := [], laidByText := true, laidKinds := [.data, .data, .data, .data, .pinned], laidTests := true, laidLooks := .later }
def CommandApartUptoCardSaid : Prop := Claim7.holds Tryd.pinned (.plain (OpenSpec.upto commandApartSpec)) commandApartUptoCard

/-- THE SECOND FORM's CARD OF 'postchaiselaw10.CommandShort'. -/
def commandShortUptoCard : Claim7 := { stood := { row := commandShortUptoRow, standIns := [], harness := (true, "5e8af3206b34151a08b6cef95fd9f97bd7e991295f4868fa13b64d2153c57bce"), looks := false }, kinds := [], alts := [], laidByText := true, laidKinds := [.data, .data, .data, .data, .pinned], laidTests := true, laidLooks := .later }
def CommandShortUptoCardSaid : Prop := Claim7.holds Tryd.pinned (.plain (OpenSpec.upto commandShortSpec)) commandShortUptoCard
end Rows
end Go.Proofs.YtgnjjbpfgokndaaDoor
