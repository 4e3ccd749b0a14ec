/-
  DERIVED. GIVEN WITH THE SEED: THE CARDS: each row of YtkenkbhafgjlhaaDoorRows.lean that lists a variable, with what it lists TIED to the program's text (the seventh form; the later family's looks); each row that meets fmt, with fmt's text TOLD by the authors' own Lean function (tested against real Go, not proved from fmt's source: count such statements apart). THE CARD IS WHAT COUNTS. Prove the row's statement (the work); the ties are given (YtkenkbhafgjlhaaDoorTie.lean); close each card by the builder's one call (the guide's Derived/Test/ToyasCard.lean, 'card_holds'). Laid BY PROGRAM, IN A SANDBOX (cutbox-door.mjs). By AI agents, Wed Nov 11 2026. No macro, syntax, notation, axiom, sorry.
-/
import Derived.Test.YtkenkbhafgjlhaaDoorRows
import GoSem.ClaimSeven
namespace Go.Proofs.YtkenkbhafgjlhaaDoor
namespace Rows

/-- THE TIED CARD OF 'postchaiselaw03.NameSystems'. -/
def nameSystemsCard : Claim7 := { stood := { row := nameSystemsRow, standIns := [], harness := (true, "c315e9c2570ef7db374566ebb62a0434e172b606978a87feffbc0a7c38e5005f"), looks := false }, kinds := [], alts := [], laidByText := true, laidKinds := [.data, .data, .data], laidTests := true, laidLooks := .later }
def NameSystemsCardSaid : Prop := Claim7.holds Tryd.pinned (.plain (OpenSpec.ofChange nameSystemsSpec)) nameSystemsCard

/-- THE TIED CARD OF 'postchaiselaw03.NameIds'. -/
def nameIdsCard : Claim7 := { stood := { row := nameIdsRow, standIns := [], harness := (true, "c315e9c2570ef7db374566ebb62a0434e172b606978a87feffbc0a7c38e5005f"), looks := false }, kinds := [], alts := [], laidByText := true, laidKinds := [.data, .data, .data], laidTests := true, laidLooks := .later }
def NameIdsCardSaid : Prop := Claim7.holds Tryd.pinned (.plain (OpenSpec.ofChange nameIdsSpec)) nameIdsCard

/-- THE TIED CARD OF 'postchaiselaw03.NameFiles'. -/
def nameFilesCard : Claim7 := { stood := { row := nameFilesRow, standIns := [], harness := (true, "c315e9c2570ef7db374566ebb62a0434e172b606978a87feffbc0a7c38e5005f"), looks := false }, kinds := [], alts := [], laidByText := true, laidKinds := [.data, .data, .data], laidTests := true, laidLooks := .later }
def NameFilesCardSaid : Prop := Claim7.holds Tryd.pinned (.plain (OpenSpec.ofChange nameFilesSpec)) nameFilesCard

/-- THE TIED CARD OF 'postchaiselaw03.NameReads'. -/
def nameReadsCard : Claim7 := { stood := { row := nameReadsRow, standIns := [], harness := (true, "c315e9c2570ef7db374566ebb62a0434e172b606978a87feffbc0a7c38e5005f"), looks := false }, kinds := [], alts := [], laidByText := true, laidKinds := [.data, .data, .data], laidTests := true, laidLooks := .later }
def NameReadsCardSaid : Prop := Claim7.holds Tryd.pinned (.plain (OpenSpec.ofChange nameReadsSpec)) nameReadsCard

/-- THE TIED CARD OF 'postchaiselaw03.NameBack'. -/
def nameBackCard : Claim7 := { stood := { row := nameBackRow, standIns := [], harness := (true, "c315e9c2570ef7db374566ebb62a0434e172b606978a87feffbc0a7c38e5005f"), looks := false }, kinds := [], alts := [], laidByText := true, laidKinds := [.data, .data, .data], laidTests := true, laidLooks := .later }
def NameBackCardSaid : Prop := Claim7.holds Tryd.pinned (.plain (OpenSpec.ofChange nameBackSpec)) nameBackCard

/-- THE TIED CARD OF 'postchaiselaw03.NameOnce'. -/
def nameOnceCard : Claim7 := { stood := { row := nameOnceRow, standIns := [], harness := (true, "c315e9c2570ef7db374566ebb62a0434e172b606978a87feffbc0a7c38e5005f"), looks := false }, kinds := [], alts := [], laidByText := true, laidKinds := [.data, .data, .data], laidTests := true, laidLooks := .later }
def NameOnceCardSaid : Prop := Claim7.holds Tryd.pinned (.plain (OpenSpec.ofChange nameOnceSpec)) nameOnceCard

/-- THE SECOND FORM's CARD OF 'postchaiselaw03.NameSystems'. -/
def nameSystemsUptoCard : Claim7 := { stood := { row := nameSystemsUptoRow, standIns := [], harness := (true, "c315e9c2570ef7db374566ebb62a0434e172b606978a87feffbc0a7c38e5005f"), looks := false }, kinds := [], alts := [], laidByText := true, laidKinds := [.data, .data, .data], laidTests := true, laidLooks := .later }
def NameSystemsUptoCardSaid : Prop := Claim7.holds Tryd.pinned (.plain (OpenSpec.upto nameSystemsSpec)) nameSystemsUptoCard

/-- THE SECOND FORM's CARD OF 'postchaiselaw03.NameIds'. -/
def nameIdsUptoCard : Claim7 := { stood := { row := nameIdsUptoRow, standIns := [], harness := (true, "c315e9c2570ef7db374566ebb62a0434e172b606978a87feffbc0a7c38e5005f"), looks := false }, kinds := [], alts := [], laidByText := true, laidKinds := [.data, .data, .data], laidTests := true, laidLooks := .later }
def NameIdsUptoCardSaid : Prop := Claim7.holds Tryd.pinned (.plain (OpenSpec.upto nameIdsSpec)) nameIdsUptoCard

/-- THE SECOND FORM's CARD OF 'postchaiselaw03.NameFiles'. -/
def nameFilesUptoCard : Claim7 := { stood := { row := nameFilesUptoRow, standIns := [], harness := (true, "c315e9c2570ef7db374566ebb62a0434e172b606978a87feffbc0a7c38e5005f"), looks := false }, kinds := [], alts := [], laidByText := true, laidKinds := [.data, .data, .data], laidTests := true, laidLooks := .later }
def NameFilesUptoCardSaid : Prop := Claim7.holds Tryd.pinned (.plain (OpenSpec.upto nameFilesSpec)) nameFilesUptoCard

/-- THE SECOND FORM's CARD OF 'postchaiselaw03.NameReads'. -/
def nameReadsUptoCard : Claim7 := { stood := { row := nameReadsUptoRow, standIns := [], harness := (true, "c315e9c2570ef7db374566ebb62a0434e172b606978a87feffbc0a7c38e5005f"), looks := false }, kinds := [], alts := [], laidByText := true, laidKinds := [.data, .data, .data], laidTests := true, laidLooks := .later }
def NameReadsUptoCardSaid : Prop := Claim7.holds Tryd.pinned (.plain (OpenSpec.upto nameReadsSpec)) nameReadsUptoCard

/-- THE SECOND FORM's CARD OF 'postchaiselaw03.NameBack'. -/
def nameBackUptoCard : Claim7 := { stood := { row := nameBackUptoRow, standIns := [], harness := (true, "c315e9c2570ef7db374566ebb62a0434e172b606978a87feffbc0a7c38e5005f"), looks := false }, kinds := [], alts := [], laidByText := true, laidKinds := [.data, .data, .data], laidTests := true, laidLooks := .later }
def NameBackUptoCardSaid : Prop := Claim7.holds Tryd.pinned (.plain (OpenSpec.upto nameBackSpec)) nameBackUptoCard

/-- THE SECOND FORM's CARD OF 'postchaiselaw03.NameOnce'. -/
def nameOnceUptoCard : Claim7 := { stood := { row := nameOnceUptoRow, standIns := [], harness := (true, "c315e9c2570ef7db374566ebb62a0434e172b606978a87feffbc0a7c38e5005f"), looks := false }, kinds := [], alts := [], laidByText := true, laidKinds := [.data, .data, .data], laidTests := true, laidLooks := .later }
def NameOnceUptoCardSaid : Prop := Claim7.holds Tryd.pinned (.plain (OpenSpec.upto nameOnceSpec)) nameOnceUptoCard
end Rows
end Go.Proofs.YtkenkbhafgjlhaaDoor
