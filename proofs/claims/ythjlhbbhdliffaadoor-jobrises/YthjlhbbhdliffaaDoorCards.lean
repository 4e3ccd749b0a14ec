/-
  DERIVED. GIVEN WITH THE SEED: THE CARDS: each row of YthjlhbbhdliffaaDoorRows.lean that lists a variable, with what it lists TIED to the program's text (the seventh form; the later family's looks); each row that meets fmt, with fmt's text TOLD by the authors' own Lean function (tested against real Go, not proved from fmt's source: count such statements apart). THE CARD IS WHAT COUNTS. Prove the row's statement (the work); the ties are given (YthjlhbbhdliffaaDoorTie.lean); close each card by the builder's one call (the guide's Derived/Test/ToyasCard.lean, 'card_holds'). Laid BY PROGRAM, IN A SANDBOX (cutbox-door.mjs). By AI agents, Wed Nov 11 2026. No macro, syntax, notation, axiom, sorry.
-/
import Derived.Test.YthjlhbbhdliffaaDoorRows
import GoSem.ClaimSeven
namespace Go.Proofs.YthjlhbbhdliffaaDoor
namespace Rows

/-- THE TIED CARD OF 'postchaiselaw05.JobTexts'. -/
def jobTextsCard : Claim7 := { stood := { row := jobTextsRow, standIns := [], harness := (true, "1151f26ec9e032138f3520bbd2c3e7fc32ebea76e344a7afc4c93ad9f861f8d7"), looks := false }, kinds := [], alts := [], laidByText := true, laidKinds := [.data, .data, .data, .data, .pinned], laidTests := true, laidLooks := .later }
def JobTextsCardSaid : Prop := Claim7.holds Tryd.pinned (.plain (OpenSpec.ofChange jobTextsSpec)) jobTextsCard

/-- THE TIED CARD OF 'postchaiselaw05.JobParses'. -/
def jobParsesCard : Claim7 := { stood := { row := jobParsesRow, standIns := [], harness := (true, "1151f26ec9e032138f3520bbd2c3e7fc32ebea76e344a7afc4c93ad9f861f8d7"), looks := false }, kinds := [], alts := [], laidByText := true, laidKinds := [.data, .data, .data, .data, .pinned], laidTests := true, laidLooks := .later }
def JobParsesCardSaid : Prop := Claim7.holds Tryd.pinned (.plain (OpenSpec.ofChange jobParsesSpec)) jobParsesCard

/-- THE TIED CARD OF 'postchaiselaw05.JobBack'. -/
def jobBackCard : Claim7 := { stood := { row := jobBackRow, standIns := [], harness := (true, "1151f26ec9e032138f3520bbd2c3e7fc32ebea76e344a7afc4c93ad9f861f8d7"), looks := false }, kinds := [], alts := [], laidByText := true, laidKinds := [.data, .data, .data, .data, .pinned], laidTests := true, laidLooks := .later }
def JobBackCardSaid : Prop := Claim7.holds Tryd.pinned (.plain (OpenSpec.ofChange jobBackSpec)) jobBackCard

/-- THE TIED CARD OF 'postchaiselaw05.JobApart'. -/
def jobApartCard : Claim7 := { stood := { row := jobApartRow, standIns := [], harness := (true, "1151f26ec9e032138f3520bbd2c3e7fc32ebea76e344a7afc4c93ad9f861f8d7"), looks := false }, kinds := [], alts := [], laidByText := true, laidKinds := [.data, .data, .data, .data, .pinned], laidTests := true, laidLooks := .later }
def JobApartCardSaid : Prop := Claim7.holds Tryd.pinned (.plain (OpenSpec.ofChange jobApartSpec)) jobApartCard

/-- THE TIED CARD OF 'postchaiselaw05.JobRises'. -/
def jobRisesCard : Claim7 := { stood := { row := jobRisesRow, standIns := [], harness := (true, "1151f26ec9e032138f3520bbd2c3e7fc32ebea76e344a7afc4c93ad9f861f8d7"), looks := false }, kinds := [], alts := [], laidByText := true, laidKinds := [.data, .data, .data, .data, .pinned], laidTests := true, laidLooks := .later }
def JobRisesCardSaid : Prop := Claim7.holds Tryd.pinned (.plain (OpenSpec.ofChange jobRisesSpec)) jobRisesCard

/-- THE SECOND FORM's CARD OF 'postchaiselaw05.JobTexts'. -/
def jobTextsUptoCard : Claim7 := { stood := { row := jobTextsUptoRow, standIns := [], harness := (true, "1151f26ec9e032138f3520bbd2c3e7fc32ebea76e344a7afc4c93ad9f861f8d7"), looks := false }, kinds := [], alts := [], laidByText := true, laidKinds := [.data, .data, .data, .data, .pinned], laidTests := true, laidLooks := .later }
def JobTextsUptoCardSaid : Prop := Claim7.holds Tryd.pinned (.plain (OpenSpec.upto jobTextsSpec)) jobTextsUptoCard

/-- THE SECOND FORM's CARD OF 'postchaiselaw05.JobParses'. -/
def jobParsesUptoCard : Claim7 := { stood := { row := jobParsesUptoRow, standIns := [], harness := (true, "1151f26ec9e032138f3520bbd2c3e7fc32ebea76e344a7afc4c93ad9f861f8d7"), looks := false }, kinds := [], alts := [], laidByText := true, laidKinds := [.data, .data, .data, .data, .pinned], laidTests := true, laidLooks := .later }
def JobParsesUptoCardSaid : Prop := Claim7.holds Tryd.pinned (.plain (OpenSpec.upto jobParsesSpec)) jobParsesUptoCard

/-- THE SECOND FORM's CARD OF 'postchaiselaw05.JobBack'. -/
def jobBackUptoCard : Claim7 := { stood := { row := jobBackUptoRow, standIns := [], harness := (true, "1151f26ec9e032138f3520bbd2c3e7fc32ebea76e344a7afc4c93ad9f861f8d7"), looks := false }, kinds := [], alts := [], laidByText := true, laidKinds := [.data, .data, .data, .data, .pinned], laidTests := true, laidLooks := .later }
def JobBackUptoCardSaid : Prop := Claim7.holds Tryd.pinned (.plain (OpenSpec.upto jobBackSpec)) jobBackUptoCard

/-- THE SECOND FORM's CARD OF 'postchaiselaw05.JobApart'. -/
def jobApartUptoCard : Claim7 := { stood := { row := jobApartUptoRow, standIns := [], harness := (true, "1151f26ec9e032138f3520bbd2c3e7fc32ebea76e344a7afc4c93ad9f861f8d7"), looks := false }, kinds := [], alts := [], laidByText := true, laidKinds := [.data, .data, .data, .data, .pinned], laidTests := true, laidLooks := .later }
def JobApartUptoCardSaid : Prop := Claim7.holds Tryd.pinned (.plain (OpenSpec.upto jobApartSpec)) jobApartUptoCard

/-- THE SECOND FORM's CARD OF 'postchaiselaw05.JobRises'. -/
def jobRisesUptoCard : Claim7 := { stood := { row := jobRisesUptoRow, standIns := [], harness := (true, "1151f26ec9e032138f3520bbd2c3e7fc32ebea76e344a7afc4c93ad9f861f8d7"), looks := false }, kinds := [], alts := [], laidByText := true, laidKinds := [.data, .data, .data, .data, .pinned], laidTests := true, laidLooks := .later }
def JobRisesUptoCardSaid : Prop := Claim7.holds Tryd.pinned (.plain (OpenSpec.upto jobRisesSpec)) jobRisesUptoCard
end Rows
end Go.Proofs.YthjlhbbhdliffaaDoor
