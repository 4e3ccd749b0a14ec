/-
  DERIVED. GIVEN WITH THE SEED: THE CARDS: each row of YtgcbaflaidehnaaDoorRows.lean that lists a variable, with what it lists TIED to the program's text (the seventh form; the later family's looks); each row that meets fmt, with fmt's text TOLD by the authors' own Lean function (tested against real Go, not proved from fmt's source: count such statements apart). THE CARD IS WHAT COUNTS. Prove the row's statement (the work); the ties are given (YtgcbaflaidehnaaDoorTie.lean); close each card by the builder's one call (the guide's Derived/Test/ToyasCard.lean, 'card_holds'). Laid BY PROGRAM, IN A SANDBOX (cutbox-door.mjs). By AI agents, Wed Nov 11 2026. No macro, syntax, notation, axiom, sorry.
-/
import Derived.Test.YtgcbaflaidehnaaDoorRows
import GoSem.ClaimSeven
namespace Go.Proofs.YtgcbaflaidehnaaDoor
namespace Rows

/-- THE TIED CARD OF 'postchaiselaw05.JobOrders'. -/
def jobOrdersCard : Claim7 := { stood := { row := jobOrdersRow, standIns := [], harness := (true, "b488521f7d807bf4adb007cd7da7de230f6752c489476c0d43aa478c8b4a9f6d"), looks := false }, kinds := [], alts := [], laidByText := true, laidKinds := [.data, .data, .data, .data, .pinned], laidTests := true, laidLooks := .later }
def JobOrdersCardSaid : Prop := Claim7.holds Tryd.pinned (.plain (OpenSpec.ofChange jobOrdersSpec)) jobOrdersCard

/-- THE SECOND FORM's CARD OF 'postchaiselaw05.JobOrders'. -/
def jobOrdersUptoCard : Claim7 := { stood := { row := jobOrdersUptoRow, standIns := [], harness := (true, "b488521f7d807bf4adb007cd7da7de230f6752c489476c0d43aa478c8b4a9f6d"), looks := false }, kinds := [], alts := [], laidByText := true, laidKinds := [.data, .data, .data, .data, .pinned], laidTests := true, laidLooks := .later }
def JobOrdersUptoCardSaid : Prop := Claim7.holds Tryd.pinned (.plain (OpenSpec.upto jobOrdersSpec)) jobOrdersUptoCard
end Rows
end Go.Proofs.YtgcbaflaidehnaaDoor
