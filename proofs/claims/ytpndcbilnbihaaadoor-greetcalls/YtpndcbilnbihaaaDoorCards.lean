/-
  DERIVED. GIVEN WITH THE SEED: THE CARDS: each row of YtpndcbilnbihaaaDoorRows.lean that lists a variable, with what it lists TIED to the program's text (the seventh form; the later family's looks); each row that meets fmt, with fmt's text TOLD by the authors' own Lean function (tested against real Go, not proved from fmt's source: count such statements apart). THE CARD IS WHAT COUNTS. Prove the row's statement (the work); the ties are given (YtpndcbilnbihaaaDoorTie.lean); close each card by the builder's one call (the guide's Derived/Test/ToyasCard.lean, 'card_holds'). Laid BY PROGRAM, IN A SANDBOX (cutbox-door.mjs). By AI agents, Wed Nov 11 2026. No macro, syntax, notation, axiom, sorry.
-/
import Derived.Test.YtpndcbilnbihaaaDoorRows
import GoSem.ClaimSeven
namespace Go.Proofs.YtpndcbilnbihaaaDoor
namespace Rows

/-- THE TIED CARD OF 'postchaiselaw09.GreetCalls'. -/
def greetCallsCard : Claim7 := { stood := { row := greetCallsRow, standIns := [], harness := (true, "4fb97f69a34200cfa1195a183d1e660f5a5c60ab89befe44886922f6ef41d3ca"), looks := false }, kinds := [], alts := [], laidByText := true, laidKinds := [.data, .data, .data], laidTests := true, laidLooks := .later }
def GreetCallsCardSaid : Prop := Claim7.holds Tryd.pinned (.plain (OpenSpec.ofChange greetCallsSpec)) greetCallsCard

/-- THE TIED CARD OF 'postchaiselaw09.GreetReplies'. -/
def greetRepliesCard : Claim7 := { stood := { row := greetRepliesRow, standIns := [], harness := (true, "4fb97f69a34200cfa1195a183d1e660f5a5c60ab89befe44886922f6ef41d3ca"), looks := false }, kinds := [], alts := [], laidByText := true, laidKinds := [.data, .data, .data], laidTests := true, laidLooks := .later }
def GreetRepliesCardSaid : Prop := Claim7.holds Tryd.pinned (.plain (OpenSpec.ofChange greetRepliesSpec)) greetRepliesCard

/-- THE SECOND FORM's CARD OF 'postchaiselaw09.GreetCalls'. -/
def greetCallsUptoCard : Claim7 := { stood := { row := greetCallsUptoRow, standIns := [], harness := (true, "4fb97f69a34200cfa1195a183d1e660f5a5c60ab89befe44886922f6ef41d3ca"), looks := false }, kinds := [], alts := [], laidByText := true, laidKinds := [.data, .data, .data], laidTests := true, laidLooks := .later }
def GreetCallsUptoCardSaid : Prop := Claim7.holds Tryd.pinned (.plain (OpenSpec.upto greetCallsSpec)) greetCallsUptoCard

/-- THE SECOND FORM's CARD OF 'postchaiselaw09.GreetReplies'. -/
def greetRepliesUptoCard : Claim7 := { stood := { row := greetRepliesUptoRow, standIns := [], harness := (true, "4fb97f69a34200cfa1195a183d1e660f5a5c60ab89befe44886922f6ef41d3ca"), looks := false }, kinds := [], alts := [], laidByText := true, laidKinds := [.data, .data, .data], laidTests := true, laidLooks := .later }
def GreetRepliesUptoCardSaid : Prop := Claim7.holds Tryd.pinned (.plain (OpenSpec.upto greetRepliesSpec)) greetRepliesUptoCard
end Rows
end Go.Proofs.YtpndcbilnbihaaaDoor
