/-
  DERIVED. GIVEN WITH THE SEED: THE CARDS: each row of YtpnfkmhhilnglaaDoorRows.lean that lists a variable, with what it lists TIED to the program's text (the seventh form; the later family's looks); each row that meets fmt, with fmt's text TOLD by the authors' own Lean function (tested against real Go, not proved from fmt's source: count such statements apart). THE CARD IS WHAT COUNTS. Prove the row's statement (the work); the ties are given (YtpnfkmhhilnglaaDoorTie.lean); close each card by the builder's one call (the guide's Derived/Test/ToyasCard.lean, 'card_holds'). Laid BY PROGRAM, IN A SANDBOX (cutbox-door.mjs). By AI agents, Wed Nov 11 2026. No macro, syntax, notation, axiom, sorry.
-/
import Derived.Test.YtpnfkmhhilnglaaDoorRows
import GoSem.ClaimSeven
namespace Go.Proofs.YtpnfkmhhilnglaaDoor
namespace Rows

/-- THE TIED CARD OF 'laws.FnExactValuesBits'. -/
def fnExactValuesBitsCard : Claim7 := { stood := { row := fnExactValuesBitsRow, standIns := [], harness := (true, "75c6d0b342f8e35bb374105a7bdb5beec1f7c26f3d01e331beb7725879dd3b1e"), looks := false }, kinds := [], alts := [], laidByText := true, laidKinds := [.data], laidTests := true, laidLooks := .later }
def FnExactValuesBitsCardSaid : Prop := Claim7.holds Tryd.pinned (.plain (OpenSpec.ofChange fnExactValuesBitsSpec)) fnExactValuesBitsCard

/-- THE SECOND FORM's CARD OF 'laws.FnExactValuesBits'. -/
def fnExactValuesBitsUptoCard : Claim7 := { stood := { row := fnExactValuesBitsUptoRow, standIns := [], harness := (true, "75c6d0b342f8e35bb374105a7bdb5beec1f7c26f3d01e331beb7725879dd3b1e"), looks := false }, kinds := [], alts := [], laidByText := true, laidKinds := [.data], laidTests := true, laidLooks := .later }
def FnExactValuesBitsUptoCardSaid : Prop := Claim7.holds Tryd.pinned (.plain (OpenSpec.upto fnExactValuesBitsSpec)) fnExactValuesBitsUptoCard
end Rows
end Go.Proofs.YtpnfkmhhilnglaaDoor
