/-
  DERIVED. GIVEN WITH THE SEED: THE CARDS: each row of YtldjeacpkndcbaaGreatDoorRows.lean that lists a variable, with what it lists TIED to the program's text (the seventh form; the later family's looks); each row that meets fmt, with fmt's text TOLD by the authors' own Lean function (tested against real Go, not proved from fmt's source: count such statements apart). THE CARD IS WHAT COUNTS. Prove the row's statement (the work); the ties are given (YtldjeacpkndcbaaGreatDoorTie.lean); close each card by the builder's one call (the guide's Derived/Test/ToyasCard.lean, 'card_holds'). Laid BY PROGRAM, IN A SANDBOX (cutbox-door.mjs). By AI agents, Wed Nov 11 2026. No macro, syntax, notation, axiom, sorry.
-/
import Derived.Test.YtldjeacpkndcbaaGreatDoorRows
import GoSem.ClaimSeven
namespace Go.Proofs.YtldjeacpkndcbaaGreatDoor
namespace Rows

/-- THE TIED CARD OF 'laws.FnBlockTexts'. -/
def fnBlockTextsCard : Claim7 := { stood := { row := fnBlockTextsRow, standIns := [], harness := (true, "73969bf3b3e641c2692d41578efabe6912558e58c6ced5b63292781b2a7f7d2f"), looks := false }, kinds := [], alts := [], laidByText := true, laidKinds := [.data], laidTests := true, laidLooks := .later }
def FnBlockTextsCardSaid : Prop := Claim7.holds Tryz.pinned (.plain (OpenSpec.ofChange fnBlockTextsSpec)) fnBlockTextsCard

/-- THE TIED CARD OF 'laws.FnOneBit'. -/
def fnOneBitCard : Claim7 := { stood := { row := fnOneBitRow, standIns := [], harness := (true, "73969bf3b3e641c2692d41578efabe6912558e58c6ced5b63292781b2a7f7d2f"), looks := false }, kinds := [], alts := [], laidByText := true, laidKinds := [.data], laidTests := true, laidLooks := .later }
def FnOneBitCardSaid : Prop := Claim7.holds Tryz.pinned (.plain (OpenSpec.ofChange fnOneBitSpec)) fnOneBitCard

/-- THE SECOND FORM's CARD OF 'laws.FnBlockTexts'. -/
def fnBlockTextsUptoCard : Claim7 := { stood := { row := fnBlockTextsUptoRow, standIns := [], harness := (true, "73969bf3b3e641c2692d41578efabe6912558e58c6ced5b63292781b2a7f7d2f"), looks := false }, kinds := [], alts := [], laidByText := true, laidKinds := [.data], laidTests := true, laidLooks := .later }
def FnBlockTextsUptoCardSaid : Prop := Claim7.holds Tryz.pinned (.plain (OpenSpec.upto fnBlockTextsSpec)) fnBlockTextsUptoCard

/-- THE SECOND FORM's CARD OF 'laws.FnOneBit'. -/
def fnOneBitUptoCard : Claim7 := { stood := { row := fnOneBitUptoRow, standIns := [], harness := (true, "73969bf3b3e641c2692d41578efabe6912558e58c6ced5b63292781b2a7f7d2f"), looks := false }, kinds := [], alts := [], laidByText := true, laidKinds := [.data], laidTests := true, laidLooks := .later }
def FnOneBitUptoCardSaid : Prop := Claim7.holds Tryz.pinned (.plain (OpenSpec.upto fnOneBitSpec)) fnOneBitUptoCard
end Rows
end Go.Proofs.YtldjeacpkndcbaaGreatDoor
