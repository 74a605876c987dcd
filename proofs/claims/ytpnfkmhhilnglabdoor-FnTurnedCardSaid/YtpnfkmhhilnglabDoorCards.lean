/-
  DERIVED. GIVEN WITH THE SEED: THE CARDS: each row of YtpnfkmhhilnglabDoorRows.lean that lists a variable, with what it lists TIED to the program's text (the seventh form; the later family's looks); each row that meets fmt, with fmt's text TOLD by the authors' own Lean function (tested against real Go, not proved from fmt's source: count such statements apart). THE CARD IS WHAT COUNTS. Prove the row's statement (the work); the ties are given (YtpnfkmhhilnglabDoorTie.lean); close each card by the builder's one call (the guide's Derived/Test/ToyasCard.lean, 'card_holds'). Laid BY PROGRAM, IN A SANDBOX (cutbox-door.mjs). By AI agents, Wed Nov 11 2026. No macro, syntax, notation, axiom, sorry.
-/
import Derived.Test.YtpnfkmhhilnglabDoorRows
import GoSem.ClaimSeven
namespace Go.Proofs.YtpnfkmhhilnglabDoor
namespace Rows

/-- THE TIED CARD OF 'laws.FnLead'. -/
def fnLeadCard : Claim7 := { stood := { row := fnLeadRow, standIns := [], harness := (true, "6b1a3703350a861235eb43e4f506140a240ccec74645731f3689c37ef4f7ba7f"), looks := false }, kinds := [], alts := [], laidByText := true, laidKinds := [.data], laidTests := true, laidLooks := .later }
def FnLeadCardSaid : Prop := Claim7.holds Tryd.pinned (.plain (OpenSpec.ofChange fnLeadSpec)) fnLeadCard

/-- THE TIED CARD OF 'laws.FnExactTrail'. -/
def fnExactTrailCard : Claim7 := { stood := { row := fnExactTrailRow, standIns := [], harness := (true, "6b1a3703350a861235eb43e4f506140a240ccec74645731f3689c37ef4f7ba7f"), looks := false }, kinds := [], alts := [], laidByText := true, laidKinds := [.data], laidTests := true, laidLooks := .later }
def FnExactTrailCardSaid : Prop := Claim7.holds Tryd.pinned (.plain (OpenSpec.ofChange fnExactTrailSpec)) fnExactTrailCard

/-- THE TIED CARD OF 'laws.FnValues'. -/
def fnValuesCard : Claim7 := { stood := { row := fnValuesRow, standIns := [], harness := (true, "6b1a3703350a861235eb43e4f506140a240ccec74645731f3689c37ef4f7ba7f"), looks := false }, kinds := [], alts := [], laidByText := true, laidKinds := [.data], laidTests := true, laidLooks := .later }
def FnValuesCardSaid : Prop := Claim7.holds Tryd.pinned (.plain (OpenSpec.ofChange fnValuesSpec)) fnValuesCard

/-- THE TIED CARD OF 'laws.FnTurned'. -/
def fnTurnedCard : Claim7 := { stood := { row := fnTurnedRow, standIns := [], harness := (true, "6b1a3703350a861235eb43e4f506140a240ccec74645731f3689c37ef4f7ba7f"), looks := false }, kinds := [], alts := [], laidByText := true, laidKinds := [.data], laidTests := true, laidLooks := .later }
def FnTurnedCardSaid : Prop := Claim7.holds Tryd.pinned (.plain (OpenSpec.ofChange fnTurnedSpec)) fnTurnedCard

/-- THE TIED CARD OF 'laws.FnExactReadValues'. -/
def fnExactReadValuesCard : Claim7 := { stood := { row := fnExactReadValuesRow, standIns := [], harness := (true, "6b1a3703350a861235eb43e4f506140a240ccec74645731f3689c37ef4f7ba7f"), looks := false }, kinds := [], alts := [], laidByText := true, laidKinds := [.data], laidTests := true, laidLooks := .later }
def FnExactReadValuesCardSaid : Prop := Claim7.holds Tryd.pinned (.plain (OpenSpec.ofChange fnExactReadValuesSpec)) fnExactReadValuesCard

/-- THE SECOND FORM's CARD OF 'laws.FnLead'. -/
def fnLeadUptoCard : Claim7 := { stood := { row := fnLeadUptoRow, standIns := [], harness := (true, "6b1a3703350a861235eb43e4f506140a240ccec74645731f3689c37ef4f7ba7f"), looks := false }, kinds := [], alts := [], laidByText := true, laidKinds := [.data], laidTests := true, laidLooks := .later }
def FnLeadUptoCardSaid : Prop := Claim7.holds Tryd.pinned (.plain (OpenSpec.upto fnLeadSpec)) fnLeadUptoCard

/-- THE SECOND FORM's CARD OF 'laws.FnExactTrail'. -/
def fnExactTrailUptoCard : Claim7 := { stood := { row := fnExactTrailUptoRow, standIns := [], harness := (true, "6b1a3703350a861235eb43e4f506140a240ccec74645731f3689c37ef4f7ba7f"), looks := false }, kinds := [], alts := [], laidByText := true, laidKinds := [.data], laidTests := true, laidLooks := .later }
def FnExactTrailUptoCardSaid : Prop := Claim7.holds Tryd.pinned (.plain (OpenSpec.upto fnExactTrailSpec)) fnExactTrailUptoCard

/-- THE SECOND FORM's CARD OF 'laws.FnValues'. -/
def fnValuesUptoCard : Claim7 := { stood := { row := fnValuesUptoRow, standIns := [], harness := (true, "6b1a3703350a861235eb43e4f506140a240ccec74645731f3689c37ef4f7ba7f"), looks := false }, kinds := [], alts := [], laidByText := true, laidKinds := [.data], laidTests := true, laidLooks := .later }
def FnValuesUptoCardSaid : Prop := Claim7.holds Tryd.pinned (.plain (OpenSpec.upto fnValuesSpec)) fnValuesUptoCard

/-- THE SECOND FORM's CARD OF 'laws.FnTurned'. -/
def fnTurnedUptoCard : Claim7 := { stood := { row := fnTurnedUptoRow, standIns := [], harness := (true, "6b1a3703350a861235eb43e4f506140a240ccec74645731f3689c37ef4f7ba7f"), looks := false }, kinds := [], alts := [], laidByText := true, laidKinds := [.data], laidTests := true, laidLooks := .later }
def FnTurnedUptoCardSaid : Prop := Claim7.holds Tryd.pinned (.plain (OpenSpec.upto fnTurnedSpec)) fnTurnedUptoCard

/-- THE SECOND FORM's CARD OF 'laws.FnExactReadValues'. -/
def fnExactReadValuesUptoCard : Claim7 := { stood := { row := fnExactReadValuesUptoRow, standIns := [], harness := (true, "6b1a3703350a861235eb43e4f506140a240ccec74645731f3689c37ef4f7ba7f"), looks := false }, kinds := [], alts := [], laidByText := true, laidKinds := [.data], laidTests := true, laidLooks := .later }
def FnExactReadValuesUptoCardSaid : Prop := Claim7.holds Tryd.pinned (.plain (OpenSpec.upto fnExactReadValuesSpec)) fnExactReadValuesUptoCard
end Rows
end Go.Proofs.YtpnfkmhhilnglabDoor
