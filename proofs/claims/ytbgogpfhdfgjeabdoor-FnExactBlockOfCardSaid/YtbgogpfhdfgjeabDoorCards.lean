/-
  DERIVED. GIVEN WITH THE SEED: THE CARDS: each row of YtbgogpfhdfgjeabDoorRows.lean that lists a variable, with what it lists TIED to the program's text (the seventh form; the later family's looks); each row that meets fmt, with fmt's text TOLD by the authors' own Lean function (tested against real Go, not proved from fmt's source: count such statements apart). THE CARD IS WHAT COUNTS. Prove the row's statement (the work); the ties are given (YtbgogpfhdfgjeabDoorTie.lean); close each card by the builder's one call (the guide's Derived/Test/ToyasCard.lean, 'card_holds'). Laid BY PROGRAM, IN A SANDBOX (cutbox-door.mjs). By AI agents, Wed Nov 11 2026. No macro, syntax, notation, axiom, sorry.
-/
import Derived.Test.YtbgogpfhdfgjeabDoorRows
import GoSem.ClaimSeven
namespace Go.Proofs.YtbgogpfhdfgjeabDoor
namespace Rows

/-- THE TIED CARD OF 'laws.FnExactBlockOf'. -/
def fnExactBlockOfCard : Claim7 := { stood := { row := fnExactBlockOfRow, standIns := [], harness := (true, "55e64afe800f3fe350daa552e41441dfdf64b4153eabd240824fea2ae904c4d3"), looks := false }, kinds := [], alts := [], laidByText := true, laidKinds := [.data], laidTests := true, laidLooks := .later }
def FnExactBlockOfCardSaid : Prop := Claim7.holds Tryd.pinned (.plain (OpenSpec.ofChange fnExactBlockOfSpec)) fnExactBlockOfCard

/-- THE TIED CARD OF 'laws.FnExactPointsOf'. -/
def fnExactPointsOfCard : Claim7 := { stood := { row := fnExactPointsOfRow, standIns := [], harness := (true, "55e64afe800f3fe350daa552e41441dfdf64b4153eabd240824fea2ae904c4d3"), looks := false }, kinds := [], alts := [], laidByText := true, laidKinds := [.data], laidTests := true, laidLooks := .later }
def FnExactPointsOfCardSaid : Prop := Claim7.holds Tryd.pinned (.plain (OpenSpec.ofChange fnExactPointsOfSpec)) fnExactPointsOfCard

/-- THE TIED CARD OF 'laws.FnExactBlockText'. -/
def fnExactBlockTextCard : Claim7 := { stood := { row := fnExactBlockTextRow, standIns := [], harness := (true, "55e64afe800f3fe350daa552e41441dfdf64b4153eabd240824fea2ae904c4d3"), looks := false }, kinds := [], alts := [], laidByText := true, laidKinds := [.data], laidTests := true, laidLooks := .later }
def FnExactBlockTextCardSaid : Prop := Claim7.holds Tryd.pinned (.plain (OpenSpec.ofChange fnExactBlockTextSpec)) fnExactBlockTextCard

/-- THE TIED CARD OF 'laws.FnExactReadBlock'. -/
def fnExactReadBlockCard : Claim7 := { stood := { row := fnExactReadBlockRow, standIns := [], harness := (true, "55e64afe800f3fe350daa552e41441dfdf64b4153eabd240824fea2ae904c4d3"), looks := false }, kinds := [], alts := [], laidByText := true, laidKinds := [.data], laidTests := true, laidLooks := .later }
def FnExactReadBlockCardSaid : Prop := Claim7.holds Tryd.pinned (.plain (OpenSpec.ofChange fnExactReadBlockSpec)) fnExactReadBlockCard

/-- THE TIED CARD OF 'laws.FnExactReadLabels'. -/
def fnExactReadLabelsCard : Claim7 := { stood := { row := fnExactReadLabelsRow, standIns := [], harness := (true, "55e64afe800f3fe350daa552e41441dfdf64b4153eabd240824fea2ae904c4d3"), looks := false }, kinds := [], alts := [], laidByText := true, laidKinds := [.data, .pinned], laidTests := true, laidLooks := .later }
def FnExactReadLabelsCardSaid : Prop := Claim7.holds Tryd.pinned (.plain (OpenSpec.ofChange fnExactReadLabelsSpec)) fnExactReadLabelsCard

/-- THE SECOND FORM's CARD OF 'laws.FnExactBlockOf'. -/
def fnExactBlockOfUptoCard : Claim7 := { stood := { row := fnExactBlockOfUptoRow, standIns := [], harness := (true, "55e64afe800f3fe350daa552e41441dfdf64b4153eabd240824fea2ae904c4d3"), looks := false }, kinds := [], alts := [], laidByText := true, laidKinds := [.data], laidTests := true, laidLooks := .later }
def FnExactBlockOfUptoCardSaid : Prop := Claim7.holds Tryd.pinned (.plain (OpenSpec.upto fnExactBlockOfSpec)) fnExactBlockOfUptoCard

/-- THE SECOND FORM's CARD OF 'laws.FnExactPointsOf'. -/
def fnExactPointsOfUptoCard : Claim7 := { stood := { row := fnExactPointsOfUptoRow, standIns := [], harness := (true, "55e64afe800f3fe350daa552e41441dfdf64b4153eabd240824fea2ae904c4d3"), looks := false }, kinds := [], alts := [], laidByText := true, laidKinds := [.data], laidTests := true, laidLooks := .later }
def FnExactPointsOfUptoCardSaid : Prop := Claim7.holds Tryd.pinned (.plain (OpenSpec.upto fnExactPointsOfSpec)) fnExactPointsOfUptoCard

/-- THE SECOND FORM's CARD OF 'laws.FnExactBlockText'. -/
def fnExactBlockTextUptoCard : Claim7 := { stood := { row := fnExactBlockTextUptoRow, standIns := [], harness := (true, "55e64afe800f3fe350daa552e41441dfdf64b4153eabd240824fea2ae904c4d3"), looks := false }, kinds := [], alts := [], laidByText := true, laidKinds := [.data], laidTests := true, laidLooks := .later }
def FnExactBlockTextUptoCardSaid : Prop := Claim7.holds Tryd.pinned (.plain (OpenSpec.upto fnExactBlockTextSpec)) fnExactBlockTextUptoCard

/-- THE SECOND FORM's CARD OF 'laws.FnExactReadBlock'. -/
def fnExactReadBlockUptoCard : Claim7 := { stood := { row := fnExactReadBlockUptoRow, standIns := [], harness := (true, "55e64afe800f3fe350daa552e41441dfdf64b4153eabd240824fea2ae904c4d3"), looks := false }, kinds := [], alts := [], laidByText := true, laidKinds := [.data], laidTests := true, laidLooks := .later }
def FnExactReadBlockUptoCardSaid : Prop := Claim7.holds Tryd.pinned (.plain (OpenSpec.upto fnExactReadBlockSpec)) fnExactReadBlockUptoCard

/-- THE SECOND FORM's CARD OF 'laws.FnExactReadLabels'. -/
def fnExactReadLabelsUptoCard : Claim7 := { stood := { row := fnExactReadLabelsUptoRow, standIns := [], harness := (true, "55e64afe800f3fe350daa552e41441dfdf64b4153eabd240824fea2ae904c4d3"), looks := false }, kinds := [], alts := [], laidByText := true, laidKinds := [.data, .pinned], laidTests := true, laidLooks := .later }
def FnExactReadLabelsUptoCardSaid : Prop := Claim7.holds Tryd.pinned (.plain (OpenSpec.upto fnExactReadLabelsSpec)) fnExactReadLabelsUptoCard
end Rows
end Go.Proofs.YtbgogpfhdfgjeabDoor
