/-
  DERIVED. GIVEN WITH THE SEED: THE CARDS: each row of YtanoohfhifhhaaaDoorRows.lean that lists a variable, with what it lists TIED to the program's text (the seventh form; the later family's looks); each row that meets fmt, with fmt's text TOLD by the authors' own Lean function (tested against real Go, not proved from fmt's source: count such statements apart). THE CARD IS WHAT COUNTS. Prove the row's statement (the work); the ties are given (YtanoohfhifhhaaaDoorTie.lean); close each card by the builder's one call (the guide's Derived/Test/ToyasCard.lean, 'card_holds'). Laid BY PROGRAM, IN A SANDBOX (cutbox-door.mjs). By AI agents, Wed Nov 11 2026. No macro, syntax, notation, axiom, sorry.
-/
import Derived.Test.YtanoohfhifhhaaaDoorRows
import GoSem.ClaimSeven
namespace Go.Proofs.YtanoohfhifhhaaaDoor
namespace Rows

/-- THE TIED CARD OF 'laws.FnChunks'. -/
def fnChunksCard : Claim7 := { stood := { row := fnChunksRow, standIns := [], harness := (true, "d465e7df455a925f7a909d6e725de8cd7aaef1aa28c5302a28b16dc4b10e8c4f"), looks := false }, kinds := [], alts := [], laidByText := true, laidKinds := [.data], laidTests := true, laidLooks := .later }
def FnChunksCardSaid : Prop := Claim7.holds Tryd.pinned (.plain (OpenSpec.ofChange fnChunksSpec)) fnChunksCard

/-- THE TIED CARD OF 'laws.FnChunkAt'. -/
def fnChunkAtCard : Claim7 := { stood := { row := fnChunkAtRow, standIns := [], harness := (true, "d465e7df455a925f7a909d6e725de8cd7aaef1aa28c5302a28b16dc4b10e8c4f"), looks := false }, kinds := [], alts := [], laidByText := true, laidKinds := [.data], laidTests := true, laidLooks := .later }
def FnChunkAtCardSaid : Prop := Claim7.holds Tryd.pinned (.plain (OpenSpec.ofChange fnChunkAtSpec)) fnChunkAtCard

/-- THE TIED CARD OF 'laws.FnDropped'. -/
def fnDroppedCard : Claim7 := { stood := { row := fnDroppedRow, standIns := [], harness := (true, "d465e7df455a925f7a909d6e725de8cd7aaef1aa28c5302a28b16dc4b10e8c4f"), looks := false }, kinds := [], alts := [], laidByText := true, laidKinds := [.data], laidTests := true, laidLooks := .later }
def FnDroppedCardSaid : Prop := Claim7.holds Tryd.pinned (.plain (OpenSpec.ofChange fnDroppedSpec)) fnDroppedCard

/-- THE TIED CARD OF 'laws.FnRechunked'. -/
def fnRechunkedCard : Claim7 := { stood := { row := fnRechunkedRow, standIns := [], harness := (true, "d465e7df455a925f7a909d6e725de8cd7aaef1aa28c5302a28b16dc4b10e8c4f"), looks := false }, kinds := [], alts := [], laidByText := true, laidKinds := [.data], laidTests := true, laidLooks := .later }
def FnRechunkedCardSaid : Prop := Claim7.holds Tryd.pinned (.plain (OpenSpec.ofChange fnRechunkedSpec)) fnRechunkedCard

/-- THE TIED CARD OF 'laws.FnDroppedTwice'. -/
def fnDroppedTwiceCard : Claim7 := { stood := { row := fnDroppedTwiceRow, standIns := [], harness := (true, "d465e7df455a925f7a909d6e725de8cd7aaef1aa28c5302a28b16dc4b10e8c4f"), looks := false }, kinds := [], alts := [], laidByText := true, laidKinds := [.data], laidTests := true, laidLooks := .later }
def FnDroppedTwiceCardSaid : Prop := Claim7.holds Tryd.pinned (.plain (OpenSpec.ofChange fnDroppedTwiceSpec)) fnDroppedTwiceCard

/-- THE TIED CARD OF 'laws.FnExactChunks'. -/
def fnExactChunksCard : Claim7 := { stood := { row := fnExactChunksRow, standIns := [], harness := (true, "d465e7df455a925f7a909d6e725de8cd7aaef1aa28c5302a28b16dc4b10e8c4f"), looks := false }, kinds := [], alts := [], laidByText := true, laidKinds := [.data], laidTests := true, laidLooks := .later }
def FnExactChunksCardSaid : Prop := Claim7.holds Tryd.pinned (.plain (OpenSpec.ofChange fnExactChunksSpec)) fnExactChunksCard

/-- THE TIED CARD OF 'laws.FnExactUnchunked'. -/
def fnExactUnchunkedCard : Claim7 := { stood := { row := fnExactUnchunkedRow, standIns := [], harness := (true, "d465e7df455a925f7a909d6e725de8cd7aaef1aa28c5302a28b16dc4b10e8c4f"), looks := false }, kinds := [], alts := [], laidByText := true, laidKinds := [.data], laidTests := true, laidLooks := .later }
def FnExactUnchunkedCardSaid : Prop := Claim7.holds Tryd.pinned (.plain (OpenSpec.ofChange fnExactUnchunkedSpec)) fnExactUnchunkedCard

/-- THE TIED CARD OF 'laws.FnExactChunkAt'. -/
def fnExactChunkAtCard : Claim7 := { stood := { row := fnExactChunkAtRow, standIns := [], harness := (true, "d465e7df455a925f7a909d6e725de8cd7aaef1aa28c5302a28b16dc4b10e8c4f"), looks := false }, kinds := [], alts := [], laidByText := true, laidKinds := [.data], laidTests := true, laidLooks := .later }
def FnExactChunkAtCardSaid : Prop := Claim7.holds Tryd.pinned (.plain (OpenSpec.ofChange fnExactChunkAtSpec)) fnExactChunkAtCard

/-- THE TIED CARD OF 'laws.FnExactDropChunks'. -/
def fnExactDropChunksCard : Claim7 := { stood := { row := fnExactDropChunksRow, standIns := [], harness := (true, "d465e7df455a925f7a909d6e725de8cd7aaef1aa28c5302a28b16dc4b10e8c4f"), looks := false }, kinds := [], alts := [], laidByText := true, laidKinds := [.data], laidTests := true, laidLooks := .later }
def FnExactDropChunksCardSaid : Prop := Claim7.holds Tryd.pinned (.plain (OpenSpec.ofChange fnExactDropChunksSpec)) fnExactDropChunksCard

/-- THE TIED CARD OF 'laws.FnExactRechunked'. -/
def fnExactRechunkedCard : Claim7 := { stood := { row := fnExactRechunkedRow, standIns := [], harness := (true, "d465e7df455a925f7a909d6e725de8cd7aaef1aa28c5302a28b16dc4b10e8c4f"), looks := false }, kinds := [], alts := [], laidByText := true, laidKinds := [.data], laidTests := true, laidLooks := .later }
def FnExactRechunkedCardSaid : Prop := Claim7.holds Tryd.pinned (.plain (OpenSpec.ofChange fnExactRechunkedSpec)) fnExactRechunkedCard

/-- THE SECOND FORM's CARD OF 'laws.FnChunks'. -/
def fnChunksUptoCard : Claim7 := { stood := { row := fnChunksUptoRow, standIns := [], harness := (true, "d465e7df455a925f7a909d6e725de8cd7aaef1aa28c5302a28b16dc4b10e8c4f"), looks := false }, kinds := [], alts := [], laidByText := true, laidKinds := [.data], laidTests := true, laidLooks := .later }
def FnChunksUptoCardSaid : Prop := Claim7.holds Tryd.pinned (.plain (OpenSpec.upto fnChunksSpec)) fnChunksUptoCard

/-- THE SECOND FORM's CARD OF 'laws.FnChunkAt'. -/
def fnChunkAtUptoCard : Claim7 := { stood := { row := fnChunkAtUptoRow, standIns := [], harness := (true, "d465e7df455a925f7a909d6e725de8cd7aaef1aa28c5302a28b16dc4b10e8c4f"), looks := false }, kinds := [], alts := [], laidByText := true, laidKinds := [.data], laidTests := true, laidLooks := .later }
def FnChunkAtUptoCardSaid : Prop := Claim7.holds Tryd.pinned (.plain (OpenSpec.upto fnChunkAtSpec)) fnChunkAtUptoCard

/-- THE SECOND FORM's CARD OF 'laws.FnDropped'. -/
def fnDroppedUptoCard : Claim7 := { stood := { row := fnDroppedUptoRow, standIns := [], harness := (true, "d465e7df455a925f7a909d6e725de8cd7aaef1aa28c5302a28b16dc4b10e8c4f"), looks := false }, kinds := [], alts := [], laidByText := true, laidKinds := [.data], laidTests := true, laidLooks := .later }
def FnDroppedUptoCardSaid : Prop := Claim7.holds Tryd.pinned (.plain (OpenSpec.upto fnDroppedSpec)) fnDroppedUptoCard

/-- THE SECOND FORM's CARD OF 'laws.FnRechunked'. -/
def fnRechunkedUptoCard : Claim7 := { stood := { row := fnRechunkedUptoRow, standIns := [], harness := (true, "d465e7df455a925f7a909d6e725de8cd7aaef1aa28c5302a28b16dc4b10e8c4f"), looks := false }, kinds := [], alts := [], laidByText := true, laidKinds := [.data], laidTests := true, laidLooks := .later }
def FnRechunkedUptoCardSaid : Prop := Claim7.holds Tryd.pinned (.plain (OpenSpec.upto fnRechunkedSpec)) fnRechunkedUptoCard

/-- THE SECOND FORM's CARD OF 'laws.FnDroppedTwice'. -/
def fnDroppedTwiceUptoCard : Claim7 := { stood := { row := fnDroppedTwiceUptoRow, standIns := [], harness := (true, "d465e7df455a925f7a909d6e725de8cd7aaef1aa28c5302a28b16dc4b10e8c4f"), looks := false }, kinds := [], alts := [], laidByText := true, laidKinds := [.data], laidTests := true, laidLooks := .later }
def FnDroppedTwiceUptoCardSaid : Prop := Claim7.holds Tryd.pinned (.plain (OpenSpec.upto fnDroppedTwiceSpec)) fnDroppedTwiceUptoCard

/-- THE SECOND FORM's CARD OF 'laws.FnExactChunks'. -/
def fnExactChunksUptoCard : Claim7 := { stood := { row := fnExactChunksUptoRow, standIns := [], harness := (true, "d465e7df455a925f7a909d6e725de8cd7aaef1aa28c5302a28b16dc4b10e8c4f"), looks := false }, kinds := [], alts := [], laidByText := true, laidKinds := [.data], laidTests := true, laidLooks := .later }
def FnExactChunksUptoCardSaid : Prop := Claim7.holds Tryd.pinned (.plain (OpenSpec.upto fnExactChunksSpec)) fnExactChunksUptoCard

/-- THE SECOND FORM's CARD OF 'laws.FnExactUnchunked'. -/
def fnExactUnchunkedUptoCard : Claim7 := { stood := { row := fnExactUnchunkedUptoRow, standIns := [], harness := (true, "d465e7df455a925f7a909d6e725de8cd7aaef1aa28c5302a28b16dc4b10e8c4f"), looks := false }, kinds := [], alts := [], laidByText := true, laidKinds := [.data], laidTests := true, laidLooks := .later }
def FnExactUnchunkedUptoCardSaid : Prop := Claim7.holds Tryd.pinned (.plain (OpenSpec.upto fnExactUnchunkedSpec)) fnExactUnchunkedUptoCard

/-- THE SECOND FORM's CARD OF 'laws.FnExactChunkAt'. -/
def fnExactChunkAtUptoCard : Claim7 := { stood := { row := fnExactChunkAtUptoRow, standIns := [], harness := (true, "d465e7df455a925f7a909d6e725de8cd7aaef1aa28c5302a28b16dc4b10e8c4f"), looks := false }, kinds := [], alts := [], laidByText := true, laidKinds := [.data], laidTests := true, laidLooks := .later }
def FnExactChunkAtUptoCardSaid : Prop := Claim7.holds Tryd.pinned (.plain (OpenSpec.upto fnExactChunkAtSpec)) fnExactChunkAtUptoCard

/-- THE SECOND FORM's CARD OF 'laws.FnExactDropChunks'. -/
def fnExactDropChunksUptoCard : Claim7 := { stood := { row := fnExactDropChunksUptoRow, standIns := [], harness := (true, "d465e7df455a925f7a909d6e725de8cd7aaef1aa28c5302a28b16dc4b10e8c4f"), looks := false }, kinds := [], alts := [], laidByText := true, laidKinds := [.data], laidTests := true, laidLooks := .later }
def FnExactDropChunksUptoCardSaid : Prop := Claim7.holds Tryd.pinned (.plain (OpenSpec.upto fnExactDropChunksSpec)) fnExactDropChunksUptoCard

/-- THE SECOND FORM's CARD OF 'laws.FnExactRechunked'. -/
def fnExactRechunkedUptoCard : Claim7 := { stood := { row := fnExactRechunkedUptoRow, standIns := [], harness := (true, "d465e7df455a925f7a909d6e725de8cd7aaef1aa28c5302a28b16dc4b10e8c4f"), looks := false }, kinds := [], alts := [], laidByText := true, laidKinds := [.data], laidTests := true, laidLooks := .later }
def FnExactRechunkedUptoCardSaid : Prop := Claim7.holds Tryd.pinned (.plain (OpenSpec.upto fnExactRechunkedSpec)) fnExactRechunkedUptoCard
end Rows
end Go.Proofs.YtanoohfhifhhaaaDoor
