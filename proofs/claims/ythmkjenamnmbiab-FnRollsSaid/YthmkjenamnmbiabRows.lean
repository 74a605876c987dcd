/-
  No cell of these rows narrows 'for every input' (looked for: loops, veiled, ifaces, maps, wideKeys, modest, calm, conditions, laid).
  DERIVED. THE GIVEN ROWS OF THIS SEAT. 12 by the template 'for every input the law returns true; each argument reads behind the call as it read before'; 0 by the template 'total and deterministic' (their statements: YthmkjenamnmbiabTotals.lean).
  GIVEN WITH THE SEED: the statements are not yours to turn. If you find one false, say at which input.
  Laid BY PROGRAM, IN A SANDBOX (cutbox-rows.mjs): the forced cells as the released guide's own fill.sh prints them over the translation 1c15ea6be145bdb4… (all of the seat's roots in one cut). By AI agents, Wed Nov 11 2026. No macro, syntax, notation, axiom, sorry.
-/
import Derived.Test.YthmkjenamnmbiabChecked
import GoSem.Claim
import GoSem.ClaimJoined
import GoSem.ClaimMapViews
import Derived.JoinedTies
import Derived.KernelRfl
namespace Go.Proofs.Ythmkjenamnmbiab
/- THE CELL 'sum', in the pinned program and in every row, IS THE sha256 OF THE DUMP (.gsa) THAT YthmkjenamnmbiabProg.lean LOADS. Nothing in Lean hashes anything: it is a label: what it is worth is what the hold of that sum in a sandbox is worth. -/
noncomputable def Try.pinned : Pinned := { name := "ythmkjenamnmbiab", sum := "1c15ea6be145bdb45f127373b279b4d0915053491e08738a860eedff5f28b59e", checked := Try.checked }
namespace Rows
def none {H : Type} : Left H := { results := [], args := [] }

/-- 'laws.FnExactRollsOk': WHATEVER THE INPUT: true; the input reads as it did. -/
def fnExactRollsOkSpec : ChangeSpec := { name := "fnExactRollsOk", fn := fun _ => fun
  | [d1, d2] => { results := [.lit (.bool true)], args := [d1, d2] }
  | _ => none }
def fnExactRollsOkRow : OpenClaim := { program := "ythmkjenamnmbiab", sum := "1c15ea6be145bdb45f127373b279b4d0915053491e08738a860eedff5f28b59e", func := "loop.example/g00617/laws.FnExactRollsOk", spec := "fnExactRollsOk", apart := false }
def FnExactRollsOkSaid : Prop := fnExactRollsOkRow.holds Try.pinned (OpenSpec.ofChange fnExactRollsOkSpec)

/-- ITS FALSE NEIGHBOUR: 'it returns false'. Refute it at one input. -/
def fnExactRollsOkWrong : ChangeSpec := { name := "fnExactRollsOk", fn := fun _ => fun
  | [d1, d2] => { results := [.lit (.bool false)], args := [d1, d2] }
  | _ => none }
def FnExactRollsOkWrongFalsely : Prop := fnExactRollsOkRow.holds Try.pinned (OpenSpec.ofChange fnExactRollsOkWrong)

/-- 'laws.FnExactRollsOf': WHATEVER THE INPUT: true; the input reads as it did. -/
def fnExactRollsOfSpec : ChangeSpec := { name := "fnExactRollsOf", fn := fun _ => fun
  | [d1, d2] => { results := [.lit (.bool true)], args := [d1, d2] }
  | _ => none }
def fnExactRollsOfRow : OpenClaim := { program := "ythmkjenamnmbiab", sum := "1c15ea6be145bdb45f127373b279b4d0915053491e08738a860eedff5f28b59e", func := "loop.example/g00617/laws.FnExactRollsOf", spec := "fnExactRollsOf", unfollowed := true, recurses := true, apart := false }
def FnExactRollsOfSaid : Prop := fnExactRollsOfRow.holds Try.pinned (OpenSpec.ofChange fnExactRollsOfSpec)

/-- ITS FALSE NEIGHBOUR: 'it returns false'. Refute it at one input. -/
def fnExactRollsOfWrong : ChangeSpec := { name := "fnExactRollsOf", fn := fun _ => fun
  | [d1, d2] => { results := [.lit (.bool false)], args := [d1, d2] }
  | _ => none }
def FnExactRollsOfWrongFalsely : Prop := fnExactRollsOfRow.holds Try.pinned (OpenSpec.ofChange fnExactRollsOfWrong)

/-- 'laws.FnExactCoarser': WHATEVER THE INPUT: true; the input reads as it did. -/
def fnExactCoarserSpec : ChangeSpec := { name := "fnExactCoarser", fn := fun _ => fun
  | [d1, d2, d3] => { results := [.lit (.bool true)], args := [d1, d2, d3] }
  | _ => none }
def fnExactCoarserRow : OpenClaim := { program := "ythmkjenamnmbiab", sum := "1c15ea6be145bdb45f127373b279b4d0915053491e08738a860eedff5f28b59e", func := "loop.example/g00617/laws.FnExactCoarser", spec := "fnExactCoarser", unfollowed := true, recurses := true, apart := false }
def FnExactCoarserSaid : Prop := fnExactCoarserRow.holds Try.pinned (OpenSpec.ofChange fnExactCoarserSpec)

/-- ITS FALSE NEIGHBOUR: 'it returns false'. Refute it at one input. -/
def fnExactCoarserWrong : ChangeSpec := { name := "fnExactCoarser", fn := fun _ => fun
  | [d1, d2, d3] => { results := [.lit (.bool false)], args := [d1, d2, d3] }
  | _ => none }
def FnExactCoarserWrongFalsely : Prop := fnExactCoarserRow.holds Try.pinned (OpenSpec.ofChange fnExactCoarserWrong)

/-- 'laws.FnExactBetween': WHATEVER THE INPUT: true; the input reads as it did. -/
def fnExactBetweenSpec : ChangeSpec := { name := "fnExactBetween", fn := fun _ => fun
  | [d1, d2, d3] => { results := [.lit (.bool true)], args := [d1, d2, d3] }
  | _ => none }
def fnExactBetweenRow : OpenClaim := { program := "ythmkjenamnmbiab", sum := "1c15ea6be145bdb45f127373b279b4d0915053491e08738a860eedff5f28b59e", func := "loop.example/g00617/laws.FnExactBetween", spec := "fnExactBetween", apart := false }
def FnExactBetweenSaid : Prop := fnExactBetweenRow.holds Try.pinned (OpenSpec.ofChange fnExactBetweenSpec)

/-- ITS FALSE NEIGHBOUR: 'it returns false'. Refute it at one input. -/
def fnExactBetweenWrong : ChangeSpec := { name := "fnExactBetween", fn := fun _ => fun
  | [d1, d2, d3] => { results := [.lit (.bool false)], args := [d1, d2, d3] }
  | _ => none }
def FnExactBetweenWrongFalsely : Prop := fnExactBetweenRow.holds Try.pinned (OpenSpec.ofChange fnExactBetweenWrong)

/-- 'laws.FnExactMerged': WHATEVER THE INPUT: true; the input reads as it did. -/
def fnExactMergedSpec : ChangeSpec := { name := "fnExactMerged", fn := fun _ => fun
  | [d1, d2] => { results := [.lit (.bool true)], args := [d1, d2] }
  | _ => none }
def fnExactMergedRow : OpenClaim := { program := "ythmkjenamnmbiab", sum := "1c15ea6be145bdb45f127373b279b4d0915053491e08738a860eedff5f28b59e", func := "loop.example/g00617/laws.FnExactMerged", spec := "fnExactMerged", unfollowed := true, recurses := true, apart := false }
def FnExactMergedSaid : Prop := fnExactMergedRow.holds Try.pinned (OpenSpec.ofChange fnExactMergedSpec)

/-- ITS FALSE NEIGHBOUR: 'it returns false'. Refute it at one input. -/
def fnExactMergedWrong : ChangeSpec := { name := "fnExactMerged", fn := fun _ => fun
  | [d1, d2] => { results := [.lit (.bool false)], args := [d1, d2] }
  | _ => none }
def FnExactMergedWrongFalsely : Prop := fnExactMergedRow.holds Try.pinned (OpenSpec.ofChange fnExactMergedWrong)

/-- 'laws.FnRolls': WHATEVER THE INPUT: true; the input reads as it did. -/
def fnRollsSpec : ChangeSpec := { name := "fnRolls", fn := fun _ => fun
  | [d] => { results := [.lit (.bool true)], args := [d] }
  | _ => none }
def fnRollsRow : OpenClaim := { program := "ythmkjenamnmbiab", sum := "1c15ea6be145bdb45f127373b279b4d0915053491e08738a860eedff5f28b59e", func := "loop.example/g00617/laws.FnRolls", spec := "fnRolls", unfollowed := true, recurses := true, apart := false }
def FnRollsSaid : Prop := fnRollsRow.holds Try.pinned (OpenSpec.ofChange fnRollsSpec)

/-- ITS FALSE NEIGHBOUR: 'it returns false'. Refute it at one input. -/
def fnRollsWrong : ChangeSpec := { name := "fnRolls", fn := fun _ => fun
  | [d] => { results := [.lit (.bool false)], args := [d] }
  | _ => none }
def FnRollsWrongFalsely : Prop := fnRollsRow.holds Try.pinned (OpenSpec.ofChange fnRollsWrong)

/-- 'laws.FnCoarser': WHATEVER THE INPUT: true; the input reads as it did. -/
def fnCoarserSpec : ChangeSpec := { name := "fnCoarser", fn := fun _ => fun
  | [d] => { results := [.lit (.bool true)], args := [d] }
  | _ => none }
def fnCoarserRow : OpenClaim := { program := "ythmkjenamnmbiab", sum := "1c15ea6be145bdb45f127373b279b4d0915053491e08738a860eedff5f28b59e", func := "loop.example/g00617/laws.FnCoarser", spec := "fnCoarser", unfollowed := true, recurses := true, apart := false }
def FnCoarserSaid : Prop := fnCoarserRow.holds Try.pinned (OpenSpec.ofChange fnCoarserSpec)

/-- ITS FALSE NEIGHBOUR: 'it returns false'. Refute it at one input. -/
def fnCoarserWrong : ChangeSpec := { name := "fnCoarser", fn := fun _ => fun
  | [d] => { results := [.lit (.bool false)], args := [d] }
  | _ => none }
def FnCoarserWrongFalsely : Prop := fnCoarserRow.holds Try.pinned (OpenSpec.ofChange fnCoarserWrong)

/-- 'laws.FnBetween': WHATEVER THE INPUT: true; the input reads as it did. -/
def fnBetweenSpec : ChangeSpec := { name := "fnBetween", fn := fun _ => fun
  | [d] => { results := [.lit (.bool true)], args := [d] }
  | _ => none }
def fnBetweenRow : OpenClaim := { program := "ythmkjenamnmbiab", sum := "1c15ea6be145bdb45f127373b279b4d0915053491e08738a860eedff5f28b59e", func := "loop.example/g00617/laws.FnBetween", spec := "fnBetween", apart := false }
def FnBetweenSaid : Prop := fnBetweenRow.holds Try.pinned (OpenSpec.ofChange fnBetweenSpec)

/-- ITS FALSE NEIGHBOUR: 'it returns false'. Refute it at one input. -/
def fnBetweenWrong : ChangeSpec := { name := "fnBetween", fn := fun _ => fun
  | [d] => { results := [.lit (.bool false)], args := [d] }
  | _ => none }
def FnBetweenWrongFalsely : Prop := fnBetweenRow.holds Try.pinned (OpenSpec.ofChange fnBetweenWrong)

/-- 'laws.FnMerged': WHATEVER THE INPUT: true; the input reads as it did. -/
def fnMergedSpec : ChangeSpec := { name := "fnMerged", fn := fun _ => fun
  | [d] => { results := [.lit (.bool true)], args := [d] }
  | _ => none }
def fnMergedRow : OpenClaim := { program := "ythmkjenamnmbiab", sum := "1c15ea6be145bdb45f127373b279b4d0915053491e08738a860eedff5f28b59e", func := "loop.example/g00617/laws.FnMerged", spec := "fnMerged", unfollowed := true, recurses := true, apart := false }
def FnMergedSaid : Prop := fnMergedRow.holds Try.pinned (OpenSpec.ofChange fnMergedSpec)

/-- ITS FALSE NEIGHBOUR: 'it returns false'. Refute it at one input. -/
def fnMergedWrong : ChangeSpec := { name := "fnMerged", fn := fun _ => fun
  | [d] => { results := [.lit (.bool false)], args := [d] }
  | _ => none }
def FnMergedWrongFalsely : Prop := fnMergedRow.holds Try.pinned (OpenSpec.ofChange fnMergedWrong)

/-- 'laws.FnRollPieces': WHATEVER THE INPUT: true; the input reads as it did. -/
def fnRollPiecesSpec : ChangeSpec := { name := "fnRollPieces", fn := fun _ => fun
  | [d] => { results := [.lit (.bool true)], args := [d] }
  | _ => none }
def fnRollPiecesRow : OpenClaim := { program := "ythmkjenamnmbiab", sum := "1c15ea6be145bdb45f127373b279b4d0915053491e08738a860eedff5f28b59e", func := "loop.example/g00617/laws.FnRollPieces", spec := "fnRollPieces", unfollowed := true, recurses := true, apart := false }
def FnRollPiecesSaid : Prop := fnRollPiecesRow.holds Try.pinned (OpenSpec.ofChange fnRollPiecesSpec)

/-- ITS FALSE NEIGHBOUR: 'it returns false'. Refute it at one input. -/
def fnRollPiecesWrong : ChangeSpec := { name := "fnRollPieces", fn := fun _ => fun
  | [d] => { results := [.lit (.bool false)], args := [d] }
  | _ => none }
def FnRollPiecesWrongFalsely : Prop := fnRollPiecesRow.holds Try.pinned (OpenSpec.ofChange fnRollPiecesWrong)

/-- 'laws.FnExactCascadeNew': WHATEVER THE INPUT: true; the input reads as it did. -/
def fnExactCascadeNewSpec : ChangeSpec := { name := "fnExactCascadeNew", fn := fun _ => fun
  | [d1, d2, d3] => { results := [.lit (.bool true)], args := [d1, d2, d3] }
  | _ => none }
def fnExactCascadeNewRow : OpenClaim := { program := "ythmkjenamnmbiab", sum := "1c15ea6be145bdb45f127373b279b4d0915053491e08738a860eedff5f28b59e", func := "loop.example/g00617/laws.FnExactCascadeNew", spec := "fnExactCascadeNew", unfollowed := true, recurses := true, apart := false }
def FnExactCascadeNewSaid : Prop := fnExactCascadeNewRow.holds Try.pinned (OpenSpec.ofChange fnExactCascadeNewSpec)

/-- ITS FALSE NEIGHBOUR: 'it returns false'. Refute it at one input. -/
def fnExactCascadeNewWrong : ChangeSpec := { name := "fnExactCascadeNew", fn := fun _ => fun
  | [d1, d2, d3] => { results := [.lit (.bool false)], args := [d1, d2, d3] }
  | _ => none }
def FnExactCascadeNewWrongFalsely : Prop := fnExactCascadeNewRow.holds Try.pinned (OpenSpec.ofChange fnExactCascadeNewWrong)

/-- 'laws.FnExactCascadeOk': WHATEVER THE INPUT: true; the input reads as it did. -/
def fnExactCascadeOkSpec : ChangeSpec := { name := "fnExactCascadeOk", fn := fun _ => fun
  | [d] => { results := [.lit (.bool true)], args := [d] }
  | _ => none }
def fnExactCascadeOkRow : OpenClaim := { program := "ythmkjenamnmbiab", sum := "1c15ea6be145bdb45f127373b279b4d0915053491e08738a860eedff5f28b59e", func := "loop.example/g00617/laws.FnExactCascadeOk", spec := "fnExactCascadeOk", unfollowed := true, recurses := true, apart := false }
def FnExactCascadeOkSaid : Prop := fnExactCascadeOkRow.holds Try.pinned (OpenSpec.ofChange fnExactCascadeOkSpec)

/-- ITS FALSE NEIGHBOUR: 'it returns false'. Refute it at one input. -/
def fnExactCascadeOkWrong : ChangeSpec := { name := "fnExactCascadeOk", fn := fun _ => fun
  | [d] => { results := [.lit (.bool false)], args := [d] }
  | _ => none }
def FnExactCascadeOkWrongFalsely : Prop := fnExactCascadeOkRow.holds Try.pinned (OpenSpec.ofChange fnExactCascadeOkWrong)

/- THE SECOND FORM. 'bulk': how many values and letters a reading holds, each counted each time it is reached (what is shared counts as often as it is met; a slice's spare places count too). A statement '..UptoSaid' is the law's where the arguments, and the package variables that the reading takes, are together of bulk at most 1048576: NARROWER than '..Said'. Prove '..Said' where nothing that the law and all that it calls make is longer than what came in: it says more and counts as full. Else prove '..UptoSaid'. A law counts once. -/
mutual
def uptoBulk {H : Type} : DataW H → Nat
  | .lit (.string bytes) => bytes.length + 1
  | .lit _ => 1
  | .nil => 1
  | .ptr d => uptoBulk d + 1
  | .slice elems spare => uptoBulkAll elems + uptoBulkAll spare + 1
  | .agg parts => uptoBulkAll parts + 1
  | .iface _ d => uptoBulk d + 1
  | .map entries => uptoBulkEntries entries + 1
  | .held _ => 1
def uptoBulkAll {H : Type} : List (DataW H) → Nat
  | [] => 0
  | d :: r => uptoBulk d + uptoBulkAll r
def uptoBulkEntries {H : Type} : List (Lit × DataW H) → Nat
  | [] => 0
  | x :: r => uptoBulkEntry x + uptoBulkEntries r
def uptoBulkEntry {H : Type} : Lit × DataW H → Nat
  | (.string bytes, d) => bytes.length + uptoBulk d + 1
  | (_, d) => uptoBulk d + 1
 end
def uptoSmall : (H : Type) → List (DataW H) → Bool := fun _ ds => decide (uptoBulkAll ds ≤ 1048576)
def OpenSpec.upto (s : _root_.Go.ChangeSpec) : _root_.Go.OpenSpec := { _root_.Go.OpenSpec.ofChange s with cond := some uptoSmall }

/-- 'laws.FnExactRollsOk', WHERE WHAT IT READS IS OF BULK AT MOST 1048576: true; the input reads as it did. -/
def fnExactRollsOkUptoRow : OpenClaim := { program := "ythmkjenamnmbiab", sum := "1c15ea6be145bdb45f127373b279b4d0915053491e08738a860eedff5f28b59e", func := "loop.example/g00617/laws.FnExactRollsOk", spec := "fnExactRollsOk", apart := false, narrowed := true }
def FnExactRollsOkUptoSaid : Prop := fnExactRollsOkUptoRow.holds Try.pinned (OpenSpec.upto fnExactRollsOkSpec)

/-- 'laws.FnExactRollsOf', WHERE WHAT IT READS IS OF BULK AT MOST 1048576: true; the input reads as it did. -/
def fnExactRollsOfUptoRow : OpenClaim := { program := "ythmkjenamnmbiab", sum := "1c15ea6be145bdb45f127373b279b4d0915053491e08738a860eedff5f28b59e", func := "loop.example/g00617/laws.FnExactRollsOf", spec := "fnExactRollsOf", unfollowed := true, recurses := true, apart := false, narrowed := true }
def FnExactRollsOfUptoSaid : Prop := fnExactRollsOfUptoRow.holds Try.pinned (OpenSpec.upto fnExactRollsOfSpec)

/-- 'laws.FnExactCoarser', WHERE WHAT IT READS IS OF BULK AT MOST 1048576: true; the input reads as it did. -/
def fnExactCoarserUptoRow : OpenClaim := { program := "ythmkjenamnmbiab", sum := "1c15ea6be145bdb45f127373b279b4d0915053491e08738a860eedff5f28b59e", func := "loop.example/g00617/laws.FnExactCoarser", spec := "fnExactCoarser", unfollowed := true, recurses := true, apart := false, narrowed := true }
def FnExactCoarserUptoSaid : Prop := fnExactCoarserUptoRow.holds Try.pinned (OpenSpec.upto fnExactCoarserSpec)

/-- 'laws.FnExactBetween', WHERE WHAT IT READS IS OF BULK AT MOST 1048576: true; the input reads as it did. -/
def fnExactBetweenUptoRow : OpenClaim := { program := "ythmkjenamnmbiab", sum := "1c15ea6be145bdb45f127373b279b4d0915053491e08738a860eedff5f28b59e", func := "loop.example/g00617/laws.FnExactBetween", spec := "fnExactBetween", apart := false, narrowed := true }
def FnExactBetweenUptoSaid : Prop := fnExactBetweenUptoRow.holds Try.pinned (OpenSpec.upto fnExactBetweenSpec)

/-- 'laws.FnExactMerged', WHERE WHAT IT READS IS OF BULK AT MOST 1048576: true; the input reads as it did. -/
def fnExactMergedUptoRow : OpenClaim := { program := "ythmkjenamnmbiab", sum := "1c15ea6be145bdb45f127373b279b4d0915053491e08738a860eedff5f28b59e", func := "loop.example/g00617/laws.FnExactMerged", spec := "fnExactMerged", unfollowed := true, recurses := true, apart := false, narrowed := true }
def FnExactMergedUptoSaid : Prop := fnExactMergedUptoRow.holds Try.pinned (OpenSpec.upto fnExactMergedSpec)

/-- 'laws.FnRolls', WHERE WHAT IT READS IS OF BULK AT MOST 1048576: true; the input reads as it did. -/
def fnRollsUptoRow : OpenClaim := { program := "ythmkjenamnmbiab", sum := "1c15ea6be145bdb45f127373b279b4d0915053491e08738a860eedff5f28b59e", func := "loop.example/g00617/laws.FnRolls", spec := "fnRolls", unfollowed := true, recurses := true, apart := false, narrowed := true }
def FnRollsUptoSaid : Prop := fnRollsUptoRow.holds Try.pinned (OpenSpec.upto fnRollsSpec)

/-- 'laws.FnCoarser', WHERE WHAT IT READS IS OF BULK AT MOST 1048576: true; the input reads as it did. -/
def fnCoarserUptoRow : OpenClaim := { program := "ythmkjenamnmbiab", sum := "1c15ea6be145bdb45f127373b279b4d0915053491e08738a860eedff5f28b59e", func := "loop.example/g00617/laws.FnCoarser", spec := "fnCoarser", unfollowed := true, recurses := true, apart := false, narrowed := true }
def FnCoarserUptoSaid : Prop := fnCoarserUptoRow.holds Try.pinned (OpenSpec.upto fnCoarserSpec)

/-- 'laws.FnBetween', WHERE WHAT IT READS IS OF BULK AT MOST 1048576: true; the input reads as it did. -/
def fnBetweenUptoRow : OpenClaim := { program := "ythmkjenamnmbiab", sum := "1c15ea6be145bdb45f127373b279b4d0915053491e08738a860eedff5f28b59e", func := "loop.example/g00617/laws.FnBetween", spec := "fnBetween", apart := false, narrowed := true }
def FnBetweenUptoSaid : Prop := fnBetweenUptoRow.holds Try.pinned (OpenSpec.upto fnBetweenSpec)

/-- 'laws.FnMerged', WHERE WHAT IT READS IS OF BULK AT MOST 1048576: true; the input reads as it did. -/
def fnMergedUptoRow : OpenClaim := { program := "ythmkjenamnmbiab", sum := "1c15ea6be145bdb45f127373b279b4d0915053491e08738a860eedff5f28b59e", func := "loop.example/g00617/laws.FnMerged", spec := "fnMerged", unfollowed := true, recurses := true, apart := false, narrowed := true }
def FnMergedUptoSaid : Prop := fnMergedUptoRow.holds Try.pinned (OpenSpec.upto fnMergedSpec)

/-- 'laws.FnRollPieces', WHERE WHAT IT READS IS OF BULK AT MOST 1048576: true; the input reads as it did. -/
def fnRollPiecesUptoRow : OpenClaim := { program := "ythmkjenamnmbiab", sum := "1c15ea6be145bdb45f127373b279b4d0915053491e08738a860eedff5f28b59e", func := "loop.example/g00617/laws.FnRollPieces", spec := "fnRollPieces", unfollowed := true, recurses := true, apart := false, narrowed := true }
def FnRollPiecesUptoSaid : Prop := fnRollPiecesUptoRow.holds Try.pinned (OpenSpec.upto fnRollPiecesSpec)

/-- 'laws.FnExactCascadeNew', WHERE WHAT IT READS IS OF BULK AT MOST 1048576: true; the input reads as it did. -/
def fnExactCascadeNewUptoRow : OpenClaim := { program := "ythmkjenamnmbiab", sum := "1c15ea6be145bdb45f127373b279b4d0915053491e08738a860eedff5f28b59e", func := "loop.example/g00617/laws.FnExactCascadeNew", spec := "fnExactCascadeNew", unfollowed := true, recurses := true, apart := false, narrowed := true }
def FnExactCascadeNewUptoSaid : Prop := fnExactCascadeNewUptoRow.holds Try.pinned (OpenSpec.upto fnExactCascadeNewSpec)

/-- 'laws.FnExactCascadeOk', WHERE WHAT IT READS IS OF BULK AT MOST 1048576: true; the input reads as it did. -/
def fnExactCascadeOkUptoRow : OpenClaim := { program := "ythmkjenamnmbiab", sum := "1c15ea6be145bdb45f127373b279b4d0915053491e08738a860eedff5f28b59e", func := "loop.example/g00617/laws.FnExactCascadeOk", spec := "fnExactCascadeOk", unfollowed := true, recurses := true, apart := false, narrowed := true }
def FnExactCascadeOkUptoSaid : Prop := fnExactCascadeOkUptoRow.holds Try.pinned (OpenSpec.upto fnExactCascadeOkSpec)

end Rows
end Go.Proofs.Ythmkjenamnmbiab
