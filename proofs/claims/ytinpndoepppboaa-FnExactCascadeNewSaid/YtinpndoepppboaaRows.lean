/-
  No cell of these rows narrows 'for every input' (looked for: loops, veiled, ifaces, maps, wideKeys, modest, calm, conditions, laid).
  DERIVED. THE GIVEN ROWS OF THIS SEAT. 12 by the template 'for every input the law returns true; each argument reads behind the call as it read before'; 0 by the template 'total and deterministic' (their statements: YtinpndoepppboaaTotals.lean).
  GIVEN WITH THE SEED: the statements are not yours to turn. If you find one false, say at which input.
  Laid BY PROGRAM, IN A SANDBOX (cutbox-rows.mjs): the forced cells as the released guide's own fill.sh prints them over the translation 26cf8255b3ce8e92… (all of the seat's roots in one cut). By AI agents, Wed Nov 11 2026. No macro, syntax, notation, axiom, sorry.
-/
import Derived.Test.YtinpndoepppboaaChecked
import GoSem.Claim
import GoSem.ClaimJoined
import GoSem.ClaimMapViews
import Derived.JoinedTies
import Derived.KernelRfl
namespace Go.Proofs.Ytinpndoepppboaa
/- THE CELL 'sum', in the pinned program and in every row, IS THE sha256 OF THE DUMP (.gsa) THAT YtinpndoepppboaaProg.lean LOADS. Nothing in Lean hashes anything: it is a label: what it is worth is what the hold of that sum in a sandbox is worth. -/
noncomputable def Try.pinned : Pinned := { name := "ytinpndoepppboaa", sum := "26cf8255b3ce8e92928e9cee9c79fb7560de57971f7be4729a2a3fd783def44d", checked := Try.checked }
namespace Rows
def none {H : Type} : Left H := { results := [], args := [] }

/-- 'laws.FnExactIncrease': WHATEVER THE INPUT: true; the input reads as it did. -/
def fnExactIncreaseSpec : ChangeSpec := { name := "fnExactIncrease", fn := fun _ => fun
  | [d] => { results := [.lit (.bool true)], args := [d] }
  | _ => none }
def fnExactIncreaseRow : OpenClaim := { program := "ytinpndoepppboaa", sum := "26cf8255b3ce8e92928e9cee9c79fb7560de57971f7be4729a2a3fd783def44d", func := "loop.example/g00617/laws.FnExactIncrease", spec := "fnExactIncrease", apart := false }
def FnExactIncreaseSaid : Prop := fnExactIncreaseRow.holds Try.pinned (OpenSpec.ofChange fnExactIncreaseSpec)

/-- ITS FALSE NEIGHBOUR: 'it returns false'. Refute it at one input. -/
def fnExactIncreaseWrong : ChangeSpec := { name := "fnExactIncrease", fn := fun _ => fun
  | [d] => { results := [.lit (.bool false)], args := [d] }
  | _ => none }
def FnExactIncreaseWrongFalsely : Prop := fnExactIncreaseRow.holds Try.pinned (OpenSpec.ofChange fnExactIncreaseWrong)

/-- 'laws.FnIncrease': WHATEVER THE INPUT: true; the input reads as it did. -/
def fnIncreaseSpec : ChangeSpec := { name := "fnIncrease", fn := fun _ => fun
  | [d] => { results := [.lit (.bool true)], args := [d] }
  | _ => none }
def fnIncreaseRow : OpenClaim := { program := "ytinpndoepppboaa", sum := "26cf8255b3ce8e92928e9cee9c79fb7560de57971f7be4729a2a3fd783def44d", func := "loop.example/g00617/laws.FnIncrease", spec := "fnIncrease", apart := false }
def FnIncreaseSaid : Prop := fnIncreaseRow.holds Try.pinned (OpenSpec.ofChange fnIncreaseSpec)

/-- ITS FALSE NEIGHBOUR: 'it returns false'. Refute it at one input. -/
def fnIncreaseWrong : ChangeSpec := { name := "fnIncrease", fn := fun _ => fun
  | [d] => { results := [.lit (.bool false)], args := [d] }
  | _ => none }
def FnIncreaseWrongFalsely : Prop := fnIncreaseRow.holds Try.pinned (OpenSpec.ofChange fnIncreaseWrong)

/-- 'laws.FnExactRanked': WHATEVER THE INPUT: true; the input reads as it did. -/
def fnExactRankedSpec : ChangeSpec := { name := "fnExactRanked", fn := fun _ => fun
  | [d1, d2] => { results := [.lit (.bool true)], args := [d1, d2] }
  | _ => none }
def fnExactRankedRow : OpenClaim := { program := "ytinpndoepppboaa", sum := "26cf8255b3ce8e92928e9cee9c79fb7560de57971f7be4729a2a3fd783def44d", func := "loop.example/g00617/laws.FnExactRanked", spec := "fnExactRanked", unfollowed := true, recurses := true, apart := false }
def FnExactRankedSaid : Prop := fnExactRankedRow.holds Try.pinned (OpenSpec.ofChange fnExactRankedSpec)

/-- ITS FALSE NEIGHBOUR: 'it returns false'. Refute it at one input. -/
def fnExactRankedWrong : ChangeSpec := { name := "fnExactRanked", fn := fun _ => fun
  | [d1, d2] => { results := [.lit (.bool false)], args := [d1, d2] }
  | _ => none }
def FnExactRankedWrongFalsely : Prop := fnExactRankedRow.holds Try.pinned (OpenSpec.ofChange fnExactRankedWrong)

/-- 'laws.FnRanked': WHATEVER THE INPUT: true; the input reads as it did. -/
def fnRankedSpec : ChangeSpec := { name := "fnRanked", fn := fun _ => fun
  | [d] => { results := [.lit (.bool true)], args := [d] }
  | _ => none }
def fnRankedRow : OpenClaim := { program := "ytinpndoepppboaa", sum := "26cf8255b3ce8e92928e9cee9c79fb7560de57971f7be4729a2a3fd783def44d", func := "loop.example/g00617/laws.FnRanked", spec := "fnRanked", unfollowed := true, recurses := true, apart := false }
def FnRankedSaid : Prop := fnRankedRow.holds Try.pinned (OpenSpec.ofChange fnRankedSpec)

/-- ITS FALSE NEIGHBOUR: 'it returns false'. Refute it at one input. -/
def fnRankedWrong : ChangeSpec := { name := "fnRanked", fn := fun _ => fun
  | [d] => { results := [.lit (.bool false)], args := [d] }
  | _ => none }
def FnRankedWrongFalsely : Prop := fnRankedRow.holds Try.pinned (OpenSpec.ofChange fnRankedWrong)

/-- 'laws.FnExactMerged': WHATEVER THE INPUT: true; the input reads as it did. -/
def fnExactMergedSpec : ChangeSpec := { name := "fnExactMerged", fn := fun _ => fun
  | [d1, d2] => { results := [.lit (.bool true)], args := [d1, d2] }
  | _ => none }
def fnExactMergedRow : OpenClaim := { program := "ytinpndoepppboaa", sum := "26cf8255b3ce8e92928e9cee9c79fb7560de57971f7be4729a2a3fd783def44d", func := "loop.example/g00617/laws.FnExactMerged", spec := "fnExactMerged", unfollowed := true, recurses := true, apart := false }
def FnExactMergedSaid : Prop := fnExactMergedRow.holds Try.pinned (OpenSpec.ofChange fnExactMergedSpec)

/-- ITS FALSE NEIGHBOUR: 'it returns false'. Refute it at one input. -/
def fnExactMergedWrong : ChangeSpec := { name := "fnExactMerged", fn := fun _ => fun
  | [d1, d2] => { results := [.lit (.bool false)], args := [d1, d2] }
  | _ => none }
def FnExactMergedWrongFalsely : Prop := fnExactMergedRow.holds Try.pinned (OpenSpec.ofChange fnExactMergedWrong)

/-- 'laws.FnMerged': WHATEVER THE INPUT: true; the input reads as it did. -/
def fnMergedSpec : ChangeSpec := { name := "fnMerged", fn := fun _ => fun
  | [d] => { results := [.lit (.bool true)], args := [d] }
  | _ => none }
def fnMergedRow : OpenClaim := { program := "ytinpndoepppboaa", sum := "26cf8255b3ce8e92928e9cee9c79fb7560de57971f7be4729a2a3fd783def44d", func := "loop.example/g00617/laws.FnMerged", spec := "fnMerged", unfollowed := true, recurses := true, apart := false }
def FnMergedSaid : Prop := fnMergedRow.holds Try.pinned (OpenSpec.ofChange fnMergedSpec)

/-- ITS FALSE NEIGHBOUR: 'it returns false'. Refute it at one input. -/
def fnMergedWrong : ChangeSpec := { name := "fnMerged", fn := fun _ => fun
  | [d] => { results := [.lit (.bool false)], args := [d] }
  | _ => none }
def FnMergedWrongFalsely : Prop := fnMergedRow.holds Try.pinned (OpenSpec.ofChange fnMergedWrong)

/-- 'laws.FnExactAnd': WHATEVER THE INPUT: true; the input reads as it did. -/
def fnExactAndSpec : ChangeSpec := { name := "fnExactAnd", fn := fun _ => fun
  | [d1, d2] => { results := [.lit (.bool true)], args := [d1, d2] }
  | _ => none }
def fnExactAndRow : OpenClaim := { program := "ytinpndoepppboaa", sum := "26cf8255b3ce8e92928e9cee9c79fb7560de57971f7be4729a2a3fd783def44d", func := "loop.example/g00617/laws.FnExactAnd", spec := "fnExactAnd", inPlace := ["maps.clone"], unfollowed := true, recurses := true, apart := false }
def FnExactAndSaid : Prop := fnExactAndRow.holds Try.pinned (OpenSpec.ofChange fnExactAndSpec)

/-- ITS FALSE NEIGHBOUR: 'it returns false'. Refute it at one input. -/
def fnExactAndWrong : ChangeSpec := { name := "fnExactAnd", fn := fun _ => fun
  | [d1, d2] => { results := [.lit (.bool false)], args := [d1, d2] }
  | _ => none }
def FnExactAndWrongFalsely : Prop := fnExactAndRow.holds Try.pinned (OpenSpec.ofChange fnExactAndWrong)

/-- 'laws.FnExactOr': WHATEVER THE INPUT: true; the input reads as it did. -/
def fnExactOrSpec : ChangeSpec := { name := "fnExactOr", fn := fun _ => fun
  | [d1, d2] => { results := [.lit (.bool true)], args := [d1, d2] }
  | _ => none }
def fnExactOrRow : OpenClaim := { program := "ytinpndoepppboaa", sum := "26cf8255b3ce8e92928e9cee9c79fb7560de57971f7be4729a2a3fd783def44d", func := "loop.example/g00617/laws.FnExactOr", spec := "fnExactOr", inPlace := ["maps.clone"], unfollowed := true, recurses := true, apart := false }
def FnExactOrSaid : Prop := fnExactOrRow.holds Try.pinned (OpenSpec.ofChange fnExactOrSpec)

/-- ITS FALSE NEIGHBOUR: 'it returns false'. Refute it at one input. -/
def fnExactOrWrong : ChangeSpec := { name := "fnExactOr", fn := fun _ => fun
  | [d1, d2] => { results := [.lit (.bool false)], args := [d1, d2] }
  | _ => none }
def FnExactOrWrongFalsely : Prop := fnExactOrRow.holds Try.pinned (OpenSpec.ofChange fnExactOrWrong)

/-- 'laws.FnExactLess': WHATEVER THE INPUT: true; the input reads as it did. -/
def fnExactLessSpec : ChangeSpec := { name := "fnExactLess", fn := fun _ => fun
  | [d1, d2] => { results := [.lit (.bool true)], args := [d1, d2] }
  | _ => none }
def fnExactLessRow : OpenClaim := { program := "ytinpndoepppboaa", sum := "26cf8255b3ce8e92928e9cee9c79fb7560de57971f7be4729a2a3fd783def44d", func := "loop.example/g00617/laws.FnExactLess", spec := "fnExactLess", inPlace := ["maps.clone"], unfollowed := true, recurses := true, apart := false }
def FnExactLessSaid : Prop := fnExactLessRow.holds Try.pinned (OpenSpec.ofChange fnExactLessSpec)

/-- ITS FALSE NEIGHBOUR: 'it returns false'. Refute it at one input. -/
def fnExactLessWrong : ChangeSpec := { name := "fnExactLess", fn := fun _ => fun
  | [d1, d2] => { results := [.lit (.bool false)], args := [d1, d2] }
  | _ => none }
def FnExactLessWrongFalsely : Prop := fnExactLessRow.holds Try.pinned (OpenSpec.ofChange fnExactLessWrong)

/-- 'laws.FnSets': WHATEVER THE INPUT: true; the input reads as it did. -/
def fnSetsSpec : ChangeSpec := { name := "fnSets", fn := fun _ => fun
  | [d] => { results := [.lit (.bool true)], args := [d] }
  | _ => none }
def fnSetsRow : OpenClaim := { program := "ytinpndoepppboaa", sum := "26cf8255b3ce8e92928e9cee9c79fb7560de57971f7be4729a2a3fd783def44d", func := "loop.example/g00617/laws.FnSets", spec := "fnSets", inPlace := ["maps.clone"], unfollowed := true, recurses := true, apart := false }
def FnSetsSaid : Prop := fnSetsRow.holds Try.pinned (OpenSpec.ofChange fnSetsSpec)

/-- ITS FALSE NEIGHBOUR: 'it returns false'. Refute it at one input. -/
def fnSetsWrong : ChangeSpec := { name := "fnSets", fn := fun _ => fun
  | [d] => { results := [.lit (.bool false)], args := [d] }
  | _ => none }
def FnSetsWrongFalsely : Prop := fnSetsRow.holds Try.pinned (OpenSpec.ofChange fnSetsWrong)

/-- 'laws.FnExactCascadeOk': WHATEVER THE INPUT: true; the input reads as it did. -/
def fnExactCascadeOkSpec : ChangeSpec := { name := "fnExactCascadeOk", fn := fun _ => fun
  | [d] => { results := [.lit (.bool true)], args := [d] }
  | _ => none }
def fnExactCascadeOkRow : OpenClaim := { program := "ytinpndoepppboaa", sum := "26cf8255b3ce8e92928e9cee9c79fb7560de57971f7be4729a2a3fd783def44d", func := "loop.example/g00617/laws.FnExactCascadeOk", spec := "fnExactCascadeOk", unfollowed := true, recurses := true, apart := false }
def FnExactCascadeOkSaid : Prop := fnExactCascadeOkRow.holds Try.pinned (OpenSpec.ofChange fnExactCascadeOkSpec)

/-- ITS FALSE NEIGHBOUR: 'it returns false'. Refute it at one input. -/
def fnExactCascadeOkWrong : ChangeSpec := { name := "fnExactCascadeOk", fn := fun _ => fun
  | [d] => { results := [.lit (.bool false)], args := [d] }
  | _ => none }
def FnExactCascadeOkWrongFalsely : Prop := fnExactCascadeOkRow.holds Try.pinned (OpenSpec.ofChange fnExactCascadeOkWrong)

/-- 'laws.FnExactCascadeNew': WHATEVER THE INPUT: true; the input reads as it did. -/
def fnExactCascadeNewSpec : ChangeSpec := { name := "fnExactCascadeNew", fn := fun _ => fun
  | [d1, d2, d3] => { results := [.lit (.bool true)], args := [d1, d2, d3] }
  | _ => none }
def fnExactCascadeNewRow : OpenClaim := { program := "ytinpndoepppboaa", sum := "26cf8255b3ce8e92928e9cee9c79fb7560de57971f7be4729a2a3fd783def44d", func := "loop.example/g00617/laws.FnExactCascadeNew", spec := "fnExactCascadeNew", unfollowed := true, recurses := true, apart := false }
def FnExactCascadeNewSaid : Prop := fnExactCascadeNewRow.holds Try.pinned (OpenSpec.ofChange fnExactCascadeNewSpec)

/-- ITS FALSE NEIGHBOUR: 'it returns false'. Refute it at one input. -/
def fnExactCascadeNewWrong : ChangeSpec := { name := "fnExactCascadeNew", fn := fun _ => fun
  | [d1, d2, d3] => { results := [.lit (.bool false)], args := [d1, d2, d3] }
  | _ => none }
def FnExactCascadeNewWrongFalsely : Prop := fnExactCascadeNewRow.holds Try.pinned (OpenSpec.ofChange fnExactCascadeNewWrong)

/- THE SECOND FORM. 'bulk': how many values and letters a reading holds, each counted each time it is reached (what is shared counts as often as it is met; a slice's spare places count too). A statement '..UptoSaid' is the law's where the arguments, and the package variables that the reading takes, are together of bulk at most 1048576: NARROWER than '..Said'. Prove '..Said' where nothing that the law and all that it calls make is longer than what came in: it says more and counts as full. Else prove '..UptoSaid'. A law counts once. -/
mutual
def uptoBulk {H : Type} : DataW H → Nat
  | .lit (.string bytes) => bytes.length + 1
  | .lit _ => 1
  | .nil => 1
  | .ptr d => uptoBulk d + 1
  | .slice elems spare => uptoBulkAll elems + uptoBulkAll spare + 1
  | .agg parts => uptoBulkAll parts + 1
  | .iface _ d => uptoBulk d + 1
  | .map entries => uptoBulkEntries entries + 1
  | .held _ => 1
def uptoBulkAll {H : Type} : List (DataW H) → Nat
  | [] => 0
  | d :: r => uptoBulk d + uptoBulkAll r
def uptoBulkEntries {H : Type} : List (Lit × DataW H) → Nat
  | [] => 0
  | x :: r => uptoBulkEntry x + uptoBulkEntries r
def uptoBulkEntry {H : Type} : Lit × DataW H → Nat
  | (.string bytes, d) => bytes.length + uptoBulk d + 1
  | (_, d) => uptoBulk d + 1
 end
def uptoSmall : (H : Type) → List (DataW H) → Bool := fun _ ds => decide (uptoBulkAll ds ≤ 1048576)
def OpenSpec.upto (s : _root_.Go.ChangeSpec) : _root_.Go.OpenSpec := { _root_.Go.OpenSpec.ofChange s with cond := some uptoSmall }

/-- 'laws.FnExactIncrease', WHERE WHAT IT READS IS OF BULK AT MOST 1048576: true; the input reads as it did. -/
def fnExactIncreaseUptoRow : OpenClaim := { program := "ytinpndoepppboaa", sum := "26cf8255b3ce8e92928e9cee9c79fb7560de57971f7be4729a2a3fd783def44d", func := "loop.example/g00617/laws.FnExactIncrease", spec := "fnExactIncrease", apart := false, narrowed := true }
def FnExactIncreaseUptoSaid : Prop := fnExactIncreaseUptoRow.holds Try.pinned (OpenSpec.upto fnExactIncreaseSpec)

/-- 'laws.FnIncrease', WHERE WHAT IT READS IS OF BULK AT MOST 1048576: true; the input reads as it did. -/
def fnIncreaseUptoRow : OpenClaim := { program := "ytinpndoepppboaa", sum := "26cf8255b3ce8e92928e9cee9c79fb7560de57971f7be4729a2a3fd783def44d", func := "loop.example/g00617/laws.FnIncrease", spec := "fnIncrease", apart := false, narrowed := true }
def FnIncreaseUptoSaid : Prop := fnIncreaseUptoRow.holds Try.pinned (OpenSpec.upto fnIncreaseSpec)

/-- 'laws.FnExactRanked', WHERE WHAT IT READS IS OF BULK AT MOST 1048576: true; the input reads as it did. -/
def fnExactRankedUptoRow : OpenClaim := { program := "ytinpndoepppboaa", sum := "26cf8255b3ce8e92928e9cee9c79fb7560de57971f7be4729a2a3fd783def44d", func := "loop.example/g00617/laws.FnExactRanked", spec := "fnExactRanked", unfollowed := true, recurses := true, apart := false, narrowed := true }
def FnExactRankedUptoSaid : Prop := fnExactRankedUptoRow.holds Try.pinned (OpenSpec.upto fnExactRankedSpec)

/-- 'laws.FnRanked', WHERE WHAT IT READS IS OF BULK AT MOST 1048576: true; the input reads as it did. -/
def fnRankedUptoRow : OpenClaim := { program := "ytinpndoepppboaa", sum := "26cf8255b3ce8e92928e9cee9c79fb7560de57971f7be4729a2a3fd783def44d", func := "loop.example/g00617/laws.FnRanked", spec := "fnRanked", unfollowed := true, recurses := true, apart := false, narrowed := true }
def FnRankedUptoSaid : Prop := fnRankedUptoRow.holds Try.pinned (OpenSpec.upto fnRankedSpec)

/-- 'laws.FnExactMerged', WHERE WHAT IT READS IS OF BULK AT MOST 1048576: true; the input reads as it did. -/
def fnExactMergedUptoRow : OpenClaim := { program := "ytinpndoepppboaa", sum := "26cf8255b3ce8e92928e9cee9c79fb7560de57971f7be4729a2a3fd783def44d", func := "loop.example/g00617/laws.FnExactMerged", spec := "fnExactMerged", unfollowed := true, recurses := true, apart := false, narrowed := true }
def FnExactMergedUptoSaid : Prop := fnExactMergedUptoRow.holds Try.pinned (OpenSpec.upto fnExactMergedSpec)

/-- 'laws.FnMerged', WHERE WHAT IT READS IS OF BULK AT MOST 1048576: true; the input reads as it did. -/
def fnMergedUptoRow : OpenClaim := { program := "ytinpndoepppboaa", sum := "26cf8255b3ce8e92928e9cee9c79fb7560de57971f7be4729a2a3fd783def44d", func := "loop.example/g00617/laws.FnMerged", spec := "fnMerged", unfollowed := true, recurses := true, apart := false, narrowed := true }
def FnMergedUptoSaid : Prop := fnMergedUptoRow.holds Try.pinned (OpenSpec.upto fnMergedSpec)

/-- 'laws.FnExactAnd', WHERE WHAT IT READS IS OF BULK AT MOST 1048576: true; the input reads as it did. -/
def fnExactAndUptoRow : OpenClaim := { program := "ytinpndoepppboaa", sum := "26cf8255b3ce8e92928e9cee9c79fb7560de57971f7be4729a2a3fd783def44d", func := "loop.example/g00617/laws.FnExactAnd", spec := "fnExactAnd", inPlace := ["maps.clone"], unfollowed := true, recurses := true, apart := false, narrowed := true }
def FnExactAndUptoSaid : Prop := fnExactAndUptoRow.holds Try.pinned (OpenSpec.upto fnExactAndSpec)

/-- 'laws.FnExactOr', WHERE WHAT IT READS IS OF BULK AT MOST 1048576: true; the input reads as it did. -/
def fnExactOrUptoRow : OpenClaim := { program := "ytinpndoepppboaa", sum := "26cf8255b3ce8e92928e9cee9c79fb7560de57971f7be4729a2a3fd783def44d", func := "loop.example/g00617/laws.FnExactOr", spec := "fnExactOr", inPlace := ["maps.clone"], unfollowed := true, recurses := true, apart := false, narrowed := true }
def FnExactOrUptoSaid : Prop := fnExactOrUptoRow.holds Try.pinned (OpenSpec.upto fnExactOrSpec)

/-- 'laws.FnExactLess', WHERE WHAT IT READS IS OF BULK AT MOST 1048576: true; the input reads as it did. -/
def fnExactLessUptoRow : OpenClaim := { program := "ytinpndoepppboaa", sum := "26cf8255b3ce8e92928e9cee9c79fb7560de57971f7be4729a2a3fd783def44d", func := "loop.example/g00617/laws.FnExactLess", spec := "fnExactLess", inPlace := ["maps.clone"], unfollowed := true, recurses := true, apart := false, narrowed := true }
def FnExactLessUptoSaid : Prop := fnExactLessUptoRow.holds Try.pinned (OpenSpec.upto fnExactLessSpec)

/-- 'laws.FnSets', WHERE WHAT IT READS IS OF BULK AT MOST 1048576: true; the input reads as it did. -/
def fnSetsUptoRow : OpenClaim := { program := "ytinpndoepppboaa", sum := "26cf8255b3ce8e92928e9cee9c79fb7560de57971f7be4729a2a3fd783def44d", func := "loop.example/g00617/laws.FnSets", spec := "fnSets", inPlace := ["maps.clone"], unfollowed := true, recurses := true, apart := false, narrowed := true }
def FnSetsUptoSaid : Prop := fnSetsUptoRow.holds Try.pinned (OpenSpec.upto fnSetsSpec)

/-- 'laws.FnExactCascadeOk', WHERE WHAT IT READS IS OF BULK AT MOST 1048576: true; the input reads as it did. -/
def fnExactCascadeOkUptoRow : OpenClaim := { program := "ytinpndoepppboaa", sum := "26cf8255b3ce8e92928e9cee9c79fb7560de57971f7be4729a2a3fd783def44d", func := "loop.example/g00617/laws.FnExactCascadeOk", spec := "fnExactCascadeOk", unfollowed := true, recurses := true, apart := false, narrowed := true }
def FnExactCascadeOkUptoSaid : Prop := fnExactCascadeOkUptoRow.holds Try.pinned (OpenSpec.upto fnExactCascadeOkSpec)

/-- 'laws.FnExactCascadeNew', WHERE WHAT IT READS IS OF BULK AT MOST 1048576: true; the input reads as it did. -/
def fnExactCascadeNewUptoRow : OpenClaim := { program := "ytinpndoepppboaa", sum := "26cf8255b3ce8e92928e9cee9c79fb7560de57971f7be4729a2a3fd783def44d", func := "loop.example/g00617/laws.FnExactCascadeNew", spec := "fnExactCascadeNew", unfollowed := true, recurses := true, apart := false, narrowed := true }
def FnExactCascadeNewUptoSaid : Prop := fnExactCascadeNewUptoRow.holds Try.pinned (OpenSpec.upto fnExactCascadeNewSpec)

end Rows
end Go.Proofs.Ytinpndoepppboaa
