/-
  No cell of these rows narrows 'for every input' (looked for: loops, veiled, ifaces, maps, wideKeys, modest, calm, conditions, laid).
  DERIVED. THE GIVEN ROWS OF THIS SEAT. 10 by the template 'for every input the law returns true; each argument reads behind the call as it read before'; 0 by the template 'total and deterministic' (their statements: YtljmiodkmddllaaTotals.lean).
  GIVEN WITH THE SEED: the statements are not yours to turn. If you find one false, say at which input.
  Laid BY PROGRAM, IN A SANDBOX (cutbox-rows.mjs): the forced cells as the released guide's own fill.sh prints them over the translation 9119714e5bea0394… (all of the seat's roots in one cut). By AI agents, Wed Nov 11 2026. No macro, syntax, notation, axiom, sorry.
-/
import Derived.Test.YtljmiodkmddllaaChecked
import GoSem.Claim
import GoSem.ClaimJoined
import GoSem.ClaimMapViews
import Derived.JoinedTies
import Derived.KernelRfl
namespace Go.Proofs.Ytljmiodkmddllaa
/- THE CELL 'sum', in the pinned program and in every row, IS THE sha256 OF THE DUMP (.gsa) THAT YtljmiodkmddllaaProg.lean LOADS. Nothing in Lean hashes anything: it is a label: what it is worth is what the hold of that sum in a sandbox is worth. -/
noncomputable def Try.pinned : Pinned := { name := "ytljmiodkmddllaa", sum := "9119714e5bea039426c7729b36d37ba108695a6c9f76cdfe929ddc6e4dc48baf", checked := Try.checked }
namespace Rows
def none {H : Type} : Left H := { results := [], args := [] }

/-- 'laws.FnExactBoundsOk': WHATEVER THE INPUT: true; the input reads as it did. -/
def fnExactBoundsOkSpec : ChangeSpec := { name := "fnExactBoundsOk", fn := fun _ => fun
  | [d] => { results := [.lit (.bool true)], args := [d] }
  | _ => none }
def fnExactBoundsOkRow : OpenClaim := { program := "ytljmiodkmddllaa", sum := "9119714e5bea039426c7729b36d37ba108695a6c9f76cdfe929ddc6e4dc48baf", func := "loop.example/g00617/laws.FnExactBoundsOk", spec := "fnExactBoundsOk", apart := false }
def FnExactBoundsOkSaid : Prop := fnExactBoundsOkRow.holds Try.pinned (OpenSpec.ofChange fnExactBoundsOkSpec)

/-- ITS FALSE NEIGHBOUR: 'it returns false'. Refute it at one input. -/
def fnExactBoundsOkWrong : ChangeSpec := { name := "fnExactBoundsOk", fn := fun _ => fun
  | [d] => { results := [.lit (.bool false)], args := [d] }
  | _ => none }
def FnExactBoundsOkWrongFalsely : Prop := fnExactBoundsOkRow.holds Try.pinned (OpenSpec.ofChange fnExactBoundsOkWrong)

/-- 'laws.FnExactHistAdd': WHATEVER THE INPUT: true; the input reads as it did. -/
def fnExactHistAddSpec : ChangeSpec := { name := "fnExactHistAdd", fn := fun _ => fun
  | [d1, d2] => { results := [.lit (.bool true)], args := [d1, d2] }
  | _ => none }
def fnExactHistAddRow : OpenClaim := { program := "ytljmiodkmddllaa", sum := "9119714e5bea039426c7729b36d37ba108695a6c9f76cdfe929ddc6e4dc48baf", func := "loop.example/g00617/laws.FnExactHistAdd", spec := "fnExactHistAdd", apart := false }
def FnExactHistAddSaid : Prop := fnExactHistAddRow.holds Try.pinned (OpenSpec.ofChange fnExactHistAddSpec)

/-- ITS FALSE NEIGHBOUR: 'it returns false'. Refute it at one input. -/
def fnExactHistAddWrong : ChangeSpec := { name := "fnExactHistAdd", fn := fun _ => fun
  | [d1, d2] => { results := [.lit (.bool false)], args := [d1, d2] }
  | _ => none }
def FnExactHistAddWrongFalsely : Prop := fnExactHistAddRow.holds Try.pinned (OpenSpec.ofChange fnExactHistAddWrong)

/-- 'laws.FnExactHistRank': WHATEVER THE INPUT: true; the input reads as it did. -/
def fnExactHistRankSpec : ChangeSpec := { name := "fnExactHistRank", fn := fun _ => fun
  | [d1, d2] => { results := [.lit (.bool true)], args := [d1, d2] }
  | _ => none }
def fnExactHistRankRow : OpenClaim := { program := "ytljmiodkmddllaa", sum := "9119714e5bea039426c7729b36d37ba108695a6c9f76cdfe929ddc6e4dc48baf", func := "loop.example/g00617/laws.FnExactHistRank", spec := "fnExactHistRank", apart := false }
def FnExactHistRankSaid : Prop := fnExactHistRankRow.holds Try.pinned (OpenSpec.ofChange fnExactHistRankSpec)

/-- ITS FALSE NEIGHBOUR: 'it returns false'. Refute it at one input. -/
def fnExactHistRankWrong : ChangeSpec := { name := "fnExactHistRank", fn := fun _ => fun
  | [d1, d2] => { results := [.lit (.bool false)], args := [d1, d2] }
  | _ => none }
def FnExactHistRankWrongFalsely : Prop := fnExactHistRankRow.holds Try.pinned (OpenSpec.ofChange fnExactHistRankWrong)

/-- 'laws.FnExactQuantile': WHATEVER THE INPUT: true; the input reads as it did. -/
def fnExactQuantileSpec : ChangeSpec := { name := "fnExactQuantile", fn := fun _ => fun
  | [d1, d2] => { results := [.lit (.bool true)], args := [d1, d2] }
  | _ => none }
def fnExactQuantileRow : OpenClaim := { program := "ytljmiodkmddllaa", sum := "9119714e5bea039426c7729b36d37ba108695a6c9f76cdfe929ddc6e4dc48baf", func := "loop.example/g00617/laws.FnExactQuantile", spec := "fnExactQuantile", unfollowed := true, recurses := true, apart := false }
def FnExactQuantileSaid : Prop := fnExactQuantileRow.holds Try.pinned (OpenSpec.ofChange fnExactQuantileSpec)

/-- ITS FALSE NEIGHBOUR: 'it returns false'. Refute it at one input. -/
def fnExactQuantileWrong : ChangeSpec := { name := "fnExactQuantile", fn := fun _ => fun
  | [d1, d2] => { results := [.lit (.bool false)], args := [d1, d2] }
  | _ => none }
def FnExactQuantileWrongFalsely : Prop := fnExactQuantileRow.holds Try.pinned (OpenSpec.ofChange fnExactQuantileWrong)

/-- 'laws.FnExactHistOf': WHATEVER THE INPUT: true; the input reads as it did. -/
def fnExactHistOfSpec : ChangeSpec := { name := "fnExactHistOf", fn := fun _ => fun
  | [d1, d2] => { results := [.lit (.bool true)], args := [d1, d2] }
  | _ => none }
def fnExactHistOfRow : OpenClaim := { program := "ytljmiodkmddllaa", sum := "9119714e5bea039426c7729b36d37ba108695a6c9f76cdfe929ddc6e4dc48baf", func := "loop.example/g00617/laws.FnExactHistOf", spec := "fnExactHistOf", unfollowed := true, recurses := true, apart := false }
def FnExactHistOfSaid : Prop := fnExactHistOfRow.holds Try.pinned (OpenSpec.ofChange fnExactHistOfSpec)

/-- ITS FALSE NEIGHBOUR: 'it returns false'. Refute it at one input. -/
def fnExactHistOfWrong : ChangeSpec := { name := "fnExactHistOf", fn := fun _ => fun
  | [d1, d2] => { results := [.lit (.bool false)], args := [d1, d2] }
  | _ => none }
def FnExactHistOfWrongFalsely : Prop := fnExactHistOfRow.holds Try.pinned (OpenSpec.ofChange fnExactHistOfWrong)

/-- 'laws.FnHist': WHATEVER THE INPUT: true; the input reads as it did. -/
def fnHistSpec : ChangeSpec := { name := "fnHist", fn := fun _ => fun
  | [d] => { results := [.lit (.bool true)], args := [d] }
  | _ => none }
def fnHistRow : OpenClaim := { program := "ytljmiodkmddllaa", sum := "9119714e5bea039426c7729b36d37ba108695a6c9f76cdfe929ddc6e4dc48baf", func := "loop.example/g00617/laws.FnHist", spec := "fnHist", unfollowed := true, recurses := true, apart := false }
def FnHistSaid : Prop := fnHistRow.holds Try.pinned (OpenSpec.ofChange fnHistSpec)

/-- ITS FALSE NEIGHBOUR: 'it returns false'. Refute it at one input. -/
def fnHistWrong : ChangeSpec := { name := "fnHist", fn := fun _ => fun
  | [d] => { results := [.lit (.bool false)], args := [d] }
  | _ => none }
def FnHistWrongFalsely : Prop := fnHistRow.holds Try.pinned (OpenSpec.ofChange fnHistWrong)

/-- 'laws.FnHistAdd': WHATEVER THE INPUT: true; the input reads as it did. -/
def fnHistAddSpec : ChangeSpec := { name := "fnHistAdd", fn := fun _ => fun
  | [d] => { results := [.lit (.bool true)], args := [d] }
  | _ => none }
def fnHistAddRow : OpenClaim := { program := "ytljmiodkmddllaa", sum := "9119714e5bea039426c7729b36d37ba108695a6c9f76cdfe929ddc6e4dc48baf", func := "loop.example/g00617/laws.FnHistAdd", spec := "fnHistAdd", unfollowed := true, recurses := true, apart := false }
def FnHistAddSaid : Prop := fnHistAddRow.holds Try.pinned (OpenSpec.ofChange fnHistAddSpec)

/-- ITS FALSE NEIGHBOUR: 'it returns false'. Refute it at one input. -/
def fnHistAddWrong : ChangeSpec := { name := "fnHistAdd", fn := fun _ => fun
  | [d] => { results := [.lit (.bool false)], args := [d] }
  | _ => none }
def FnHistAddWrongFalsely : Prop := fnHistAddRow.holds Try.pinned (OpenSpec.ofChange fnHistAddWrong)

/-- 'laws.FnQuantile': WHATEVER THE INPUT: true; the input reads as it did. -/
def fnQuantileSpec : ChangeSpec := { name := "fnQuantile", fn := fun _ => fun
  | [d] => { results := [.lit (.bool true)], args := [d] }
  | _ => none }
def fnQuantileRow : OpenClaim := { program := "ytljmiodkmddllaa", sum := "9119714e5bea039426c7729b36d37ba108695a6c9f76cdfe929ddc6e4dc48baf", func := "loop.example/g00617/laws.FnQuantile", spec := "fnQuantile", unfollowed := true, recurses := true, apart := false }
def FnQuantileSaid : Prop := fnQuantileRow.holds Try.pinned (OpenSpec.ofChange fnQuantileSpec)

/-- ITS FALSE NEIGHBOUR: 'it returns false'. Refute it at one input. -/
def fnQuantileWrong : ChangeSpec := { name := "fnQuantile", fn := fun _ => fun
  | [d] => { results := [.lit (.bool false)], args := [d] }
  | _ => none }
def FnQuantileWrongFalsely : Prop := fnQuantileRow.holds Try.pinned (OpenSpec.ofChange fnQuantileWrong)

/-- 'laws.FnHistRank': WHATEVER THE INPUT: true; the input reads as it did. -/
def fnHistRankSpec : ChangeSpec := { name := "fnHistRank", fn := fun _ => fun
  | [d] => { results := [.lit (.bool true)], args := [d] }
  | _ => none }
def fnHistRankRow : OpenClaim := { program := "ytljmiodkmddllaa", sum := "9119714e5bea039426c7729b36d37ba108695a6c9f76cdfe929ddc6e4dc48baf", func := "loop.example/g00617/laws.FnHistRank", spec := "fnHistRank", unfollowed := true, recurses := true, apart := false }
def FnHistRankSaid : Prop := fnHistRankRow.holds Try.pinned (OpenSpec.ofChange fnHistRankSpec)

/-- ITS FALSE NEIGHBOUR: 'it returns false'. Refute it at one input. -/
def fnHistRankWrong : ChangeSpec := { name := "fnHistRank", fn := fun _ => fun
  | [d] => { results := [.lit (.bool false)], args := [d] }
  | _ => none }
def FnHistRankWrongFalsely : Prop := fnHistRankRow.holds Try.pinned (OpenSpec.ofChange fnHistRankWrong)

/-- 'laws.FnQuantileMoved': WHATEVER THE INPUT: true; the input reads as it did. -/
def fnQuantileMovedSpec : ChangeSpec := { name := "fnQuantileMoved", fn := fun _ => fun
  | [d] => { results := [.lit (.bool true)], args := [d] }
  | _ => none }
def fnQuantileMovedRow : OpenClaim := { program := "ytljmiodkmddllaa", sum := "9119714e5bea039426c7729b36d37ba108695a6c9f76cdfe929ddc6e4dc48baf", func := "loop.example/g00617/laws.FnQuantileMoved", spec := "fnQuantileMoved", unfollowed := true, recurses := true, apart := false }
def FnQuantileMovedSaid : Prop := fnQuantileMovedRow.holds Try.pinned (OpenSpec.ofChange fnQuantileMovedSpec)

/-- ITS FALSE NEIGHBOUR: 'it returns false'. Refute it at one input. -/
def fnQuantileMovedWrong : ChangeSpec := { name := "fnQuantileMoved", fn := fun _ => fun
  | [d] => { results := [.lit (.bool false)], args := [d] }
  | _ => none }
def FnQuantileMovedWrongFalsely : Prop := fnQuantileMovedRow.holds Try.pinned (OpenSpec.ofChange fnQuantileMovedWrong)

/- THE SECOND FORM. 'bulk': how many values and letters a reading holds, each counted each time it is reached (what is shared counts as often as it is met; a slice's spare places count too). A statement '..UptoSaid' is the law's where the arguments, and the package variables that the reading takes, are together of bulk at most 1048576: NARROWER than '..Said'. Prove '..Said' where nothing that the law and all that it calls make is longer than what came in: it says more and counts as full. Else prove '..UptoSaid'. A law counts once. -/
mutual
def uptoBulk {H : Type} : DataW H → Nat
  | .lit (.string bytes) => bytes.length + 1
  | .lit _ => 1
  | .nil => 1
  | .ptr d => uptoBulk d + 1
  | .slice elems spare => uptoBulkAll elems + uptoBulkAll spare + 1
  | .agg parts => uptoBulkAll parts + 1
  | .iface _ d => uptoBulk d + 1
  | .map entries => uptoBulkEntries entries + 1
  | .held _ => 1
def uptoBulkAll {H : Type} : List (DataW H) → Nat
  | [] => 0
  | d :: r => uptoBulk d + uptoBulkAll r
def uptoBulkEntries {H : Type} : List (Lit × DataW H) → Nat
  | [] => 0
  | x :: r => uptoBulkEntry x + uptoBulkEntries r
def uptoBulkEntry {H : Type} : Lit × DataW H → Nat
  | (.string bytes, d) => bytes.length + uptoBulk d + 1
  | (_, d) => uptoBulk d + 1
 end
def uptoSmall : (H : Type) → List (DataW H) → Bool := fun _ ds => decide (uptoBulkAll ds ≤ 1048576)
def OpenSpec.upto (s : _root_.Go.ChangeSpec) : _root_.Go.OpenSpec := { _root_.Go.OpenSpec.ofChange s with cond := some uptoSmall }

/-- 'laws.FnExactBoundsOk', WHERE WHAT IT READS IS OF BULK AT MOST 1048576: true; the input reads as it did. -/
def fnExactBoundsOkUptoRow : OpenClaim := { program := "ytljmiodkmddllaa", sum := "9119714e5bea039426c7729b36d37ba108695a6c9f76cdfe929ddc6e4dc48baf", func := "loop.example/g00617/laws.FnExactBoundsOk", spec := "fnExactBoundsOk", apart := false, narrowed := true }
def FnExactBoundsOkUptoSaid : Prop := fnExactBoundsOkUptoRow.holds Try.pinned (OpenSpec.upto fnExactBoundsOkSpec)

/-- 'laws.FnExactHistAdd', WHERE WHAT IT READS IS OF BULK AT MOST 1048576: true; the input reads as it did. -/
def fnExactHistAddUptoRow : OpenClaim := { program := "ytljmiodkmddllaa", sum := "9119714e5bea039426c7729b36d37ba108695a6c9f76cdfe929ddc6e4dc48baf", func := "loop.example/g00617/laws.FnExactHistAdd", spec := "fnExactHistAdd", apart := false, narrowed := true }
def FnExactHistAddUptoSaid : Prop := fnExactHistAddUptoRow.holds Try.pinned (OpenSpec.upto fnExactHistAddSpec)

/-- 'laws.FnExactHistRank', WHERE WHAT IT READS IS OF BULK AT MOST 1048576: true; the input reads as it did. -/
def fnExactHistRankUptoRow : OpenClaim := { program := "ytljmiodkmddllaa", sum := "9119714e5bea039426c7729b36d37ba108695a6c9f76cdfe929ddc6e4dc48baf", func := "loop.example/g00617/laws.FnExactHistRank", spec := "fnExactHistRank", apart := false, narrowed := true }
def FnExactHistRankUptoSaid : Prop := fnExactHistRankUptoRow.holds Try.pinned (OpenSpec.upto fnExactHistRankSpec)

/-- 'laws.FnExactQuantile', WHERE WHAT IT READS IS OF BULK AT MOST 1048576: true; the input reads as it did. -/
def fnExactQuantileUptoRow : OpenClaim := { program := "ytljmiodkmddllaa", sum := "9119714e5bea039426c7729b36d37ba108695a6c9f76cdfe929ddc6e4dc48baf", func := "loop.example/g00617/laws.FnExactQuantile", spec := "fnExactQuantile", unfollowed := true, recurses := true, apart := false, narrowed := true }
def FnExactQuantileUptoSaid : Prop := fnExactQuantileUptoRow.holds Try.pinned (OpenSpec.upto fnExactQuantileSpec)

/-- 'laws.FnExactHistOf', WHERE WHAT IT READS IS OF BULK AT MOST 1048576: true; the input reads as it did. -/
def fnExactHistOfUptoRow : OpenClaim := { program := "ytljmiodkmddllaa", sum := "9119714e5bea039426c7729b36d37ba108695a6c9f76cdfe929ddc6e4dc48baf", func := "loop.example/g00617/laws.FnExactHistOf", spec := "fnExactHistOf", unfollowed := true, recurses := true, apart := false, narrowed := true }
def FnExactHistOfUptoSaid : Prop := fnExactHistOfUptoRow.holds Try.pinned (OpenSpec.upto fnExactHistOfSpec)

/-- 'laws.FnHist', WHERE WHAT IT READS IS OF BULK AT MOST 1048576: true; the input reads as it did. -/
def fnHistUptoRow : OpenClaim := { program := "ytljmiodkmddllaa", sum := "9119714e5bea039426c7729b36d37ba108695a6c9f76cdfe929ddc6e4dc48baf", func := "loop.example/g00617/laws.FnHist", spec := "fnHist", unfollowed := true, recurses := true, apart := false, narrowed := true }
def FnHistUptoSaid : Prop := fnHistUptoRow.holds Try.pinned (OpenSpec.upto fnHistSpec)

/-- 'laws.FnHistAdd', WHERE WHAT IT READS IS OF BULK AT MOST 1048576: true; the input reads as it did. -/
def fnHistAddUptoRow : OpenClaim := { program := "ytljmiodkmddllaa", sum := "9119714e5bea039426c7729b36d37ba108695a6c9f76cdfe929ddc6e4dc48baf", func := "loop.example/g00617/laws.FnHistAdd", spec := "fnHistAdd", unfollowed := true, recurses := true, apart := false, narrowed := true }
def FnHistAddUptoSaid : Prop := fnHistAddUptoRow.holds Try.pinned (OpenSpec.upto fnHistAddSpec)

/-- 'laws.FnQuantile', WHERE WHAT IT READS IS OF BULK AT MOST 1048576: true; the input reads as it did. -/
def fnQuantileUptoRow : OpenClaim := { program := "ytljmiodkmddllaa", sum := "9119714e5bea039426c7729b36d37ba108695a6c9f76cdfe929ddc6e4dc48baf", func := "loop.example/g00617/laws.FnQuantile", spec := "fnQuantile", unfollowed := true, recurses := true, apart := false, narrowed := true }
def FnQuantileUptoSaid : Prop := fnQuantileUptoRow.holds Try.pinned (OpenSpec.upto fnQuantileSpec)

/-- 'laws.FnHistRank', WHERE WHAT IT READS IS OF BULK AT MOST 1048576: true; the input reads as it did. -/
def fnHistRankUptoRow : OpenClaim := { program := "ytljmiodkmddllaa", sum := "9119714e5bea039426c7729b36d37ba108695a6c9f76cdfe929ddc6e4dc48baf", func := "loop.example/g00617/laws.FnHistRank", spec := "fnHistRank", unfollowed := true, recurses := true, apart := false, narrowed := true }
def FnHistRankUptoSaid : Prop := fnHistRankUptoRow.holds Try.pinned (OpenSpec.upto fnHistRankSpec)

/-- 'laws.FnQuantileMoved', WHERE WHAT IT READS IS OF BULK AT MOST 1048576: true; the input reads as it did. -/
def fnQuantileMovedUptoRow : OpenClaim := { program := "ytljmiodkmddllaa", sum := "9119714e5bea039426c7729b36d37ba108695a6c9f76cdfe929ddc6e4dc48baf", func := "loop.example/g00617/laws.FnQuantileMoved", spec := "fnQuantileMoved", unfollowed := true, recurses := true, apart := false, narrowed := true }
def FnQuantileMovedUptoSaid : Prop := fnQuantileMovedUptoRow.holds Try.pinned (OpenSpec.upto fnQuantileMovedSpec)

end Rows
end Go.Proofs.Ytljmiodkmddllaa
