/-
  No cell of these rows narrows 'for every input' (looked for: loops, veiled, ifaces, maps, wideKeys, modest, calm, conditions, laid).
  DERIVED. THE GIVEN ROWS OF THIS SEAT. 10 by the template 'for every input the law returns true; each argument reads behind the call as it read before'; 0 by the template 'total and deterministic' (their statements: YtcjpedolmnahfaaTotals.lean).
  GIVEN WITH THE SEED: the statements are not yours to turn. If you find one false, say at which input.
  Laid BY PROGRAM, IN A SANDBOX (cutbox-rows.mjs): the forced cells as the released guide's own fill.sh prints them over the translation 340b4d872d8b7cd7… (all of the seat's roots in one cut). By AI agents, Wed Nov 11 2026. No macro, syntax, notation, axiom, sorry.
-/
import Derived.Test.YtcjpedolmnahfaaChecked
import GoSem.Claim
import GoSem.ClaimJoined
import GoSem.ClaimMapViews
import Derived.JoinedTies
import Derived.KernelRfl
namespace Go.Proofs.Ytcjpedolmnahfaa
/- THE CELL 'sum', in the pinned program and in every row, IS THE sha256 OF THE DUMP (.gsa) THAT YtcjpedolmnahfaaProg.lean LOADS. Nothing in Lean hashes anything: it is a label: what it is worth is what the hold of that sum in a sandbox is worth. -/
noncomputable def Try.pinned : Pinned := { name := "ytcjpedolmnahfaa", sum := "340b4d872d8b7cd7a5bac47ea0fab9cb1a45fc34a5ee6129b166eeb8f20f7508", checked := Try.checked }
namespace Rows
def none {H : Type} : Left H := { results := [], args := [] }

/-- 'laws.FnCascade': WHATEVER THE INPUT: true; the input reads as it did. -/
def fnCascadeSpec : ChangeSpec := { name := "fnCascade", fn := fun _ => fun
  | [d] => { results := [.lit (.bool true)], args := [d] }
  | _ => none }
def fnCascadeRow : OpenClaim := { program := "ytcjpedolmnahfaa", sum := "340b4d872d8b7cd7a5bac47ea0fab9cb1a45fc34a5ee6129b166eeb8f20f7508", func := "loop.example/g00617/laws.FnCascade", spec := "fnCascade", unfollowed := true, recurses := true, apart := false }
def FnCascadeSaid : Prop := fnCascadeRow.holds Try.pinned (OpenSpec.ofChange fnCascadeSpec)

/-- ITS FALSE NEIGHBOUR: 'it returns false'. Refute it at one input. -/
def fnCascadeWrong : ChangeSpec := { name := "fnCascade", fn := fun _ => fun
  | [d] => { results := [.lit (.bool false)], args := [d] }
  | _ => none }
def FnCascadeWrongFalsely : Prop := fnCascadeRow.holds Try.pinned (OpenSpec.ofChange fnCascadeWrong)

/-- 'laws.FnIngest': WHATEVER THE INPUT: true; the input reads as it did. -/
def fnIngestSpec : ChangeSpec := { name := "fnIngest", fn := fun _ => fun
  | [d] => { results := [.lit (.bool true)], args := [d] }
  | _ => none }
def fnIngestRow : OpenClaim := { program := "ytcjpedolmnahfaa", sum := "340b4d872d8b7cd7a5bac47ea0fab9cb1a45fc34a5ee6129b166eeb8f20f7508", func := "loop.example/g00617/laws.FnIngest", spec := "fnIngest", unfollowed := true, recurses := true, apart := false }
def FnIngestSaid : Prop := fnIngestRow.holds Try.pinned (OpenSpec.ofChange fnIngestSpec)

/-- ITS FALSE NEIGHBOUR: 'it returns false'. Refute it at one input. -/
def fnIngestWrong : ChangeSpec := { name := "fnIngest", fn := fun _ => fun
  | [d] => { results := [.lit (.bool false)], args := [d] }
  | _ => none }
def FnIngestWrongFalsely : Prop := fnIngestRow.holds Try.pinned (OpenSpec.ofChange fnIngestWrong)

/-- 'laws.FnTick': WHATEVER THE INPUT: true; the input reads as it did. -/
def fnTickSpec : ChangeSpec := { name := "fnTick", fn := fun _ => fun
  | [d] => { results := [.lit (.bool true)], args := [d] }
  | _ => none }
def fnTickRow : OpenClaim := { program := "ytcjpedolmnahfaa", sum := "340b4d872d8b7cd7a5bac47ea0fab9cb1a45fc34a5ee6129b166eeb8f20f7508", func := "loop.example/g00617/laws.FnTick", spec := "fnTick", unfollowed := true, recurses := true, apart := false }
def FnTickSaid : Prop := fnTickRow.holds Try.pinned (OpenSpec.ofChange fnTickSpec)

/-- ITS FALSE NEIGHBOUR: 'it returns false'. Refute it at one input. -/
def fnTickWrong : ChangeSpec := { name := "fnTick", fn := fun _ => fun
  | [d] => { results := [.lit (.bool false)], args := [d] }
  | _ => none }
def FnTickWrongFalsely : Prop := fnTickRow.holds Try.pinned (OpenSpec.ofChange fnTickWrong)

/-- 'laws.FnDeeper': WHATEVER THE INPUT: true; the input reads as it did. -/
def fnDeeperSpec : ChangeSpec := { name := "fnDeeper", fn := fun _ => fun
  | [d] => { results := [.lit (.bool true)], args := [d] }
  | _ => none }
def fnDeeperRow : OpenClaim := { program := "ytcjpedolmnahfaa", sum := "340b4d872d8b7cd7a5bac47ea0fab9cb1a45fc34a5ee6129b166eeb8f20f7508", func := "loop.example/g00617/laws.FnDeeper", spec := "fnDeeper", unfollowed := true, recurses := true, apart := false }
def FnDeeperSaid : Prop := fnDeeperRow.holds Try.pinned (OpenSpec.ofChange fnDeeperSpec)

/-- ITS FALSE NEIGHBOUR: 'it returns false'. Refute it at one input. -/
def fnDeeperWrong : ChangeSpec := { name := "fnDeeper", fn := fun _ => fun
  | [d] => { results := [.lit (.bool false)], args := [d] }
  | _ => none }
def FnDeeperWrongFalsely : Prop := fnDeeperRow.holds Try.pinned (OpenSpec.ofChange fnDeeperWrong)

/-- 'laws.FnPick': WHATEVER THE INPUT: true; the input reads as it did. -/
def fnPickSpec : ChangeSpec := { name := "fnPick", fn := fun _ => fun
  | [d] => { results := [.lit (.bool true)], args := [d] }
  | _ => none }
def fnPickRow : OpenClaim := { program := "ytcjpedolmnahfaa", sum := "340b4d872d8b7cd7a5bac47ea0fab9cb1a45fc34a5ee6129b166eeb8f20f7508", func := "loop.example/g00617/laws.FnPick", spec := "fnPick", unfollowed := true, recurses := true, apart := false }
def FnPickSaid : Prop := fnPickRow.holds Try.pinned (OpenSpec.ofChange fnPickSpec)

/-- ITS FALSE NEIGHBOUR: 'it returns false'. Refute it at one input. -/
def fnPickWrong : ChangeSpec := { name := "fnPick", fn := fun _ => fun
  | [d] => { results := [.lit (.bool false)], args := [d] }
  | _ => none }
def FnPickWrongFalsely : Prop := fnPickRow.holds Try.pinned (OpenSpec.ofChange fnPickWrong)

/-- 'laws.FnQuery': WHATEVER THE INPUT: true; the input reads as it did. -/
def fnQuerySpec : ChangeSpec := { name := "fnQuery", fn := fun _ => fun
  | [d] => { results := [.lit (.bool true)], args := [d] }
  | _ => none }
def fnQueryRow : OpenClaim := { program := "ytcjpedolmnahfaa", sum := "340b4d872d8b7cd7a5bac47ea0fab9cb1a45fc34a5ee6129b166eeb8f20f7508", func := "loop.example/g00617/laws.FnQuery", spec := "fnQuery", unfollowed := true, recurses := true, apart := false }
def FnQuerySaid : Prop := fnQueryRow.holds Try.pinned (OpenSpec.ofChange fnQuerySpec)

/-- ITS FALSE NEIGHBOUR: 'it returns false'. Refute it at one input. -/
def fnQueryWrong : ChangeSpec := { name := "fnQuery", fn := fun _ => fun
  | [d] => { results := [.lit (.bool false)], args := [d] }
  | _ => none }
def FnQueryWrongFalsely : Prop := fnQueryRow.holds Try.pinned (OpenSpec.ofChange fnQueryWrong)

/-- 'laws.FnKinds': WHATEVER THE INPUT: true; the input reads as it did. -/
def fnKindsSpec : ChangeSpec := { name := "fnKinds", fn := fun _ => fun
  | [d] => { results := [.lit (.bool true)], args := [d] }
  | _ => none }
def fnKindsRow : OpenClaim := { program := "ytcjpedolmnahfaa", sum := "340b4d872d8b7cd7a5bac47ea0fab9cb1a45fc34a5ee6129b166eeb8f20f7508", func := "loop.example/g00617/laws.FnKinds", spec := "fnKinds", unfollowed := true, recurses := true, apart := false }
def FnKindsSaid : Prop := fnKindsRow.holds Try.pinned (OpenSpec.ofChange fnKindsSpec)

/-- ITS FALSE NEIGHBOUR: 'it returns false'. Refute it at one input. -/
def fnKindsWrong : ChangeSpec := { name := "fnKinds", fn := fun _ => fun
  | [d] => { results := [.lit (.bool false)], args := [d] }
  | _ => none }
def FnKindsWrongFalsely : Prop := fnKindsRow.holds Try.pinned (OpenSpec.ofChange fnKindsWrong)

/-- 'laws.FnExactIngest': WHATEVER THE INPUT: true; the input reads as it did. -/
def fnExactIngestSpec : ChangeSpec := { name := "fnExactIngest", fn := fun _ => fun
  | [d1, d2] => { results := [.lit (.bool true)], args := [d1, d2] }
  | _ => none }
def fnExactIngestRow : OpenClaim := { program := "ytcjpedolmnahfaa", sum := "340b4d872d8b7cd7a5bac47ea0fab9cb1a45fc34a5ee6129b166eeb8f20f7508", func := "loop.example/g00617/laws.FnExactIngest", spec := "fnExactIngest", unfollowed := true, recurses := true, apart := false }
def FnExactIngestSaid : Prop := fnExactIngestRow.holds Try.pinned (OpenSpec.ofChange fnExactIngestSpec)

/-- ITS FALSE NEIGHBOUR: 'it returns false'. Refute it at one input. -/
def fnExactIngestWrong : ChangeSpec := { name := "fnExactIngest", fn := fun _ => fun
  | [d1, d2] => { results := [.lit (.bool false)], args := [d1, d2] }
  | _ => none }
def FnExactIngestWrongFalsely : Prop := fnExactIngestRow.holds Try.pinned (OpenSpec.ofChange fnExactIngestWrong)

/-- 'laws.FnExactTick': WHATEVER THE INPUT: true; the input reads as it did. -/
def fnExactTickSpec : ChangeSpec := { name := "fnExactTick", fn := fun _ => fun
  | [d1, d2] => { results := [.lit (.bool true)], args := [d1, d2] }
  | _ => none }
def fnExactTickRow : OpenClaim := { program := "ytcjpedolmnahfaa", sum := "340b4d872d8b7cd7a5bac47ea0fab9cb1a45fc34a5ee6129b166eeb8f20f7508", func := "loop.example/g00617/laws.FnExactTick", spec := "fnExactTick", unfollowed := true, recurses := true, apart := false }
def FnExactTickSaid : Prop := fnExactTickRow.holds Try.pinned (OpenSpec.ofChange fnExactTickSpec)

/-- ITS FALSE NEIGHBOUR: 'it returns false'. Refute it at one input. -/
def fnExactTickWrong : ChangeSpec := { name := "fnExactTick", fn := fun _ => fun
  | [d1, d2] => { results := [.lit (.bool false)], args := [d1, d2] }
  | _ => none }
def FnExactTickWrongFalsely : Prop := fnExactTickRow.holds Try.pinned (OpenSpec.ofChange fnExactTickWrong)

/-- 'laws.FnExactQuery': WHATEVER THE INPUT: true; the input reads as it did. -/
def fnExactQuerySpec : ChangeSpec := { name := "fnExactQuery", fn := fun _ => fun
  | [d1, d2, d3, d4] => { results := [.lit (.bool true)], args := [d1, d2, d3, d4] }
  | _ => none }
def fnExactQueryRow : OpenClaim := { program := "ytcjpedolmnahfaa", sum := "340b4d872d8b7cd7a5bac47ea0fab9cb1a45fc34a5ee6129b166eeb8f20f7508", func := "loop.example/g00617/laws.FnExactQuery", spec := "fnExactQuery", unfollowed := true, recurses := true, apart := false }
def FnExactQuerySaid : Prop := fnExactQueryRow.holds Try.pinned (OpenSpec.ofChange fnExactQuerySpec)

/-- ITS FALSE NEIGHBOUR: 'it returns false'. Refute it at one input. -/
def fnExactQueryWrong : ChangeSpec := { name := "fnExactQuery", fn := fun _ => fun
  | [d1, d2, d3, d4] => { results := [.lit (.bool false)], args := [d1, d2, d3, d4] }
  | _ => none }
def FnExactQueryWrongFalsely : Prop := fnExactQueryRow.holds Try.pinned (OpenSpec.ofChange fnExactQueryWrong)

/- THE SECOND FORM. 'bulk': how many values and letters a reading holds, each counted each time it is reached (what is shared counts as often as it is met; a slice's spare places count too). A statement '..UptoSaid' is the law's where the arguments, and the package variables that the reading takes, are together of bulk at most 1048576: NARROWER than '..Said'. Prove '..Said' where nothing that the law and all that it calls make is longer than what came in: it says more and counts as full. Else prove '..UptoSaid'. A law counts once. -/
mutual
def uptoBulk {H : Type} : DataW H → Nat
  | .lit (.string bytes) => bytes.length + 1
  | .lit _ => 1
  | .nil => 1
  | .ptr d => uptoBulk d + 1
  | .slice elems spare => uptoBulkAll elems + uptoBulkAll spare + 1
  | .agg parts => uptoBulkAll parts + 1
  | .iface _ d => uptoBulk d + 1
  | .map entries => uptoBulkEntries entries + 1
  | .held _ => 1
def uptoBulkAll {H : Type} : List (DataW H) → Nat
  | [] => 0
  | d :: r => uptoBulk d + uptoBulkAll r
def uptoBulkEntries {H : Type} : List (Lit × DataW H) → Nat
  | [] => 0
  | x :: r => uptoBulkEntry x + uptoBulkEntries r
def uptoBulkEntry {H : Type} : Lit × DataW H → Nat
  | (.string bytes, d) => bytes.length + uptoBulk d + 1
  | (_, d) => uptoBulk d + 1
 end
def uptoSmall : (H : Type) → List (DataW H) → Bool := fun _ ds => decide (uptoBulkAll ds ≤ 1048576)
def OpenSpec.upto (s : _root_.Go.ChangeSpec) : _root_.Go.OpenSpec := { _root_.Go.OpenSpec.ofChange s with cond := some uptoSmall }

/-- 'laws.FnCascade', WHERE WHAT IT READS IS OF BULK AT MOST 1048576: true; the input reads as it did. -/
def fnCascadeUptoRow : OpenClaim := { program := "ytcjpedolmnahfaa", sum := "340b4d872d8b7cd7a5bac47ea0fab9cb1a45fc34a5ee6129b166eeb8f20f7508", func := "loop.example/g00617/laws.FnCascade", spec := "fnCascade", unfollowed := true, recurses := true, apart := false, narrowed := true }
def FnCascadeUptoSaid : Prop := fnCascadeUptoRow.holds Try.pinned (OpenSpec.upto fnCascadeSpec)

/-- 'laws.FnIngest', WHERE WHAT IT READS IS OF BULK AT MOST 1048576: true; the input reads as it did. -/
def fnIngestUptoRow : OpenClaim := { program := "ytcjpedolmnahfaa", sum := "340b4d872d8b7cd7a5bac47ea0fab9cb1a45fc34a5ee6129b166eeb8f20f7508", func := "loop.example/g00617/laws.FnIngest", spec := "fnIngest", unfollowed := true, recurses := true, apart := false, narrowed := true }
def FnIngestUptoSaid : Prop := fnIngestUptoRow.holds Try.pinned (OpenSpec.upto fnIngestSpec)

/-- 'laws.FnTick', WHERE WHAT IT READS IS OF BULK AT MOST 1048576: true; the input reads as it did. -/
def fnTickUptoRow : OpenClaim := { program := "ytcjpedolmnahfaa", sum := "340b4d872d8b7cd7a5bac47ea0fab9cb1a45fc34a5ee6129b166eeb8f20f7508", func := "loop.example/g00617/laws.FnTick", spec := "fnTick", unfollowed := true, recurses := true, apart := false, narrowed := true }
def FnTickUptoSaid : Prop := fnTickUptoRow.holds Try.pinned (OpenSpec.upto fnTickSpec)

/-- 'laws.FnDeeper', WHERE WHAT IT READS IS OF BULK AT MOST 1048576: true; the input reads as it did. -/
def fnDeeperUptoRow : OpenClaim := { program := "ytcjpedolmnahfaa", sum := "340b4d872d8b7cd7a5bac47ea0fab9cb1a45fc34a5ee6129b166eeb8f20f7508", func := "loop.example/g00617/laws.FnDeeper", spec := "fnDeeper", unfollowed := true, recurses := true, apart := false, narrowed := true }
def FnDeeperUptoSaid : Prop := fnDeeperUptoRow.holds Try.pinned (OpenSpec.upto fnDeeperSpec)

/-- 'laws.FnPick', WHERE WHAT IT READS IS OF BULK AT MOST 1048576: true; the input reads as it did. -/
def fnPickUptoRow : OpenClaim := { program := "ytcjpedolmnahfaa", sum := "340b4d872d8b7cd7a5bac47ea0fab9cb1a45fc34a5ee6129b166eeb8f20f7508", func := "loop.example/g00617/laws.FnPick", spec := "fnPick", unfollowed := true, recurses := true, apart := false, narrowed := true }
def FnPickUptoSaid : Prop := fnPickUptoRow.holds Try.pinned (OpenSpec.upto fnPickSpec)

/-- 'laws.FnQuery', WHERE WHAT IT READS IS OF BULK AT MOST 1048576: true; the input reads as it did. -/
def fnQueryUptoRow : OpenClaim := { program := "ytcjpedolmnahfaa", sum := "340b4d872d8b7cd7a5bac47ea0fab9cb1a45fc34a5ee6129b166eeb8f20f7508", func := "loop.example/g00617/laws.FnQuery", spec := "fnQuery", unfollowed := true, recurses := true, apart := false, narrowed := true }
def FnQueryUptoSaid : Prop := fnQueryUptoRow.holds Try.pinned (OpenSpec.upto fnQuerySpec)

/-- 'laws.FnKinds', WHERE WHAT IT READS IS OF BULK AT MOST 1048576: true; the input reads as it did. -/
def fnKindsUptoRow : OpenClaim := { program := "ytcjpedolmnahfaa", sum := "340b4d872d8b7cd7a5bac47ea0fab9cb1a45fc34a5ee6129b166eeb8f20f7508", func := "loop.example/g00617/laws.FnKinds", spec := "fnKinds", unfollowed := true, recurses := true, apart := false, narrowed := true }
def FnKindsUptoSaid : Prop := fnKindsUptoRow.holds Try.pinned (OpenSpec.upto fnKindsSpec)

/-- 'laws.FnExactIngest', WHERE WHAT IT READS IS OF BULK AT MOST 1048576: true; the input reads as it did. -/
def fnExactIngestUptoRow : OpenClaim := { program := "ytcjpedolmnahfaa", sum := "340b4d872d8b7cd7a5bac47ea0fab9cb1a45fc34a5ee6129b166eeb8f20f7508", func := "loop.example/g00617/laws.FnExactIngest", spec := "fnExactIngest", unfollowed := true, recurses := true, apart := false, narrowed := true }
def FnExactIngestUptoSaid : Prop := fnExactIngestUptoRow.holds Try.pinned (OpenSpec.upto fnExactIngestSpec)

/-- 'laws.FnExactTick', WHERE WHAT IT READS IS OF BULK AT MOST 1048576: true; the input reads as it did. -/
def fnExactTickUptoRow : OpenClaim := { program := "ytcjpedolmnahfaa", sum := "340b4d872d8b7cd7a5bac47ea0fab9cb1a45fc34a5ee6129b166eeb8f20f7508", func := "loop.example/g00617/laws.FnExactTick", spec := "fnExactTick", unfollowed := true, recurses := true, apart := false, narrowed := true }
def FnExactTickUptoSaid : Prop := fnExactTickUptoRow.holds Try.pinned (OpenSpec.upto fnExactTickSpec)

/-- 'laws.FnExactQuery', WHERE WHAT IT READS IS OF BULK AT MOST 1048576: true; the input reads as it did. -/
def fnExactQueryUptoRow : OpenClaim := { program := "ytcjpedolmnahfaa", sum := "340b4d872d8b7cd7a5bac47ea0fab9cb1a45fc34a5ee6129b166eeb8f20f7508", func := "loop.example/g00617/laws.FnExactQuery", spec := "fnExactQuery", unfollowed := true, recurses := true, apart := false, narrowed := true }
def FnExactQueryUptoSaid : Prop := fnExactQueryUptoRow.holds Try.pinned (OpenSpec.upto fnExactQuerySpec)

end Rows
end Go.Proofs.Ytcjpedolmnahfaa
