/-
  No cell of these rows narrows 'for every input' (looked for: loops, veiled, ifaces, maps, wideKeys, modest, calm, conditions, laid).
  DERIVED. THE GIVEN ROWS OF THIS SEAT. 7 by the template 'for every input the law returns true; each argument reads behind the call as it read before'; 0 by the template 'total and deterministic' (their statements: YtpmankbokbcmbaaTotals.lean).
  GIVEN WITH THE SEED: the statements are not yours to turn. If you find one false, say at which input.
  Laid BY PROGRAM, IN A SANDBOX (cutbox-rows.mjs): the forced cells as the released guide's own fill.sh prints them over the translation 492780be4745c8c1… (all of the seat's roots in one cut). By AI agents, Wed Nov 11 2026. No macro, syntax, notation, axiom, sorry.
-/
import Derived.Test.YtpmankbokbcmbaaChecked
import GoSem.Claim
import GoSem.ClaimJoined
import GoSem.ClaimMapViews
import Derived.JoinedTies
import Derived.KernelRfl
namespace Go.Proofs.Ytpmankbokbcmbaa
/- THE CELL 'sum', in the pinned program and in every row, IS THE sha256 OF THE DUMP (.gsa) THAT YtpmankbokbcmbaaProg.lean LOADS. Nothing in Lean hashes anything: it is a label: what it is worth is what the hold of that sum in a sandbox is worth. -/
noncomputable def Try.pinned : Pinned := { name := "ytpmankbokbcmbaa", sum := "492780be4745c8c187a2a31ecf2ea00483d2f2d155852d19a48a41cf0e1eb193", checked := Try.checked }
namespace Rows
def none {H : Type} : Left H := { results := [], args := [] }

/-- 'laws.FnExactAbove': WHATEVER THE INPUT: true; the input reads as it did. -/
def fnExactAboveSpec : ChangeSpec := { name := "fnExactAbove", fn := fun _ => fun
  | [d1, d2, d3] => { results := [.lit (.bool true)], args := [d1, d2, d3] }
  | _ => none }
def fnExactAboveRow : OpenClaim := { program := "ytpmankbokbcmbaa", sum := "492780be4745c8c187a2a31ecf2ea00483d2f2d155852d19a48a41cf0e1eb193", func := "loop.example/g00617/laws.FnExactAbove", spec := "fnExactAbove", unfollowed := true, recurses := true, apart := false }
def FnExactAboveSaid : Prop := fnExactAboveRow.holds Try.pinned (OpenSpec.ofChange fnExactAboveSpec)

/-- ITS FALSE NEIGHBOUR: 'it returns false'. Refute it at one input. -/
def fnExactAboveWrong : ChangeSpec := { name := "fnExactAbove", fn := fun _ => fun
  | [d1, d2, d3] => { results := [.lit (.bool false)], args := [d1, d2, d3] }
  | _ => none }
def FnExactAboveWrongFalsely : Prop := fnExactAboveRow.holds Try.pinned (OpenSpec.ofChange fnExactAboveWrong)

/-- 'laws.FnExactFiring': WHATEVER THE INPUT: true; the input reads as it did. -/
def fnExactFiringSpec : ChangeSpec := { name := "fnExactFiring", fn := fun _ => fun
  | [d1, d2, d3, d4] => { results := [.lit (.bool true)], args := [d1, d2, d3, d4] }
  | _ => none }
def fnExactFiringRow : OpenClaim := { program := "ytpmankbokbcmbaa", sum := "492780be4745c8c187a2a31ecf2ea00483d2f2d155852d19a48a41cf0e1eb193", func := "loop.example/g00617/laws.FnExactFiring", spec := "fnExactFiring", unfollowed := true, recurses := true, apart := false }
def FnExactFiringSaid : Prop := fnExactFiringRow.holds Try.pinned (OpenSpec.ofChange fnExactFiringSpec)

/-- ITS FALSE NEIGHBOUR: 'it returns false'. Refute it at one input. -/
def fnExactFiringWrong : ChangeSpec := { name := "fnExactFiring", fn := fun _ => fun
  | [d1, d2, d3, d4] => { results := [.lit (.bool false)], args := [d1, d2, d3, d4] }
  | _ => none }
def FnExactFiringWrongFalsely : Prop := fnExactFiringRow.holds Try.pinned (OpenSpec.ofChange fnExactFiringWrong)

/-- 'laws.FnAbove': WHATEVER THE INPUT: true; the input reads as it did. -/
def fnAboveSpec : ChangeSpec := { name := "fnAbove", fn := fun _ => fun
  | [d] => { results := [.lit (.bool true)], args := [d] }
  | _ => none }
def fnAboveRow : OpenClaim := { program := "ytpmankbokbcmbaa", sum := "492780be4745c8c187a2a31ecf2ea00483d2f2d155852d19a48a41cf0e1eb193", func := "loop.example/g00617/laws.FnAbove", spec := "fnAbove", unfollowed := true, recurses := true, apart := false }
def FnAboveSaid : Prop := fnAboveRow.holds Try.pinned (OpenSpec.ofChange fnAboveSpec)

/-- ITS FALSE NEIGHBOUR: 'it returns false'. Refute it at one input. -/
def fnAboveWrong : ChangeSpec := { name := "fnAbove", fn := fun _ => fun
  | [d] => { results := [.lit (.bool false)], args := [d] }
  | _ => none }
def FnAboveWrongFalsely : Prop := fnAboveRow.holds Try.pinned (OpenSpec.ofChange fnAboveWrong)

/-- 'laws.FnFiring': WHATEVER THE INPUT: true; the input reads as it did. -/
def fnFiringSpec : ChangeSpec := { name := "fnFiring", fn := fun _ => fun
  | [d] => { results := [.lit (.bool true)], args := [d] }
  | _ => none }
def fnFiringRow : OpenClaim := { program := "ytpmankbokbcmbaa", sum := "492780be4745c8c187a2a31ecf2ea00483d2f2d155852d19a48a41cf0e1eb193", func := "loop.example/g00617/laws.FnFiring", spec := "fnFiring", unfollowed := true, recurses := true, apart := false }
def FnFiringSaid : Prop := fnFiringRow.holds Try.pinned (OpenSpec.ofChange fnFiringSpec)

/-- ITS FALSE NEIGHBOUR: 'it returns false'. Refute it at one input. -/
def fnFiringWrong : ChangeSpec := { name := "fnFiring", fn := fun _ => fun
  | [d] => { results := [.lit (.bool false)], args := [d] }
  | _ => none }
def FnFiringWrongFalsely : Prop := fnFiringRow.holds Try.pinned (OpenSpec.ofChange fnFiringWrong)

/-- 'laws.FnHigher': WHATEVER THE INPUT: true; the input reads as it did. -/
def fnHigherSpec : ChangeSpec := { name := "fnHigher", fn := fun _ => fun
  | [d] => { results := [.lit (.bool true)], args := [d] }
  | _ => none }
def fnHigherRow : OpenClaim := { program := "ytpmankbokbcmbaa", sum := "492780be4745c8c187a2a31ecf2ea00483d2f2d155852d19a48a41cf0e1eb193", func := "loop.example/g00617/laws.FnHigher", spec := "fnHigher", unfollowed := true, recurses := true, apart := false }
def FnHigherSaid : Prop := fnHigherRow.holds Try.pinned (OpenSpec.ofChange fnHigherSpec)

/-- ITS FALSE NEIGHBOUR: 'it returns false'. Refute it at one input. -/
def fnHigherWrong : ChangeSpec := { name := "fnHigher", fn := fun _ => fun
  | [d] => { results := [.lit (.bool false)], args := [d] }
  | _ => none }
def FnHigherWrongFalsely : Prop := fnHigherRow.holds Try.pinned (OpenSpec.ofChange fnHigherWrong)

/-- 'laws.FnExactLineOk': WHATEVER THE INPUT: true; the input reads as it did. -/
def fnExactLineOkSpec : ChangeSpec := { name := "fnExactLineOk", fn := fun _ => fun
  | [d] => { results := [.lit (.bool true)], args := [d] }
  | _ => none }
def fnExactLineOkRow : OpenClaim := { program := "ytpmankbokbcmbaa", sum := "492780be4745c8c187a2a31ecf2ea00483d2f2d155852d19a48a41cf0e1eb193", func := "loop.example/g00617/laws.FnExactLineOk", spec := "fnExactLineOk", apart := false }
def FnExactLineOkSaid : Prop := fnExactLineOkRow.holds Try.pinned (OpenSpec.ofChange fnExactLineOkSpec)

/-- ITS FALSE NEIGHBOUR: 'it returns false'. Refute it at one input. -/
def fnExactLineOkWrong : ChangeSpec := { name := "fnExactLineOk", fn := fun _ => fun
  | [d] => { results := [.lit (.bool false)], args := [d] }
  | _ => none }
def FnExactLineOkWrongFalsely : Prop := fnExactLineOkRow.holds Try.pinned (OpenSpec.ofChange fnExactLineOkWrong)

/-- 'laws.FnExactDbOk': WHATEVER THE INPUT: true; the input reads as it did. -/
def fnExactDbOkSpec : ChangeSpec := { name := "fnExactDbOk", fn := fun _ => fun
  | [d] => { results := [.lit (.bool true)], args := [d] }
  | _ => none }
def fnExactDbOkRow : OpenClaim := { program := "ytpmankbokbcmbaa", sum := "492780be4745c8c187a2a31ecf2ea00483d2f2d155852d19a48a41cf0e1eb193", func := "loop.example/g00617/laws.FnExactDbOk", spec := "fnExactDbOk", inPlace := ["internal/abi.NoEscape", "internal/bytealg.MakeNoZero"], unfollowed := true, recurses := true, apart := false }
def FnExactDbOkSaid : Prop := fnExactDbOkRow.holds Try.pinned (OpenSpec.ofChange fnExactDbOkSpec)

/-- ITS FALSE NEIGHBOUR: 'it returns false'. Refute it at one input. -/
def fnExactDbOkWrong : ChangeSpec := { name := "fnExactDbOk", fn := fun _ => fun
  | [d] => { results := [.lit (.bool false)], args := [d] }
  | _ => none }
def FnExactDbOkWrongFalsely : Prop := fnExactDbOkRow.holds Try.pinned (OpenSpec.ofChange fnExactDbOkWrong)

/- THE SECOND FORM. 'bulk': how many values and letters a reading holds, each counted each time it is reached (what is shared counts as often as it is met; a slice's spare places count too). A statement '..UptoSaid' is the law's where the arguments, and the package variables that the reading takes, are together of bulk at most 1048576: NARROWER than '..Said'. Prove '..Said' where nothing that the law and all that it calls make is longer than what came in: it says more and counts as full. Else prove '..UptoSaid'. A law counts once. -/
mutual
def uptoBulk {H : Type} : DataW H → Nat
  | .lit (.string bytes) => bytes.length + 1
  | .lit _ => 1
  | .nil => 1
  | .ptr d => uptoBulk d + 1
  | .slice elems spare => uptoBulkAll elems + uptoBulkAll spare + 1
  | .agg parts => uptoBulkAll parts + 1
  | .iface _ d => uptoBulk d + 1
  | .map entries => uptoBulkEntries entries + 1
  | .held _ => 1
def uptoBulkAll {H : Type} : List (DataW H) → Nat
  | [] => 0
  | d :: r => uptoBulk d + uptoBulkAll r
def uptoBulkEntries {H : Type} : List (Lit × DataW H) → Nat
  | [] => 0
  | x :: r => uptoBulkEntry x + uptoBulkEntries r
def uptoBulkEntry {H : Type} : Lit × DataW H → Nat
  | (.string bytes, d) => bytes.length + uptoBulk d + 1
  | (_, d) => uptoBulk d + 1
 end
def uptoSmall : (H : Type) → List (DataW H) → Bool := fun _ ds => decide (uptoBulkAll ds ≤ 1048576)
def OpenSpec.upto (s : _root_.Go.ChangeSpec) : _root_.Go.OpenSpec := { _root_.Go.OpenSpec.ofChange s with cond := some uptoSmall }

/-- 'laws.FnExactAbove', WHERE WHAT IT READS IS OF BULK AT MOST 1048576: true; the input reads as it did. -/
def fnExactAboveUptoRow : OpenClaim := { program := "ytpmankbokbcmbaa", sum := "492780be4745c8c187a2a31ecf2ea00483d2f2d155852d19a48a41cf0e1eb193", func := "loop.example/g00617/laws.FnExactAbove", spec := "fnExactAbove", unfollowed := true, recurses := true, apart := false, narrowed := true }
def FnExactAboveUptoSaid : Prop := fnExactAboveUptoRow.holds Try.pinned (OpenSpec.upto fnExactAboveSpec)

/-- 'laws.FnExactFiring', WHERE WHAT IT READS IS OF BULK AT MOST 1048576: true; the input reads as it did. -/
def fnExactFiringUptoRow : OpenClaim := { program := "ytpmankbokbcmbaa", sum := "492780be4745c8c187a2a31ecf2ea00483d2f2d155852d19a48a41cf0e1eb193", func := "loop.example/g00617/laws.FnExactFiring", spec := "fnExactFiring", unfollowed := true, recurses := true, apart := false, narrowed := true }
def FnExactFiringUptoSaid : Prop := fnExactFiringUptoRow.holds Try.pinned (OpenSpec.upto fnExactFiringSpec)

/-- 'laws.FnAbove', WHERE WHAT IT READS IS OF BULK AT MOST 1048576: true; the input reads as it did. -/
def fnAboveUptoRow : OpenClaim := { program := "ytpmankbokbcmbaa", sum := "492780be4745c8c187a2a31ecf2ea00483d2f2d155852d19a48a41cf0e1eb193", func := "loop.example/g00617/laws.FnAbove", spec := "fnAbove", unfollowed := true, recurses := true, apart := false, narrowed := true }
def FnAboveUptoSaid : Prop := fnAboveUptoRow.holds Try.pinned (OpenSpec.upto fnAboveSpec)

/-- 'laws.FnFiring', WHERE WHAT IT READS IS OF BULK AT MOST 1048576: true; the input reads as it did. -/
def fnFiringUptoRow : OpenClaim := { program := "ytpmankbokbcmbaa", sum := "492780be4745c8c187a2a31ecf2ea00483d2f2d155852d19a48a41cf0e1eb193", func := "loop.example/g00617/laws.FnFiring", spec := "fnFiring", unfollowed := true, recurses := true, apart := false, narrowed := true }
def FnFiringUptoSaid : Prop := fnFiringUptoRow.holds Try.pinned (OpenSpec.upto fnFiringSpec)

/-- 'laws.FnHigher', WHERE WHAT IT READS IS OF BULK AT MOST 1048576: true; the input reads as it did. -/
def fnHigherUptoRow : OpenClaim := { program := "ytpmankbokbcmbaa", sum := "492780be4745c8c187a2a31ecf2ea00483d2f2d155852d19a48a41cf0e1eb193", func := "loop.example/g00617/laws.FnHigher", spec := "fnHigher", unfollowed := true, recurses := true, apart := false, narrowed := true }
def FnHigherUptoSaid : Prop := fnHigherUptoRow.holds Try.pinned (OpenSpec.upto fnHigherSpec)

/-- 'laws.FnExactLineOk', WHERE WHAT IT READS IS OF BULK AT MOST 1048576: true; the input reads as it did. -/
def fnExactLineOkUptoRow : OpenClaim := { program := "ytpmankbokbcmbaa", sum := "492780be4745c8c187a2a31ecf2ea00483d2f2d155852d19a48a41cf0e1eb193", func := "loop.example/g00617/laws.FnExactLineOk", spec := "fnExactLineOk", apart := false, narrowed := true }
def FnExactLineOkUptoSaid : Prop := fnExactLineOkUptoRow.holds Try.pinned (OpenSpec.upto fnExactLineOkSpec)

/-- 'laws.FnExactDbOk', WHERE WHAT IT READS IS OF BULK AT MOST 1048576: true; the input reads as it did. -/
def fnExactDbOkUptoRow : OpenClaim := { program := "ytpmankbokbcmbaa", sum := "492780be4745c8c187a2a31ecf2ea00483d2f2d155852d19a48a41cf0e1eb193", func := "loop.example/g00617/laws.FnExactDbOk", spec := "fnExactDbOk", inPlace := ["internal/abi.NoEscape", "internal/bytealg.MakeNoZero"], unfollowed := true, recurses := true, apart := false, narrowed := true }
def FnExactDbOkUptoSaid : Prop := fnExactDbOkUptoRow.holds Try.pinned (OpenSpec.upto fnExactDbOkSpec)

end Rows
end Go.Proofs.Ytpmankbokbcmbaa
