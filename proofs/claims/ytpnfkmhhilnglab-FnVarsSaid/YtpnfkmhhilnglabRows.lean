/-
  No cell of these rows narrows 'for every input' (looked for: loops, veiled, ifaces, maps, wideKeys, modest, calm, conditions, laid).
  DERIVED. THE GIVEN ROWS OF THIS SEAT. 7 by the template 'for every input the law returns true; each argument reads behind the call as it read before'; 0 by the template 'total and deterministic' (their statements: YtpnfkmhhilnglabTotals.lean).
  GIVEN WITH THE SEED: the statements are not yours to turn. If you find one false, say at which input.
  Laid BY PROGRAM, IN A SANDBOX (cutbox-rows.mjs): the forced cells as the released guide's own fill.sh prints them over the translation aa034d24358e4d3f… (all of the seat's roots in one cut). By AI agents, Wed Nov 11 2026. No macro, syntax, notation, axiom, sorry.
-/
import Derived.Test.YtpnfkmhhilnglabChecked
import GoSem.Claim
import GoSem.ClaimJoined
import GoSem.ClaimMapViews
import Derived.JoinedTies
import Derived.KernelRfl
namespace Go.Proofs.Ytpnfkmhhilnglab
/- THE CELL 'sum', in the pinned program and in every row, IS THE sha256 OF THE DUMP (.gsa) THAT YtpnfkmhhilnglabProg.lean LOADS. Nothing in Lean hashes anything: it is a label: what it is worth is what the hold of that sum in a sandbox is worth. -/
noncomputable def Try.pinned : Pinned := { name := "ytpnfkmhhilnglab", sum := "aa034d24358e4d3f85c9671cd8df593ff95573a547e4ce73e76c9dd1585ae7d4", checked := Try.checked }
namespace Rows
def none {H : Type} : Left H := { results := [], args := [] }

/-- 'laws.FnVars': WHATEVER THE INPUT: true; the input reads as it did. -/
def fnVarsSpec : ChangeSpec := { name := "fnVars", fn := fun _ => fun
  | [d] => { results := [.lit (.bool true)], args := [d] }
  | _ => none }
def fnVarsRow : OpenClaim := { program := "ytpnfkmhhilnglab", sum := "aa034d24358e4d3f85c9671cd8df593ff95573a547e4ce73e76c9dd1585ae7d4", func := "loop.example/g00617/laws.FnVars", spec := "fnVars", unfollowed := true, recurses := true, apart := false }
def FnVarsSaid : Prop := fnVarsRow.holds Try.pinned (OpenSpec.ofChange fnVarsSpec)

/-- ITS FALSE NEIGHBOUR: 'it returns false'. Refute it at one input. -/
def fnVarsWrong : ChangeSpec := { name := "fnVars", fn := fun _ => fun
  | [d] => { results := [.lit (.bool false)], args := [d] }
  | _ => none }
def FnVarsWrongFalsely : Prop := fnVarsRow.holds Try.pinned (OpenSpec.ofChange fnVarsWrong)

/-- 'laws.FnExactVarOf': WHATEVER THE INPUT: true; the input reads as it did. -/
def fnExactVarOfSpec : ChangeSpec := { name := "fnExactVarOf", fn := fun _ => fun
  | [d] => { results := [.lit (.bool true)], args := [d] }
  | _ => none }
def fnExactVarOfRow : OpenClaim := { program := "ytpnfkmhhilnglab", sum := "aa034d24358e4d3f85c9671cd8df593ff95573a547e4ce73e76c9dd1585ae7d4", func := "loop.example/g00617/laws.FnExactVarOf", spec := "fnExactVarOf", unfollowed := true, recurses := true, apart := false }
def FnExactVarOfSaid : Prop := fnExactVarOfRow.holds Try.pinned (OpenSpec.ofChange fnExactVarOfSpec)

/-- ITS FALSE NEIGHBOUR: 'it returns false'. Refute it at one input. -/
def fnExactVarOfWrong : ChangeSpec := { name := "fnExactVarOf", fn := fun _ => fun
  | [d] => { results := [.lit (.bool false)], args := [d] }
  | _ => none }
def FnExactVarOfWrongFalsely : Prop := fnExactVarOfRow.holds Try.pinned (OpenSpec.ofChange fnExactVarOfWrong)

/-- 'laws.FnExactReadVar': WHATEVER THE INPUT: true; the input reads as it did. -/
def fnExactReadVarSpec : ChangeSpec := { name := "fnExactReadVar", fn := fun _ => fun
  | [d] => { results := [.lit (.bool true)], args := [d] }
  | _ => none }
def fnExactReadVarRow : OpenClaim := { program := "ytpnfkmhhilnglab", sum := "aa034d24358e4d3f85c9671cd8df593ff95573a547e4ce73e76c9dd1585ae7d4", func := "loop.example/g00617/laws.FnExactReadVar", spec := "fnExactReadVar", unfollowed := true, recurses := true, apart := false }
def FnExactReadVarSaid : Prop := fnExactReadVarRow.holds Try.pinned (OpenSpec.ofChange fnExactReadVarSpec)

/-- ITS FALSE NEIGHBOUR: 'it returns false'. Refute it at one input. -/
def fnExactReadVarWrong : ChangeSpec := { name := "fnExactReadVar", fn := fun _ => fun
  | [d] => { results := [.lit (.bool false)], args := [d] }
  | _ => none }
def FnExactReadVarWrongFalsely : Prop := fnExactReadVarRow.holds Try.pinned (OpenSpec.ofChange fnExactReadVarWrong)

/-- 'laws.FnExactVarsOf': WHATEVER THE INPUT: true; the input reads as it did. -/
def fnExactVarsOfSpec : ChangeSpec := { name := "fnExactVarsOf", fn := fun _ => fun
  | [d] => { results := [.lit (.bool true)], args := [d] }
  | _ => none }
def fnExactVarsOfRow : OpenClaim := { program := "ytpnfkmhhilnglab", sum := "aa034d24358e4d3f85c9671cd8df593ff95573a547e4ce73e76c9dd1585ae7d4", func := "loop.example/g00617/laws.FnExactVarsOf", spec := "fnExactVarsOf", unfollowed := true, recurses := true, apart := false }
def FnExactVarsOfSaid : Prop := fnExactVarsOfRow.holds Try.pinned (OpenSpec.ofChange fnExactVarsOfSpec)

/-- ITS FALSE NEIGHBOUR: 'it returns false'. Refute it at one input. -/
def fnExactVarsOfWrong : ChangeSpec := { name := "fnExactVarsOf", fn := fun _ => fun
  | [d] => { results := [.lit (.bool false)], args := [d] }
  | _ => none }
def FnExactVarsOfWrongFalsely : Prop := fnExactVarsOfRow.holds Try.pinned (OpenSpec.ofChange fnExactVarsOfWrong)

/-- 'laws.FnExactReadVars': WHATEVER THE INPUT: true; the input reads as it did. -/
def fnExactReadVarsSpec : ChangeSpec := { name := "fnExactReadVars", fn := fun _ => fun
  | [d] => { results := [.lit (.bool true)], args := [d] }
  | _ => none }
def fnExactReadVarsRow : OpenClaim := { program := "ytpnfkmhhilnglab", sum := "aa034d24358e4d3f85c9671cd8df593ff95573a547e4ce73e76c9dd1585ae7d4", func := "loop.example/g00617/laws.FnExactReadVars", spec := "fnExactReadVars", unfollowed := true, recurses := true, apart := false }
def FnExactReadVarsSaid : Prop := fnExactReadVarsRow.holds Try.pinned (OpenSpec.ofChange fnExactReadVarsSpec)

/-- ITS FALSE NEIGHBOUR: 'it returns false'. Refute it at one input. -/
def fnExactReadVarsWrong : ChangeSpec := { name := "fnExactReadVars", fn := fun _ => fun
  | [d] => { results := [.lit (.bool false)], args := [d] }
  | _ => none }
def FnExactReadVarsWrongFalsely : Prop := fnExactReadVarsRow.holds Try.pinned (OpenSpec.ofChange fnExactReadVarsWrong)

/-- 'laws.FnExactLead': WHATEVER THE INPUT: true; the input reads as it did. -/
def fnExactLeadSpec : ChangeSpec := { name := "fnExactLead", fn := fun _ => fun
  | [d] => { results := [.lit (.bool true)], args := [d] }
  | _ => none }
def fnExactLeadRow : OpenClaim := { program := "ytpnfkmhhilnglab", sum := "aa034d24358e4d3f85c9671cd8df593ff95573a547e4ce73e76c9dd1585ae7d4", func := "loop.example/g00617/laws.FnExactLead", spec := "fnExactLead", apart := false }
def FnExactLeadSaid : Prop := fnExactLeadRow.holds Try.pinned (OpenSpec.ofChange fnExactLeadSpec)

/-- ITS FALSE NEIGHBOUR: 'it returns false'. Refute it at one input. -/
def fnExactLeadWrong : ChangeSpec := { name := "fnExactLead", fn := fun _ => fun
  | [d] => { results := [.lit (.bool false)], args := [d] }
  | _ => none }
def FnExactLeadWrongFalsely : Prop := fnExactLeadRow.holds Try.pinned (OpenSpec.ofChange fnExactLeadWrong)

/-- 'laws.FnExactZag': WHATEVER THE INPUT: true; the input reads as it did. -/
def fnExactZagSpec : ChangeSpec := { name := "fnExactZag", fn := fun _ => fun
  | [d] => { results := [.lit (.bool true)], args := [d] }
  | _ => none }
def fnExactZagRow : OpenClaim := { program := "ytpnfkmhhilnglab", sum := "aa034d24358e4d3f85c9671cd8df593ff95573a547e4ce73e76c9dd1585ae7d4", func := "loop.example/g00617/laws.FnExactZag", spec := "fnExactZag", apart := false }
def FnExactZagSaid : Prop := fnExactZagRow.holds Try.pinned (OpenSpec.ofChange fnExactZagSpec)

/-- ITS FALSE NEIGHBOUR: 'it returns false'. Refute it at one input. -/
def fnExactZagWrong : ChangeSpec := { name := "fnExactZag", fn := fun _ => fun
  | [d] => { results := [.lit (.bool false)], args := [d] }
  | _ => none }
def FnExactZagWrongFalsely : Prop := fnExactZagRow.holds Try.pinned (OpenSpec.ofChange fnExactZagWrong)

/- THE SECOND FORM. 'bulk': how many values and letters a reading holds, each counted each time it is reached (what is shared counts as often as it is met; a slice's spare places count too). A statement '..UptoSaid' is the law's where the arguments, and the package variables that the reading takes, are together of bulk at most 1048576: NARROWER than '..Said'. Prove '..Said' where nothing that the law and all that it calls make is longer than what came in: it says more and counts as full. Else prove '..UptoSaid'. A law counts once. -/
mutual
def uptoBulk {H : Type} : DataW H → Nat
  | .lit (.string bytes) => bytes.length + 1
  | .lit _ => 1
  | .nil => 1
  | .ptr d => uptoBulk d + 1
  | .slice elems spare => uptoBulkAll elems + uptoBulkAll spare + 1
  | .agg parts => uptoBulkAll parts + 1
  | .iface _ d => uptoBulk d + 1
  | .map entries => uptoBulkEntries entries + 1
  | .held _ => 1
def uptoBulkAll {H : Type} : List (DataW H) → Nat
  | [] => 0
  | d :: r => uptoBulk d + uptoBulkAll r
def uptoBulkEntries {H : Type} : List (Lit × DataW H) → Nat
  | [] => 0
  | x :: r => uptoBulkEntry x + uptoBulkEntries r
def uptoBulkEntry {H : Type} : Lit × DataW H → Nat
  | (.string bytes, d) => bytes.length + uptoBulk d + 1
  | (_, d) => uptoBulk d + 1
 end
def uptoSmall : (H : Type) → List (DataW H) → Bool := fun _ ds => decide (uptoBulkAll ds ≤ 1048576)
def OpenSpec.upto (s : _root_.Go.ChangeSpec) : _root_.Go.OpenSpec := { _root_.Go.OpenSpec.ofChange s with cond := some uptoSmall }

/-- 'laws.FnVars', WHERE WHAT IT READS IS OF BULK AT MOST 1048576: true; the input reads as it did. -/
def fnVarsUptoRow : OpenClaim := { program := "ytpnfkmhhilnglab", sum := "aa034d24358e4d3f85c9671cd8df593ff95573a547e4ce73e76c9dd1585ae7d4", func := "loop.example/g00617/laws.FnVars", spec := "fnVars", unfollowed := true, recurses := true, apart := false, narrowed := true }
def FnVarsUptoSaid : Prop := fnVarsUptoRow.holds Try.pinned (OpenSpec.upto fnVarsSpec)

/-- 'laws.FnExactVarOf', WHERE WHAT IT READS IS OF BULK AT MOST 1048576: true; the input reads as it did. -/
def fnExactVarOfUptoRow : OpenClaim := { program := "ytpnfkmhhilnglab", sum := "aa034d24358e4d3f85c9671cd8df593ff95573a547e4ce73e76c9dd1585ae7d4", func := "loop.example/g00617/laws.FnExactVarOf", spec := "fnExactVarOf", unfollowed := true, recurses := true, apart := false, narrowed := true }
def FnExactVarOfUptoSaid : Prop := fnExactVarOfUptoRow.holds Try.pinned (OpenSpec.upto fnExactVarOfSpec)

/-- 'laws.FnExactReadVar', WHERE WHAT IT READS IS OF BULK AT MOST 1048576: true; the input reads as it did. -/
def fnExactReadVarUptoRow : OpenClaim := { program := "ytpnfkmhhilnglab", sum := "aa034d24358e4d3f85c9671cd8df593ff95573a547e4ce73e76c9dd1585ae7d4", func := "loop.example/g00617/laws.FnExactReadVar", spec := "fnExactReadVar", unfollowed := true, recurses := true, apart := false, narrowed := true }
def FnExactReadVarUptoSaid : Prop := fnExactReadVarUptoRow.holds Try.pinned (OpenSpec.upto fnExactReadVarSpec)

/-- 'laws.FnExactVarsOf', WHERE WHAT IT READS IS OF BULK AT MOST 1048576: true; the input reads as it did. -/
def fnExactVarsOfUptoRow : OpenClaim := { program := "ytpnfkmhhilnglab", sum := "aa034d24358e4d3f85c9671cd8df593ff95573a547e4ce73e76c9dd1585ae7d4", func := "loop.example/g00617/laws.FnExactVarsOf", spec := "fnExactVarsOf", unfollowed := true, recurses := true, apart := false, narrowed := true }
def FnExactVarsOfUptoSaid : Prop := fnExactVarsOfUptoRow.holds Try.pinned (OpenSpec.upto fnExactVarsOfSpec)

/-- 'laws.FnExactReadVars', WHERE WHAT IT READS IS OF BULK AT MOST 1048576: true; the input reads as it did. -/
def fnExactReadVarsUptoRow : OpenClaim := { program := "ytpnfkmhhilnglab", sum := "aa034d24358e4d3f85c9671cd8df593ff95573a547e4ce73e76c9dd1585ae7d4", func := "loop.example/g00617/laws.FnExactReadVars", spec := "fnExactReadVars", unfollowed := true, recurses := true, apart := false, narrowed := true }
def FnExactReadVarsUptoSaid : Prop := fnExactReadVarsUptoRow.holds Try.pinned (OpenSpec.upto fnExactReadVarsSpec)

/-- 'laws.FnExactLead', WHERE WHAT IT READS IS OF BULK AT MOST 1048576: true; the input reads as it did. -/
def fnExactLeadUptoRow : OpenClaim := { program := "ytpnfkmhhilnglab", sum := "aa034d24358e4d3f85c9671cd8df593ff95573a547e4ce73e76c9dd1585ae7d4", func := "loop.example/g00617/laws.FnExactLead", spec := "fnExactLead", apart := false, narrowed := true }
def FnExactLeadUptoSaid : Prop := fnExactLeadUptoRow.holds Try.pinned (OpenSpec.upto fnExactLeadSpec)

/-- 'laws.FnExactZag', WHERE WHAT IT READS IS OF BULK AT MOST 1048576: true; the input reads as it did. -/
def fnExactZagUptoRow : OpenClaim := { program := "ytpnfkmhhilnglab", sum := "aa034d24358e4d3f85c9671cd8df593ff95573a547e4ce73e76c9dd1585ae7d4", func := "loop.example/g00617/laws.FnExactZag", spec := "fnExactZag", apart := false, narrowed := true }
def FnExactZagUptoSaid : Prop := fnExactZagUptoRow.holds Try.pinned (OpenSpec.upto fnExactZagSpec)

end Rows
end Go.Proofs.Ytpnfkmhhilnglab
