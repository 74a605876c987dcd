/-
  NARROWER THAN 'FOR EVERY INPUT', by the rows' own cells (each row's printed sentence says how): FnChunks: laid · FnChunkAt: laid · FnDropped: laid · FnRechunked: laid · FnDroppedTwice: laid · FnExactChunks: laid · FnExactUnchunked: laid · FnExactChunkAt: laid · FnExactDropChunks: laid · FnExactRechunked: laid.
  DERIVED. THE GIVEN ROWS OF THIS SEAT. 10 by the template 'for every input the law returns true; each argument reads behind the call as it read before'; 0 by the template 'total and deterministic' (their statements: YtanoohfhifhhaaaDoorTotals.lean).
  GIVEN WITH THE SEED: the statements are not yours to turn. If you find one false, say at which input.
  Laid BY PROGRAM, IN A SANDBOX (cutbox-rows.mjs): the forced cells as the released guide's own fill.sh prints them over the translation 2dbb356ab794f228… (all of the seat's roots in one cut). By AI agents, Wed Nov 11 2026. No macro, syntax, notation, axiom, sorry.
-/
import Derived.Test.YtanoohfhifhhaaaDoorChecked
import GoSem.Claim
import GoSem.ClaimJoined
import GoSem.ClaimMapViews
import Derived.JoinedTies
import Derived.KernelRfl
namespace Go.Proofs.YtanoohfhifhhaaaDoor
/- THE CELL 'sum', in the pinned program and in every row, IS THE sha256 OF THE DUMP (.gsa) THAT YtanoohfhifhhaaaDoorProg.lean LOADS. Nothing in Lean hashes anything: it is a label: what it is worth is what the hold of that sum in a sandbox is worth. -/
noncomputable def Tryd.pinned : Pinned := { name := "ytanoohfhifhhaaadoor", sum := "2dbb356ab794f228a0a5697851876fc3a2af67f33de0e5a86be7ae5ec26196ce", checked := Tryd.checked }
namespace Rows
def none {H : Type} : Left H := { results := [], args := [] }

/- WHAT THE LISTED PACKAGE-LEVEL VARIABLES READ AS WHEN THE CALL BEGINS. Each datum BY PROGRAM (the guide's laid-datum.mjs) off the statement by which the dump's own 'gosem.cut.vars' lays the variable. In a bare row this is a premise. The card (YtanoohfhifhhaaaDoorCards.lean) ties it to the program's text. -/
def laid_math_bits_deBruijn64tab {H : Type} : DataW H := .agg [.lit (.int .u8 0), .lit (.int .u8 1), .lit (.int .u8 56), .lit (.int .u8 2), .lit (.int .u8 57), .lit (.int .u8 49), .lit (.int .u8 28), .lit (.int .u8 3), .lit (.int .u8 61), .lit (.int .u8 58), .lit (.int .u8 42), .lit (.int .u8 50), .lit (.int .u8 38), .lit (.int .u8 29), .lit (.int .u8 17), .lit (.int .u8 4), .lit (.int .u8 62), .lit (.int .u8 47), .lit (.int .u8 59), .lit (.int .u8 36), .lit (.int .u8 45), .lit (.int .u8 43), .lit (.int .u8 51), .lit (.int .u8 22), .lit (.int .u8 53), .lit (.int .u8 39), .lit (.int .u8 33), .lit (.int .u8 30), .lit (.int .u8 24), .lit (.int .u8 18), .lit (.int .u8 12), .lit (.int .u8 5), .lit (.int .u8 63), .lit (.int .u8 55), .lit (.int .u8 48), .lit (.int .u8 27), .lit (.int .u8 60), .lit (.int .u8 41), .lit (.int .u8 37), .lit (.int .u8 16), .lit (.int .u8 46), .lit (.int .u8 35), .lit (.int .u8 44), .lit (.int .u8 21), .lit (.int .u8 52), .lit (.int .u8 32), .lit (.int .u8 23), .lit (.int .u8 11), .lit (.int .u8 54), .lit (.int .u8 26), .lit (.int .u8 40), .lit (.int .u8 15), .lit (.int .u8 34), .lit (.int .u8 20), .lit (.int .u8 31), .lit (.int .u8 10), .lit (.int .u8 25), .lit (.int .u8 14), .lit (.int .u8 19), .lit (.int .u8 9), .lit (.int .u8 13), .lit (.int .u8 8), .lit (.int .u8 7), .lit (.int .u8 6)]

/-- 'laws.FnChunks': WHATEVER THE INPUT: true; the input reads as it did. -/
def fnChunksSpec : ChangeSpec := { name := "fnChunks", fn := fun _ => fun
  | [d] => { results := [.lit (.bool true)], args := [d] }
  | _ => none }
def fnChunksRow : OpenClaim := { program := "ytanoohfhifhhaaadoor", sum := "2dbb356ab794f228a0a5697851876fc3a2af67f33de0e5a86be7ae5ec26196ce", func := "loop.example/g00617/laws.FnChunks", spec := "fnChunks", unfollowed := true, recurses := true, named := ["math/bits.deBruijn64tab"], apart := false, laid := [("math/bits.deBruijn64tab", laid_math_bits_deBruijn64tab)] }
def FnChunksSaid : Prop := fnChunksRow.holds Tryd.pinned (OpenSpec.ofChange fnChunksSpec)

/-- ITS FALSE NEIGHBOUR: 'it returns false'. Refute it at one input. -/
def fnChunksWrong : ChangeSpec := { name := "fnChunks", fn := fun _ => fun
  | [d] => { results := [.lit (.bool false)], args := [d] }
  | _ => none }
def FnChunksWrongFalsely : Prop := fnChunksRow.holds Tryd.pinned (OpenSpec.ofChange fnChunksWrong)

/-- 'laws.FnChunkAt': WHATEVER THE INPUT: true; the input reads as it did. -/
def fnChunkAtSpec : ChangeSpec := { name := "fnChunkAt", fn := fun _ => fun
  | [d] => { results := [.lit (.bool true)], args := [d] }
  | _ => none }
def fnChunkAtRow : OpenClaim := { program := "ytanoohfhifhhaaadoor", sum := "2dbb356ab794f228a0a5697851876fc3a2af67f33de0e5a86be7ae5ec26196ce", func := "loop.example/g00617/laws.FnChunkAt", spec := "fnChunkAt", unfollowed := true, recurses := true, named := ["math/bits.deBruijn64tab"], apart := false, laid := [("math/bits.deBruijn64tab", laid_math_bits_deBruijn64tab)] }
def FnChunkAtSaid : Prop := fnChunkAtRow.holds Tryd.pinned (OpenSpec.ofChange fnChunkAtSpec)

/-- ITS FALSE NEIGHBOUR: 'it returns false'. Refute it at one input. -/
def fnChunkAtWrong : ChangeSpec := { name := "fnChunkAt", fn := fun _ => fun
  | [d] => { results := [.lit (.bool false)], args := [d] }
  | _ => none }
def FnChunkAtWrongFalsely : Prop := fnChunkAtRow.holds Tryd.pinned (OpenSpec.ofChange fnChunkAtWrong)

/-- 'laws.FnDropped': WHATEVER THE INPUT: true; the input reads as it did. -/
def fnDroppedSpec : ChangeSpec := { name := "fnDropped", fn := fun _ => fun
  | [d] => { results := [.lit (.bool true)], args := [d] }
  | _ => none }
def fnDroppedRow : OpenClaim := { program := "ytanoohfhifhhaaadoor", sum := "2dbb356ab794f228a0a5697851876fc3a2af67f33de0e5a86be7ae5ec26196ce", func := "loop.example/g00617/laws.FnDropped", spec := "fnDropped", unfollowed := true, recurses := true, named := ["math/bits.deBruijn64tab"], apart := false, laid := [("math/bits.deBruijn64tab", laid_math_bits_deBruijn64tab)] }
def FnDroppedSaid : Prop := fnDroppedRow.holds Tryd.pinned (OpenSpec.ofChange fnDroppedSpec)

/-- ITS FALSE NEIGHBOUR: 'it returns false'. Refute it at one input. -/
def fnDroppedWrong : ChangeSpec := { name := "fnDropped", fn := fun _ => fun
  | [d] => { results := [.lit (.bool false)], args := [d] }
  | _ => none }
def FnDroppedWrongFalsely : Prop := fnDroppedRow.holds Tryd.pinned (OpenSpec.ofChange fnDroppedWrong)

/-- 'laws.FnRechunked': WHATEVER THE INPUT: true; the input reads as it did. -/
def fnRechunkedSpec : ChangeSpec := { name := "fnRechunked", fn := fun _ => fun
  | [d] => { results := [.lit (.bool true)], args := [d] }
  | _ => none }
def fnRechunkedRow : OpenClaim := { program := "ytanoohfhifhhaaadoor", sum := "2dbb356ab794f228a0a5697851876fc3a2af67f33de0e5a86be7ae5ec26196ce", func := "loop.example/g00617/laws.FnRechunked", spec := "fnRechunked", unfollowed := true, recurses := true, named := ["math/bits.deBruijn64tab"], apart := false, laid := [("math/bits.deBruijn64tab", laid_math_bits_deBruijn64tab)] }
def FnRechunkedSaid : Prop := fnRechunkedRow.holds Tryd.pinned (OpenSpec.ofChange fnRechunkedSpec)

/-- ITS FALSE NEIGHBOUR: 'it returns false'. Refute it at one input. -/
def fnRechunkedWrong : ChangeSpec := { name := "fnRechunked", fn := fun _ => fun
  | [d] => { results := [.lit (.bool false)], args := [d] }
  | _ => none }
def FnRechunkedWrongFalsely : Prop := fnRechunkedRow.holds Tryd.pinned (OpenSpec.ofChange fnRechunkedWrong)

/-- 'laws.FnDroppedTwice': WHATEVER THE INPUT: true; the input reads as it did. -/
def fnDroppedTwiceSpec : ChangeSpec := { name := "fnDroppedTwice", fn := fun _ => fun
  | [d] => { results := [.lit (.bool true)], args := [d] }
  | _ => none }
def fnDroppedTwiceRow : OpenClaim := { program := "ytanoohfhifhhaaadoor", sum := "2dbb356ab794f228a0a5697851876fc3a2af67f33de0e5a86be7ae5ec26196ce", func := "loop.example/g00617/laws.FnDroppedTwice", spec := "fnDroppedTwice", unfollowed := true, recurses := true, named := ["math/bits.deBruijn64tab"], apart := false, laid := [("math/bits.deBruijn64tab", laid_math_bits_deBruijn64tab)] }
def FnDroppedTwiceSaid : Prop := fnDroppedTwiceRow.holds Tryd.pinned (OpenSpec.ofChange fnDroppedTwiceSpec)

/-- ITS FALSE NEIGHBOUR: 'it returns false'. Refute it at one input. -/
def fnDroppedTwiceWrong : ChangeSpec := { name := "fnDroppedTwice", fn := fun _ => fun
  | [d] => { results := [.lit (.bool false)], args := [d] }
  | _ => none }
def FnDroppedTwiceWrongFalsely : Prop := fnDroppedTwiceRow.holds Tryd.pinned (OpenSpec.ofChange fnDroppedTwiceWrong)

/-- 'laws.FnExactChunks': WHATEVER THE INPUT: true; the input reads as it did. -/
def fnExactChunksSpec : ChangeSpec := { name := "fnExactChunks", fn := fun _ => fun
  | [d1, d2] => { results := [.lit (.bool true)], args := [d1, d2] }
  | _ => none }
def fnExactChunksRow : OpenClaim := { program := "ytanoohfhifhhaaadoor", sum := "2dbb356ab794f228a0a5697851876fc3a2af67f33de0e5a86be7ae5ec26196ce", func := "loop.example/g00617/laws.FnExactChunks", spec := "fnExactChunks", unfollowed := true, recurses := true, named := ["math/bits.deBruijn64tab"], apart := false, laid := [("math/bits.deBruijn64tab", laid_math_bits_deBruijn64tab)] }
def FnExactChunksSaid : Prop := fnExactChunksRow.holds Tryd.pinned (OpenSpec.ofChange fnExactChunksSpec)

/-- ITS FALSE NEIGHBOUR: 'it returns false'. Refute it at one input. -/
def fnExactChunksWrong : ChangeSpec := { name := "fnExactChunks", fn := fun _ => fun
  | [d1, d2] => { results := [.lit (.bool false)], args := [d1, d2] }
  | _ => none }
def FnExactChunksWrongFalsely : Prop := fnExactChunksRow.holds Tryd.pinned (OpenSpec.ofChange fnExactChunksWrong)

/-- 'laws.FnExactUnchunked': WHATEVER THE INPUT: true; the input reads as it did. -/
def fnExactUnchunkedSpec : ChangeSpec := { name := "fnExactUnchunked", fn := fun _ => fun
  | [d] => { results := [.lit (.bool true)], args := [d] }
  | _ => none }
def fnExactUnchunkedRow : OpenClaim := { program := "ytanoohfhifhhaaadoor", sum := "2dbb356ab794f228a0a5697851876fc3a2af67f33de0e5a86be7ae5ec26196ce", func := "loop.example/g00617/laws.FnExactUnchunked", spec := "fnExactUnchunked", unfollowed := true, recurses := true, named := ["math/bits.deBruijn64tab"], apart := false, laid := [("math/bits.deBruijn64tab", laid_math_bits_deBruijn64tab)] }
def FnExactUnchunkedSaid : Prop := fnExactUnchunkedRow.holds Tryd.pinned (OpenSpec.ofChange fnExactUnchunkedSpec)

/-- ITS FALSE NEIGHBOUR: 'it returns false'. Refute it at one input. -/
def fnExactUnchunkedWrong : ChangeSpec := { name := "fnExactUnchunked", fn := fun _ => fun
  | [d] => { results := [.lit (.bool false)], args := [d] }
  | _ => none }
def FnExactUnchunkedWrongFalsely : Prop := fnExactUnchunkedRow.holds Tryd.pinned (OpenSpec.ofChange fnExactUnchunkedWrong)

/-- 'laws.FnExactChunkAt': WHATEVER THE INPUT: true; the input reads as it did. -/
def fnExactChunkAtSpec : ChangeSpec := { name := "fnExactChunkAt", fn := fun _ => fun
  | [d1, d2] => { results := [.lit (.bool true)], args := [d1, d2] }
  | _ => none }
def fnExactChunkAtRow : OpenClaim := { program := "ytanoohfhifhhaaadoor", sum := "2dbb356ab794f228a0a5697851876fc3a2af67f33de0e5a86be7ae5ec26196ce", func := "loop.example/g00617/laws.FnExactChunkAt", spec := "fnExactChunkAt", unfollowed := true, recurses := true, named := ["math/bits.deBruijn64tab"], apart := false, laid := [("math/bits.deBruijn64tab", laid_math_bits_deBruijn64tab)] }
def FnExactChunkAtSaid : Prop := fnExactChunkAtRow.holds Tryd.pinned (OpenSpec.ofChange fnExactChunkAtSpec)

/-- ITS FALSE NEIGHBOUR: 'it returns false'. Refute it at one input. -/
def fnExactChunkAtWrong : ChangeSpec := { name := "fnExactChunkAt", fn := fun _ => fun
  | [d1, d2] => { results := [.lit (.bool false)], args := [d1, d2] }
  | _ => none }
def FnExactChunkAtWrongFalsely : Prop := fnExactChunkAtRow.holds Tryd.pinned (OpenSpec.ofChange fnExactChunkAtWrong)

/-- 'laws.FnExactDropChunks': WHATEVER THE INPUT: true; the input reads as it did. -/
def fnExactDropChunksSpec : ChangeSpec := { name := "fnExactDropChunks", fn := fun _ => fun
  | [d1, d2] => { results := [.lit (.bool true)], args := [d1, d2] }
  | _ => none }
def fnExactDropChunksRow : OpenClaim := { program := "ytanoohfhifhhaaadoor", sum := "2dbb356ab794f228a0a5697851876fc3a2af67f33de0e5a86be7ae5ec26196ce", func := "loop.example/g00617/laws.FnExactDropChunks", spec := "fnExactDropChunks", unfollowed := true, recurses := true, named := ["math/bits.deBruijn64tab"], apart := false, laid := [("math/bits.deBruijn64tab", laid_math_bits_deBruijn64tab)] }
def FnExactDropChunksSaid : Prop := fnExactDropChunksRow.holds Tryd.pinned (OpenSpec.ofChange fnExactDropChunksSpec)

/-- ITS FALSE NEIGHBOUR: 'it returns false'. Refute it at one input. -/
def fnExactDropChunksWrong : ChangeSpec := { name := "fnExactDropChunks", fn := fun _ => fun
  | [d1, d2] => { results := [.lit (.bool false)], args := [d1, d2] }
  | _ => none }
def FnExactDropChunksWrongFalsely : Prop := fnExactDropChunksRow.holds Tryd.pinned (OpenSpec.ofChange fnExactDropChunksWrong)

/-- 'laws.FnExactRechunked': WHATEVER THE INPUT: true; the input reads as it did. -/
def fnExactRechunkedSpec : ChangeSpec := { name := "fnExactRechunked", fn := fun _ => fun
  | [d1, d2] => { results := [.lit (.bool true)], args := [d1, d2] }
  | _ => none }
def fnExactRechunkedRow : OpenClaim := { program := "ytanoohfhifhhaaadoor", sum := "2dbb356ab794f228a0a5697851876fc3a2af67f33de0e5a86be7ae5ec26196ce", func := "loop.example/g00617/laws.FnExactRechunked", spec := "fnExactRechunked", unfollowed := true, recurses := true, named := ["math/bits.deBruijn64tab"], apart := false, laid := [("math/bits.deBruijn64tab", laid_math_bits_deBruijn64tab)] }
def FnExactRechunkedSaid : Prop := fnExactRechunkedRow.holds Tryd.pinned (OpenSpec.ofChange fnExactRechunkedSpec)

/-- ITS FALSE NEIGHBOUR: 'it returns false'. Refute it at one input. -/
def fnExactRechunkedWrong : ChangeSpec := { name := "fnExactRechunked", fn := fun _ => fun
  | [d1, d2] => { results := [.lit (.bool false)], args := [d1, d2] }
  | _ => none }
def FnExactRechunkedWrongFalsely : Prop := fnExactRechunkedRow.holds Tryd.pinned (OpenSpec.ofChange fnExactRechunkedWrong)

/- THE SECOND FORM. 'bulk': how many values and letters a reading holds, each counted each time it is reached (what is shared counts as often as it is met; a slice's spare places count too). A statement '..UptoSaid' is the law's where the arguments, and the package variables that the reading takes, are together of bulk at most 1048576: NARROWER than '..Said'. Prove '..Said' where nothing that the law and all that it calls make is longer than what came in: it says more and counts as full. Else prove '..UptoSaid'. A law counts once. -/
mutual
def uptoBulk {H : Type} : DataW H → Nat
  | .lit (.string bytes) => bytes.length + 1
  | .lit _ => 1
  | .nil => 1
  | .ptr d => uptoBulk d + 1
  | .slice elems spare => uptoBulkAll elems + uptoBulkAll spare + 1
  | .agg parts => uptoBulkAll parts + 1
  | .iface _ d => uptoBulk d + 1
  | .map entries => uptoBulkEntries entries + 1
  | .held _ => 1
def uptoBulkAll {H : Type} : List (DataW H) → Nat
  | [] => 0
  | d :: r => uptoBulk d + uptoBulkAll r
def uptoBulkEntries {H : Type} : List (Lit × DataW H) → Nat
  | [] => 0
  | x :: r => uptoBulkEntry x + uptoBulkEntries r
def uptoBulkEntry {H : Type} : Lit × DataW H → Nat
  | (.string bytes, d) => bytes.length + uptoBulk d + 1
  | (_, d) => uptoBulk d + 1
 end
def uptoSmall : (H : Type) → List (DataW H) → Bool := fun _ ds => decide (uptoBulkAll ds ≤ 1048576)
def OpenSpec.upto (s : _root_.Go.ChangeSpec) : _root_.Go.OpenSpec := { _root_.Go.OpenSpec.ofChange s with cond := some uptoSmall }

/-- 'laws.FnChunks', WHERE WHAT IT READS IS OF BULK AT MOST 1048576: true; the input reads as it did. -/
def fnChunksUptoRow : OpenClaim := { program := "ytanoohfhifhhaaadoor", sum := "2dbb356ab794f228a0a5697851876fc3a2af67f33de0e5a86be7ae5ec26196ce", func := "loop.example/g00617/laws.FnChunks", spec := "fnChunks", unfollowed := true, recurses := true, named := ["math/bits.deBruijn64tab"], apart := false, laid := [("math/bits.deBruijn64tab", laid_math_bits_deBruijn64tab)], narrowed := true }
def FnChunksUptoSaid : Prop := fnChunksUptoRow.holds Tryd.pinned (OpenSpec.upto fnChunksSpec)

/-- 'laws.FnChunkAt', WHERE WHAT IT READS IS OF BULK AT MOST 1048576: true; the input reads as it did. -/
def fnChunkAtUptoRow : OpenClaim := { program := "ytanoohfhifhhaaadoor", sum := "2dbb356ab794f228a0a5697851876fc3a2af67f33de0e5a86be7ae5ec26196ce", func := "loop.example/g00617/laws.FnChunkAt", spec := "fnChunkAt", unfollowed := true, recurses := true, named := ["math/bits.deBruijn64tab"], apart := false, laid := [("math/bits.deBruijn64tab", laid_math_bits_deBruijn64tab)], narrowed := true }
def FnChunkAtUptoSaid : Prop := fnChunkAtUptoRow.holds Tryd.pinned (OpenSpec.upto fnChunkAtSpec)

/-- 'laws.FnDropped', WHERE WHAT IT READS IS OF BULK AT MOST 1048576: true; the input reads as it did. -/
def fnDroppedUptoRow : OpenClaim := { program := "ytanoohfhifhhaaadoor", sum := "2dbb356ab794f228a0a5697851876fc3a2af67f33de0e5a86be7ae5ec26196ce", func := "loop.example/g00617/laws.FnDropped", spec := "fnDropped", unfollowed := true, recurses := true, named := ["math/bits.deBruijn64tab"], apart := false, laid := [("math/bits.deBruijn64tab", laid_math_bits_deBruijn64tab)], narrowed := true }
def FnDroppedUptoSaid : Prop := fnDroppedUptoRow.holds Tryd.pinned (OpenSpec.upto fnDroppedSpec)

/-- 'laws.FnRechunked', WHERE WHAT IT READS IS OF BULK AT MOST 1048576: true; the input reads as it did. -/
def fnRechunkedUptoRow : OpenClaim := { program := "ytanoohfhifhhaaadoor", sum := "2dbb356ab794f228a0a5697851876fc3a2af67f33de0e5a86be7ae5ec26196ce", func := "loop.example/g00617/laws.FnRechunked", spec := "fnRechunked", unfollowed := true, recurses := true, named := ["math/bits.deBruijn64tab"], apart := false, laid := [("math/bits.deBruijn64tab", laid_math_bits_deBruijn64tab)], narrowed := true }
def FnRechunkedUptoSaid : Prop := fnRechunkedUptoRow.holds Tryd.pinned (OpenSpec.upto fnRechunkedSpec)

/-- 'laws.FnDroppedTwice', WHERE WHAT IT READS IS OF BULK AT MOST 1048576: true; the input reads as it did. -/
def fnDroppedTwiceUptoRow : OpenClaim := { program := "ytanoohfhifhhaaadoor", sum := "2dbb356ab794f228a0a5697851876fc3a2af67f33de0e5a86be7ae5ec26196ce", func := "loop.example/g00617/laws.FnDroppedTwice", spec := "fnDroppedTwice", unfollowed := true, recurses := true, named := ["math/bits.deBruijn64tab"], apart := false, laid := [("math/bits.deBruijn64tab", laid_math_bits_deBruijn64tab)], narrowed := true }
def FnDroppedTwiceUptoSaid : Prop := fnDroppedTwiceUptoRow.holds Tryd.pinned (OpenSpec.upto fnDroppedTwiceSpec)

/-- 'laws.FnExactChunks', WHERE WHAT IT READS IS OF BULK AT MOST 1048576: true; the input reads as it did. -/
def fnExactChunksUptoRow : OpenClaim := { program := "ytanoohfhifhhaaadoor", sum := "2dbb356ab794f228a0a5697851876fc3a2af67f33de0e5a86be7ae5ec26196ce", func := "loop.example/g00617/laws.FnExactChunks", spec := "fnExactChunks", unfollowed := true, recurses := true, named := ["math/bits.deBruijn64tab"], apart := false, laid := [("math/bits.deBruijn64tab", laid_math_bits_deBruijn64tab)], narrowed := true }
def FnExactChunksUptoSaid : Prop := fnExactChunksUptoRow.holds Tryd.pinned (OpenSpec.upto fnExactChunksSpec)

/-- 'laws.FnExactUnchunked', WHERE WHAT IT READS IS OF BULK AT MOST 1048576: true; the input reads as it did. -/
def fnExactUnchunkedUptoRow : OpenClaim := { program := "ytanoohfhifhhaaadoor", sum := "2dbb356ab794f228a0a5697851876fc3a2af67f33de0e5a86be7ae5ec26196ce", func := "loop.example/g00617/laws.FnExactUnchunked", spec := "fnExactUnchunked", unfollowed := true, recurses := true, named := ["math/bits.deBruijn64tab"], apart := false, laid := [("math/bits.deBruijn64tab", laid_math_bits_deBruijn64tab)], narrowed := true }
def FnExactUnchunkedUptoSaid : Prop := fnExactUnchunkedUptoRow.holds Tryd.pinned (OpenSpec.upto fnExactUnchunkedSpec)

/-- 'laws.FnExactChunkAt', WHERE WHAT IT READS IS OF BULK AT MOST 1048576: true; the input reads as it did. -/
def fnExactChunkAtUptoRow : OpenClaim := { program := "ytanoohfhifhhaaadoor", sum := "2dbb356ab794f228a0a5697851876fc3a2af67f33de0e5a86be7ae5ec26196ce", func := "loop.example/g00617/laws.FnExactChunkAt", spec := "fnExactChunkAt", unfollowed := true, recurses := true, named := ["math/bits.deBruijn64tab"], apart := false, laid := [("math/bits.deBruijn64tab", laid_math_bits_deBruijn64tab)], narrowed := true }
def FnExactChunkAtUptoSaid : Prop := fnExactChunkAtUptoRow.holds Tryd.pinned (OpenSpec.upto fnExactChunkAtSpec)

/-- 'laws.FnExactDropChunks', WHERE WHAT IT READS IS OF BULK AT MOST 1048576: true; the input reads as it did. -/
def fnExactDropChunksUptoRow : OpenClaim := { program := "ytanoohfhifhhaaadoor", sum := "2dbb356ab794f228a0a5697851876fc3a2af67f33de0e5a86be7ae5ec26196ce", func := "loop.example/g00617/laws.FnExactDropChunks", spec := "fnExactDropChunks", unfollowed := true, recurses := true, named := ["math/bits.deBruijn64tab"], apart := false, laid := [("math/bits.deBruijn64tab", laid_math_bits_deBruijn64tab)], narrowed := true }
def FnExactDropChunksUptoSaid : Prop := fnExactDropChunksUptoRow.holds Tryd.pinned (OpenSpec.upto fnExactDropChunksSpec)

/-- 'laws.FnExactRechunked', WHERE WHAT IT READS IS OF BULK AT MOST 1048576: true; the input reads as it did. -/
def fnExactRechunkedUptoRow : OpenClaim := { program := "ytanoohfhifhhaaadoor", sum := "2dbb356ab794f228a0a5697851876fc3a2af67f33de0e5a86be7ae5ec26196ce", func := "loop.example/g00617/laws.FnExactRechunked", spec := "fnExactRechunked", unfollowed := true, recurses := true, named := ["math/bits.deBruijn64tab"], apart := false, laid := [("math/bits.deBruijn64tab", laid_math_bits_deBruijn64tab)], narrowed := true }
def FnExactRechunkedUptoSaid : Prop := fnExactRechunkedUptoRow.holds Tryd.pinned (OpenSpec.upto fnExactRechunkedSpec)

end Rows
end Go.Proofs.YtanoohfhifhhaaaDoor
