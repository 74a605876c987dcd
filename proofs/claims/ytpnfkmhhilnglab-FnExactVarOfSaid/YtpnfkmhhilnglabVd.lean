/- The walk of the law FnExactVarOf. -/
import Derived.Test.YtpnfkmhhilnglabVc
namespace Go.Proofs.Ytpnfkmhhilnglab
open Go.RowKit

set_option maxHeartbeats 1000000 in
theorem walkFnExactVarOf (n : Int) (w : World) (_wn : (Lit.int .i64 n).wf = true) :
    Calls Try.prog 4 #[.int .i64 n] w fun e w' => e = .returned (.bool true) ∧ Below w.heap.size w w' := by
  have hs := Lib.hid (fun W => specVarOf_any n W)
  have hi := Lib.hid (fun W => implVarOf_any n W)
  generalize varS n = S at *
  go_enter Try.func4, Try.ntmps4
  go_wp2_with fail
  refine (hs.out _).mono ?_
  rintro e w1 ⟨rfl, hb1⟩
  go_wp2_with fail
  refine (hi.out _).mono ?_
  rintro e w2 ⟨rfl, hb2⟩
  have hb := hb1.trans (hb2.mono hb1.size)
  clear hb1 hb2
  go_wp2_with fail
  go_ret
  exact ⟨rfl, hb⟩
end Go.Proofs.Ytpnfkmhhilnglab
