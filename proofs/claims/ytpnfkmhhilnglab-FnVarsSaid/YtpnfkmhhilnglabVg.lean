/- The walk of the law FnExactReadVar. -/
import Derived.Test.YtpnfkmhhilnglabVf
namespace Go.Proofs.Ytpnfkmhhilnglab
open Go.RowKit

theorem rdVal_form (s : ByteArray) : ∃ a b c, rdVal s = .tuple #[.int .i64 a, .int .i64 b, .bool c] := by
  unfold rdVal
  split <;> exact ⟨_, _, _, rfl⟩

set_option maxRecDepth 100000 in
set_option maxHeartbeats 1000000 in
theorem walkFnExactReadVar (s : ByteArray) (w : World) (hs : s.size ≤ maxLen) :
    Calls Try.prog 5 #[.string s] w fun e w' => e = .returned (.bool true) ∧ Below w.heap.size w w' := by
  have h1 := Lib.hid (fun W => specReadVar_any s W hs)
  have h2 := Lib.hid (fun W => implReadVar_any s W hs)
  unfold RdVPost at h1 h2
  obtain ⟨a, b, c, hr⟩ := rdVal_form s
  rw [hr] at h1 h2
  clear hr
  by_cases hbig : (1048576 : Int) < s.size
  · go_enter Try.func5, Try.ntmps5
    go_wp2_with fail
    go_ret
    exact ⟨rfl, Below.refl _ _⟩
  · go_enter Try.func5, Try.ntmps5
    go_wp2_with fail
    refine (h1.out _).mono ?_
    rintro e w1 ⟨rfl, hb1⟩
    go_wp2_with fail
    refine (h2.out _).mono ?_
    rintro e w2 ⟨rfl, hb2⟩
    have hb := hb1.trans (hb2.mono hb1.size)
    clear hb1 hb2
    go_wp2_with fail
    go_ret
    exact ⟨rfl, hb⟩
end Go.Proofs.Ytpnfkmhhilnglab
