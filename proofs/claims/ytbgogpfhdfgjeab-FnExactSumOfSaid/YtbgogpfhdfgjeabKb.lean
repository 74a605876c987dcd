/- The walk of the law FnExactSumOf. -/
import Derived.Test.YtbgogpfhdfgjeabKa
set_option linter.unusedVariables false
set_option linter.unusedSimpArgs false
namespace Go.Proofs.Ytbgogpfhdfgjeab
open Go.RowKit

def sumV (s : ByteArray) : Int := if 10000 < s.size then -1 else (CR.sumN s.data.toList : Int)
theorem sumN_lt (l : List UInt8) : CR.sumN l < 2 ^ 32 := Nat.xor_lt_two_pow (CR.sumFrom_lt (by omega) l) (by omega)
set_option maxRecDepth 100000 in
set_option maxHeartbeats 400000 in
theorem specSumOf_any (s : ByteArray) (w : World) (hs : s.size ≤ maxLen) :
    Calls Try.prog 8 #[.string s] w fun e w' => e = .returned (.int .i64 (sumV s)) ∧ Below w.heap.size w w' := by
  have H := Lib.hid (fun W => l5Sum_any s W hs)
  unfold sumV
  unfold maxLen at hs
  by_cases h : 10000 < s.size
  · have hi : (10000 : Int) < s.size := by omega
    rw [if_pos h]
    go_enter Try.func8, Try.ntmps8
    go_wp2_with fail
    go_ret
    exact ⟨rfl, Below.refl _ _⟩
  · have hi : ¬ (10000 : Int) < s.size := by omega
    rw [if_neg h]
    go_enter Try.func8, Try.ntmps8
    go_wp2_with fail
    refine (H.out _).mono ?_
    rintro e w' ⟨rfl, rfl⟩
    go_wp2_with fail
    go_ret
    exact ⟨rfl, Below.refl _ _⟩
set_option maxRecDepth 100000 in
set_option maxHeartbeats 400000 in
theorem implSumOf_any (s : ByteArray) (w : World) (hs : s.size ≤ maxLen) :
    Calls Try.prog 9 #[.string s] w fun e w' => e = .returned (.int .i64 (sumV s)) ∧ Below w.heap.size w w' := by
  have H := Lib.hid (fun W => checksum_any s W hs)
  have hl := sumN_lt s.data.toList
  unfold sumV
  unfold maxLen at hs
  generalize CR.sumN s.data.toList = X at *
  by_cases h : 10000 < s.size
  · have hi : (10000 : Int) < s.size := by omega
    rw [if_pos h]
    go_enter Try.func9, Try.ntmps9
    go_wp2_with fail
    go_ret
    exact ⟨rfl, Below.refl _ _⟩
  · have hi : ¬ (10000 : Int) < s.size := by omega
    rw [if_neg h]
    go_enter Try.func9, Try.ntmps9
    go_wp2_with fail
    refine (H.out _).mono ?_
    rintro e w' ⟨rfl, hb⟩
    have e1 : wrap64 (X : Int) = (X : Int) := by unfold wrap64; omega
    go_wp2_with fail
    go_ret
    exact ⟨rfl, hb⟩
set_option maxRecDepth 100000 in
set_option maxHeartbeats 400000 in
theorem walkFnExactSumOf (s : ByteArray) (w : World) (hs : s.size ≤ maxLen) :
    Calls Try.prog 3 #[.string s] w fun e w' => e = .returned (.bool true) ∧ Below w.heap.size w w' := by
  have hsp := Lib.hid (fun W => specSumOf_any s W hs)
  have him := Lib.hid (fun W => implSumOf_any s W hs)
  generalize sumV s = X at *
  unfold maxLen at hs
  by_cases h : 1048576 < s.size
  · have hi : (1048576 : Int) < s.size := by omega
    go_enter Try.func3, Try.ntmps3
    go_wp2_with fail
    go_ret
    exact ⟨rfl, Below.refl _ _⟩
  · have hi : ¬ (1048576 : Int) < s.size := by omega
    go_enter Try.func3, Try.ntmps3
    go_wp2_with fail
    refine (hsp.out _).mono ?_
    rintro e w1 ⟨rfl, hb1⟩
    go_wp2_with fail
    refine (him.out _).mono ?_
    rintro e w2 ⟨rfl, hb2⟩
    have hb := hb1.trans (hb2.mono hb1.size)
    clear hb1 hb2
    go_wp2_with fail
    go_ret
    exact ⟨rfl, hb⟩
end Go.Proofs.Ytbgogpfhdfgjeab
