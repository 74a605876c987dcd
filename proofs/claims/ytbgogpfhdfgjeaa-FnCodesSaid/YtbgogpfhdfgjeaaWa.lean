/- Walks of the small functions over bit strings. -/
import Derived.Test.YtbgogpfhdfgjeaaProg
import Derived.Test.YtbgogpfhdfgjeaaBm
import Derived.WalkKit
import Derived.WalkSpells
import Derived.WalkLawsBesides
import Derived.BigQuiet
import Derived.Lib.Hide
set_option linter.unusedVariables false
set_option linter.unusedSimpArgs false
namespace Go.Proofs.Ytbgogpfhdfgjeaa
open Go.RowKit

theorem ret_bool {a b : Bool} (h : a = b) : Ending.returned (.bool a) = .returned (.bool b) := by rw [h]
theorem ret_int {k : IntKind} {a b : Int} (h : a = b) : Ending.returned (.int k a) = .returned (.int k b) := by rw [h]

def inB (n lo hi : Int) : Bool := decide (lo ≤ n ∧ n ≤ hi)

set_option maxRecDepth 100000 in
set_option maxHeartbeats 400000 in
theorem l1In_any (n lo hi : Int) (w : World) :
    Calls Try.prog 55 #[.int .i64 n, .int .i64 lo, .int .i64 hi] w fun e w' => e = .returned (.bool (inB n lo hi)) ∧ w = w' := by
  by_cases h1 : lo ≤ n
  · go_enter Try.func55, Try.ntmps55
    go_wp2
    go_ret
    exact ⟨ret_bool (by simp [inB, h1]), rfl⟩
  · go_enter Try.func55, Try.ntmps55
    go_wp2
    go_ret
    exact ⟨ret_bool (by simp [inB]; omega), rfl⟩

set_option maxRecDepth 100000 in
set_option maxHeartbeats 400000 in
theorem bytesFor_any (n : Int) (w : World) (h0 : 0 ≤ n) (h1 : n ≤ 100000) :
    Calls Try.prog 81 #[.int .i64 n] w fun e w' => e = .returned (.int .i64 ((n + 7) / 8)) ∧ w = w' := by
  go_enter Try.func81, Try.ntmps81
  go_wp2
  go_ret
  exact ⟨rfl, rfl⟩

def bitsV (s : ByteArray) (n : Int) : Value := .agg #[.string s, .int .i64 n]

set_option maxRecDepth 100000 in
set_option maxHeartbeats 400000 in
theorem toBits_any (s : ByteArray) (n : Int) (w : World) :
    Calls Try.prog 33 #[.agg #[.string s, .int .i64 n]] w fun e w' => e = .returned (.agg #[.string s, .int .i64 n]) ∧ Below w.heap.size w w' := by
  go_enter Try.func33, Try.ntmps33
  go_wp2
  exact bodyPost_ret (v := .agg #[.string s, .int .i64 n]) (by simp [results, Try.results33, go_sem]) rfl ⟨rfl, by
    repeat (first | exact Below.refl _ _ | refine Below.alloc ?_ (by simp; try omega) _ | refine Below.setCell ?_ (by simp; try omega) _ | refine Below.drew ?_)⟩

set_option maxRecDepth 100000 in
set_option maxHeartbeats 400000 in
theorem szBits_any (s : ByteArray) (n l : Int) (w : World) (h0 : 0 ≤ l) (h1 : l ≤ 1048576) (hs : s.size ≤ maxLen) :
    Calls Try.prog 32 #[.agg #[.string s, .int .i64 n], .int .i64 l] w fun e w' => e = .returned (.int .i64 (if l < s.size then -1 else l - s.size)) ∧ Below w.heap.size w w' := by
  unfold maxLen at hs
  by_cases h : l < s.size
  · go_enter Try.func32, Try.ntmps32
    go_wp2
    go_ret
    exact ⟨rfl, (Below.refl _ _).alloc (Nat.le_refl _) _⟩
  · go_enter Try.func32, Try.ntmps32
    go_wp2
    go_ret
    exact ⟨rfl, (Below.refl _ _).alloc (Nat.le_refl _) _⟩

theorem l1Bit_val (x : UInt8) (k : Nat) : (wrap64 ((x.toNat : Int) / 2 ^ k)).tmod 2 = ((x.toNat.testBit k).toNat : Int) := by
  have hx := UInt8.toNat_lt x
  have e : ((x.toNat : Int) / 2 ^ k) = ((x.toNat / 2 ^ k : Nat) : Int) := by simp
  have hle : x.toNat / 2 ^ k ≤ x.toNat := Nat.div_le_self _ _
  rw [e, Nat.testBit_eq_decide_div_mod_eq]
  generalize x.toNat / 2 ^ k = y at *
  rw [IntWalk.wrap64_in _ (by omega), Int.tmod_eq_emod_of_nonneg (by omega)]
  by_cases h : y % 2 = 1 <;> simp [h] <;> omega

theorem bitAt_of (s : ByteArray) (n : Nat) (h : n / 8 < s.size) : BM.bitAt s.data.toList n = s[n / 8].toNat.testBit (7 - n % 8) := by
  unfold BM.bitAt
  have h' : n / 8 < s.data.toList.length := by simpa using h
  rw [List.getD_eq_getElem?_getD, List.getElem?_eq_getElem h']
  rfl

set_option maxRecDepth 100000 in
set_option maxHeartbeats 400000 in
theorem l1Bit_any (s : ByteArray) (n : Nat) (w : World) (h0 : n ≤ 100000) (h1 : n / 8 < s.size) (hs : s.size ≤ maxLen) :
    Calls Try.prog 89 #[.string s, .int .i64 (n : Int)] w fun e w' => e = .returned (.int .i64 ((BM.bitAt s.data.toList n).toNat : Int)) ∧ w = w' := by
  unfold maxLen at hs
  have H := Lib.hid (bitAt_of s n h1)
  have V := Lib.hid (l1Bit_val s[n / 8] (7 - n % 8))
  go_enter Try.func89, Try.ntmps89
  go_wp2
  go_ret
  exact ⟨by rw [H.out]; exact ret_int V.out, rfl⟩

end Go.Proofs.Ytbgogpfhdfgjeaa
