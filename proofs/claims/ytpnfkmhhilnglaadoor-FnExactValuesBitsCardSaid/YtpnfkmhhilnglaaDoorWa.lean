/- Walks of the small functions over bit strings. -/
import Derived.Test.YtpnfkmhhilnglaaDoorProg
import Derived.Test.YtpnfkmhhilnglaaDoorBm
import Derived.WalkKit
import Derived.WalkSpells
import Derived.WalkLawsBesides
import Derived.BigQuiet
import Derived.Lib.Hide
set_option linter.unusedVariables false
set_option linter.unusedSimpArgs false
namespace Go.Proofs.YtpnfkmhhilnglaaDoor
open Go.RowKit

theorem ret_bool {a b : Bool} (h : a = b) : Ending.returned (.bool a) = .returned (.bool b) := by rw [h]
theorem ret_int {k : IntKind} {a b : Int} (h : a = b) : Ending.returned (.int k a) = .returned (.int k b) := by rw [h]

def inB (n lo hi : Int) : Bool := decide (lo ≤ n ∧ n ≤ hi)


set_option maxRecDepth 100000 in
set_option maxHeartbeats 400000 in
theorem bytesFor_any (n : Int) (w : World) (h0 : 0 ≤ n) (h1 : n ≤ 100000) :
    Calls Tryd.prog 21 #[.int .i64 n] w fun e w' => e = .returned (.int .i64 ((n + 7) / 8)) ∧ w = w' := by
  go_enter Tryd.func21, Tryd.ntmps21
  go_wp2
  go_ret
  exact ⟨rfl, rfl⟩

def bitsV (s : ByteArray) (n : Int) : Value := .agg #[.string s, .int .i64 n]



theorem l1Bit_val (x : UInt8) (k : Nat) : (wrap64 ((x.toNat : Int) / 2 ^ k)).tmod 2 = ((x.toNat.testBit k).toNat : Int) := by
  have hx := UInt8.toNat_lt x
  have e : ((x.toNat : Int) / 2 ^ k) = ((x.toNat / 2 ^ k : Nat) : Int) := by simp
  have hle : x.toNat / 2 ^ k ≤ x.toNat := Nat.div_le_self _ _
  rw [e, Nat.testBit_eq_decide_div_mod_eq]
  generalize x.toNat / 2 ^ k = y at *
  rw [IntWalk.wrap64_in _ (by omega), Int.tmod_eq_emod_of_nonneg (by omega)]
  by_cases h : y % 2 = 1 <;> simp [h] <;> omega

theorem bitAt_of (s : ByteArray) (n : Nat) (h : n / 8 < s.size) : BM.bitAt s.data.toList n = s[n / 8].toNat.testBit (7 - n % 8) := by
  unfold BM.bitAt
  have h' : n / 8 < s.data.toList.length := by simpa using h
  rw [List.getD_eq_getElem?_getD, List.getElem?_eq_getElem h']
  rfl


end Go.Proofs.YtpnfkmhhilnglaaDoor
