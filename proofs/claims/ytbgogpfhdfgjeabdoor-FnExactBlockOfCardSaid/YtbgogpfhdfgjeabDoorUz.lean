/- Walks: Zig and Zag. -/
import Derived.Test.YtbgogpfhdfgjeabDoorUa
import Derived.OpenShut
set_option linter.unusedVariables false
set_option linter.unusedSimpArgs false
namespace Go.Proofs.YtbgogpfhdfgjeabDoor
open Go.RowKit

theorem uz_wrap64_bd (x : Int) : -9223372036854775808 ≤ wrap64 x ∧ wrap64 x ≤ 9223372036854775807 := by unfold wrap64; omega
theorem xor_zero (x : Int) (h0 : -9223372036854775808 ≤ x) (h1 : x ≤ 9223372036854775807) : bits .xor .i64 x 0 = x := by
  show IntKind.i64.wrap ((BitVec.ofInt 64 x ^^^ BitVec.ofInt 64 0).toNat : Int) = _
  rw [BitVec.toNat_xor, show (BitVec.ofInt 64 0).toNat = 0 from rfl, Nat.xor_zero, BitVec.toNat_ofInt, IntKind.wrap_i64]
  omega
theorem xor_ones (x : Int) (h0 : -9223372036854775808 ≤ x) (h1 : x ≤ 9223372036854775807) : bits .xor .i64 x (-1) = -x - 1 := by
  show IntKind.i64.wrap ((BitVec.ofInt 64 x ^^^ BitVec.ofInt 64 (-1)).toNat : Int) = _
  rw [show BitVec.ofInt 64 (-1) = BitVec.allOnes 64 from rfl, BitVec.xor_allOnes, BitVec.toNat_not, BitVec.toNat_ofInt, IntKind.wrap_i64]
  omega
theorem zand_one (x : Int) : bits .and .i64 x 1 = x % 2 := by
  show IntKind.i64.wrap ((BitVec.ofInt 64 x &&& BitVec.ofInt 64 1).toNat : Int) = _
  rw [BitVec.toNat_and, show (BitVec.ofInt 64 1).toNat = 1 from rfl, Nat.and_one_is_mod, BitVec.toNat_ofInt, IntKind.wrap_i64]
  have : (x % ((2 ^ 64 : Nat) : Int)).toNat % 2 = (x % 2).toNat := by omega
  omega

def zigF (n : Int) : Int := if 0 ≤ n then wrap64 (2 * n) else wrap64 (-2 * n - 1)
def zagF (m : Int) : Int := if m % 2 = 0 then (m % 18446744073709551616) / 2 else -((m % 18446744073709551616) / 2) - 1
theorem zig_val (n : Int) (h0 : -9223372036854775808 ≤ n) (h1 : n ≤ 9223372036854775807) : bits .xor .i64 (wrap64 (n * 2)) (n / 9223372036854775808) = zigF n := by
  unfold zigF
  have hb := uz_wrap64_bd (n * 2)
  by_cases h : 0 ≤ n
  · rw [if_pos h, show n / 9223372036854775808 = 0 by omega, xor_zero _ hb.1 hb.2, Int.mul_comm]
  · rw [if_neg h, show n / 9223372036854775808 = -1 by omega, xor_ones _ hb.1 hb.2]
    unfold wrap64; omega
theorem zag_val (m : Int) : bits .xor .i64 (wrap64 (IntKind.u64.wrap m / 2)) (wrap64 (-(bits .and .i64 m 1))) = zagF m := by
  unfold zagF
  have hb := uz_wrap64_bd (IntKind.u64.wrap m / 2)
  rw [zand_one]
  have e1 : wrap64 (IntKind.u64.wrap m / 2) = (m % 18446744073709551616) / 2 := by rw [IntKind.wrap_u64]; unfold wrap64; omega
  by_cases h : m % 2 = 0
  · rw [if_pos h, h, show wrap64 (-0) = 0 by unfold wrap64; omega, xor_zero _ hb.1 hb.2, e1]
  · have h1 : m % 2 = 1 := by omega
    rw [if_neg h, h1, show wrap64 (-1) = -1 by unfold wrap64; omega, xor_ones _ hb.1 hb.2, e1]
theorem zag_zig (n : Int) (h0 : -9223372036854775808 ≤ n) (h1 : n ≤ 9223372036854775807) : zagF (zigF n) = n := by
  unfold zagF zigF wrap64; split <;> split <;> omega
theorem zig_zag (m : Int) (h0 : -9223372036854775808 ≤ m) (h1 : m ≤ 9223372036854775807) : zigF (zagF m) = m := by
  unfold zagF zigF wrap64; split <;> split <;> omega
theorem zag_bd (m : Int) : -9223372036854775808 ≤ zagF m ∧ zagF m ≤ 9223372036854775807 := by unfold zagF; split <;> omega
theorem zig_bd (m : Int) : -9223372036854775808 ≤ zigF m ∧ zigF m ≤ 9223372036854775807 := by unfold zigF; split <;> exact uz_wrap64_bd _


end Go.Proofs.YtbgogpfhdfgjeabDoor
