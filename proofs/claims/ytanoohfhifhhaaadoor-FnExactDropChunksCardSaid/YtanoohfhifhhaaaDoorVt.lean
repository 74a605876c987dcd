/- Contracts off the shelf. -/
import Derived.Shelf.Small.Bits
import Derived.Shelf.Strconv.Itoa0
import Derived.Shelf.LaysM
import Derived.Shelf.Strconv.Clone
import Derived.Test.YtanoohfhifhhaaaDoorProg
import Derived.Test.YtanoohfhifhhaaaDoorUa
import Derived.OpenShut
import Derived.Lib.TrailingZeros
import Derived.Laws.Bits64b
namespace Go.Proofs
open Go.Shelf
def Tryd.lays134_ren : Go.Shelf.Ren := ⟨fun | 134 => 130 | 129 => 132 | n => n, fun | 53 => 110 | 3 => 3 | 4 => 4 | 46 => 119 | 5 => 5 | 9 => 9 | n => n, fun | n => n⟩
theorem Tryd.lays134 : Go.Proofs.Lays.n134 Tryd.prog Tryd.lays134_ren := {
  mixed := by kernel_rfl
  f129 := Tryd.func132.trans (congrArg some (by kernel_rfl))
  f134 := Tryd.func130.trans (congrArg some (by kernel_rfl))
  t3 := Tryd.underlying3
  a3 := Tryd.isAgg3
  z3 := Tryd.sizeOf3
  v3 := Tryd.zeroValue3
  t4 := Tryd.underlying4
  a4 := Tryd.isAgg4
  z4 := Tryd.sizeOf4
  v4 := Tryd.zeroValue4
  t5 := Tryd.underlying5
  a5 := Tryd.isAgg5
  z5 := Tryd.sizeOf5
  v5 := Tryd.zeroValue5
  t9 := Tryd.underlying9
  a9 := Tryd.isAgg9
  z9 := Tryd.sizeOf9
  v9 := Tryd.zeroValue9
  t46 := Tryd.underlying119
  a46 := Tryd.isAgg119
  z46 := Tryd.sizeOf119
  v46 := Tryd.zeroValue119
  t53 := Tryd.underlying110
  a53 := Tryd.isAgg110
  z53 := Tryd.sizeOf110
  v53 := Tryd.zeroValue110 }
/-- bits.LeadingZeros64: "LeadingZeros64 returns the number of leading zero bits in x; the result is 64 for x == 0.": IT RETURNS '64 - Lib.bitLen x'; the world is as it was. ITS CALLEE bits.Len64 IS MET BY ITS OWN CONTRACT OFF THE SHELF (lay that first): entered in place it sends the kernel out of memory. (LAID: no walk: one application.) -/
theorem Tryd.bits_LeadingZeros64 (x : Int) (w : World) (h0 : 0 ≤ x) (h1 : x ≤ 18446744073709551615) :
    Calls Tryd.prog 130 #[.int .u64 x] w fun e w' => e = .returned (.int .i64 (64 - (Lib.bitLen x.toNat : Int))) ∧ w' = w := Any.bits_LeadingZeros64 Tryd.lays134 x w h0 h1
def Tryd.lays129_ren : Go.Shelf.Ren := ⟨fun | 129 => 132 | n => n, fun | 53 => 110 | 3 => 3 | 4 => 4 | 46 => 119 | 5 => 5 | 9 => 9 | n => n, fun | n => n⟩
theorem Tryd.lays129 : Go.Proofs.Lays.n129 Tryd.prog Tryd.lays129_ren := {
  mixed := by kernel_rfl
  f129 := Tryd.func132.trans (congrArg some (by kernel_rfl))
  t3 := Tryd.underlying3
  a3 := Tryd.isAgg3
  z3 := Tryd.sizeOf3
  v3 := Tryd.zeroValue3
  t4 := Tryd.underlying4
  a4 := Tryd.isAgg4
  z4 := Tryd.sizeOf4
  v4 := Tryd.zeroValue4
  t5 := Tryd.underlying5
  a5 := Tryd.isAgg5
  z5 := Tryd.sizeOf5
  v5 := Tryd.zeroValue5
  t9 := Tryd.underlying9
  a9 := Tryd.isAgg9
  z9 := Tryd.sizeOf9
  v9 := Tryd.zeroValue9
  t46 := Tryd.underlying119
  a46 := Tryd.isAgg119
  z46 := Tryd.sizeOf119
  v46 := Tryd.zeroValue119
  t53 := Tryd.underlying110
  a53 := Tryd.isAgg110
  z53 := Tryd.sizeOf110
  v53 := Tryd.zeroValue110 }
/-- bits.Len64: "Len64 returns the minimum number of bits required to represent x; the result is 0 for x == 0.": IT RETURNS 'Lib.bitLen x'; the world is as it was. ('h0', 'h1': x is a uint64.) (LAID: no walk: one application.) -/
theorem Tryd.bits_Len64 (x : Int) (w : World) (h0 : 0 ≤ x) (h1 : x ≤ 18446744073709551615) :
    Calls Tryd.prog 132 #[.int .u64 x] w fun e w' => e = .returned (.int .i64 (Lib.bitLen x.toNat)) ∧ w' = w := Any.bits_Len64 Tryd.lays129 x w h0 h1
def Tryd.laysM316_ren : Go.Shelf.Ren := ⟨fun | 316 => 94 | n => n, fun | 9 => 9 | 3 => 3 | 4 => 4 | 37 => 22 | 0 => 0 | 127 => 144 | 5 => 5 | n => n, fun | n => n⟩
theorem Tryd.laysM316 : Go.Proofs.LaysM.n316 Tryd.prog Tryd.laysM316_ren := {
  mixed := by kernel_rfl
  f316 := Tryd.func94.trans (congrArg some (by kernel_rfl))
  t0 := Tryd.underlying0
  a0 := Tryd.isAgg0
  z0 := Tryd.sizeOf0
  v0 := Tryd.zeroValue0
  t3 := Tryd.underlying3
  a3 := Tryd.isAgg3
  z3 := Tryd.sizeOf3
  v3 := Tryd.zeroValue3
  t4 := Tryd.underlying4
  a4 := Tryd.isAgg4
  z4 := Tryd.sizeOf4
  v4 := Tryd.zeroValue4
  t9 := Tryd.underlying9
  a9 := Tryd.isAgg9
  z9 := Tryd.sizeOf9
  v9 := Tryd.zeroValue9
  t37 := Tryd.underlying22
  a37 := Tryd.isAgg22
  z37 := Tryd.sizeOf22
  v37 := Tryd.zeroValue22
  t127 := Tryd.underlying144
  a127 := Tryd.isAgg144
  z127 := Tryd.sizeOf144
  v127 := Tryd.zeroValue144
  t5 := Tryd.underlying5
  a5 := Tryd.isAgg5
  z5 := Tryd.sizeOf5
  v5 := Tryd.zeroValue5
  i0 := by kernel_rfl
  i3 := by kernel_rfl
  i4 := by kernel_rfl
  i5 := by kernel_rfl
  i9 := by kernel_rfl
  i37 := by kernel_rfl
  i127 := by kernel_rfl }
open Go.RowKit in
/-- internal/stringslite.Clone (what strings.Clone calls): "Clone returns a fresh copy of s.": THE SAME BYTES. Of what was there nothing has turned (a new row is laid, and frozen, where s is not empty). (LAID: no walk: one application.) -/
theorem Tryd.stringslite_Clone (s : ByteArray) (w : World) (hlim : s.size ≤ 281474976710656) :
    Calls Tryd.prog 94 #[.string s] w fun e w' => e = .returned (.string s) ∧ Below w.heap.size w w' := Any.stringslite_Clone Tryd.laysM316 s w hlim
end Go.Proofs

/- Walks: Zig and Zag. -/
set_option linter.unusedVariables false
set_option linter.unusedSimpArgs false
namespace Go.Proofs.YtanoohfhifhhaaaDoor
open Go.RowKit

theorem uz_wrap64_bd (x : Int) : -9223372036854775808 ≤ wrap64 x ∧ wrap64 x ≤ 9223372036854775807 := by unfold wrap64; omega
theorem xor_zero (x : Int) (h0 : -9223372036854775808 ≤ x) (h1 : x ≤ 9223372036854775807) : bits .xor .i64 x 0 = x := by
  show IntKind.i64.wrap ((BitVec.ofInt 64 x ^^^ BitVec.ofInt 64 0).toNat : Int) = _
  rw [BitVec.toNat_xor, show (BitVec.ofInt 64 0).toNat = 0 from rfl, Nat.xor_zero, BitVec.toNat_ofInt, IntKind.wrap_i64]
  omega
theorem xor_ones (x : Int) (h0 : -9223372036854775808 ≤ x) (h1 : x ≤ 9223372036854775807) : bits .xor .i64 x (-1) = -x - 1 := by
  show IntKind.i64.wrap ((BitVec.ofInt 64 x ^^^ BitVec.ofInt 64 (-1)).toNat : Int) = _
  rw [show BitVec.ofInt 64 (-1) = BitVec.allOnes 64 from rfl, BitVec.xor_allOnes, BitVec.toNat_not, BitVec.toNat_ofInt, IntKind.wrap_i64]
  omega
theorem zand_one (x : Int) : bits .and .i64 x 1 = x % 2 := by
  show IntKind.i64.wrap ((BitVec.ofInt 64 x &&& BitVec.ofInt 64 1).toNat : Int) = _
  rw [BitVec.toNat_and, show (BitVec.ofInt 64 1).toNat = 1 from rfl, Nat.and_one_is_mod, BitVec.toNat_ofInt, IntKind.wrap_i64]
  have : (x % ((2 ^ 64 : Nat) : Int)).toNat % 2 = (x % 2).toNat := by omega
  omega

def zigF (n : Int) : Int := if 0 ≤ n then wrap64 (2 * n) else wrap64 (-2 * n - 1)
def zagF (m : Int) : Int := if m % 2 = 0 then (m % 18446744073709551616) / 2 else -((m % 18446744073709551616) / 2) - 1
theorem zig_val (n : Int) (h0 : -9223372036854775808 ≤ n) (h1 : n ≤ 9223372036854775807) : bits .xor .i64 (wrap64 (n * 2)) (n / 9223372036854775808) = zigF n := by
  unfold zigF
  have hb := uz_wrap64_bd (n * 2)
  by_cases h : 0 ≤ n
  · rw [if_pos h, show n / 9223372036854775808 = 0 by omega, xor_zero _ hb.1 hb.2, Int.mul_comm]
  · rw [if_neg h, show n / 9223372036854775808 = -1 by omega, xor_ones _ hb.1 hb.2]
    unfold wrap64; omega
theorem zag_val (m : Int) : bits .xor .i64 (wrap64 (IntKind.u64.wrap m / 2)) (wrap64 (-(bits .and .i64 m 1))) = zagF m := by
  unfold zagF
  have hb := uz_wrap64_bd (IntKind.u64.wrap m / 2)
  rw [zand_one]
  have e1 : wrap64 (IntKind.u64.wrap m / 2) = (m % 18446744073709551616) / 2 := by rw [IntKind.wrap_u64]; unfold wrap64; omega
  by_cases h : m % 2 = 0
  · rw [if_pos h, h, show wrap64 (-0) = 0 by unfold wrap64; omega, xor_zero _ hb.1 hb.2, e1]
  · have h1 : m % 2 = 1 := by omega
    rw [if_neg h, h1, show wrap64 (-1) = -1 by unfold wrap64; omega, xor_ones _ hb.1 hb.2, e1]
theorem zag_zig (n : Int) (h0 : -9223372036854775808 ≤ n) (h1 : n ≤ 9223372036854775807) : zagF (zigF n) = n := by
  unfold zagF zigF wrap64; split <;> split <;> omega
theorem zig_zag (m : Int) (h0 : -9223372036854775808 ≤ m) (h1 : m ≤ 9223372036854775807) : zigF (zagF m) = m := by
  unfold zagF zigF wrap64; split <;> split <;> omega
theorem zag_bd (m : Int) : -9223372036854775808 ≤ zagF m ∧ zagF m ≤ 9223372036854775807 := by unfold zagF; split <;> omega
theorem zig_bd (m : Int) : -9223372036854775808 ≤ zigF m ∧ zigF m ≤ 9223372036854775807 := by unfold zigF; split <;> exact uz_wrap64_bd _


end Go.Proofs.YtanoohfhifhhaaaDoor

/- Walks: the number of leading zeros. -/
set_option linter.unusedVariables false
set_option linter.unusedSimpArgs false
namespace Go.Proofs.YtanoohfhifhhaaaDoor
open Go.RowKit

def u64n (n : Int) : Nat := (n % 18446744073709551616).toNat
theorem u64n_lt (n : Int) : u64n n < 2 ^ 64 := by unfold u64n; omega
theorem u64n_wrap (n : Int) : IntKind.u64.wrap n = (u64n n : Int) := by rw [IntKind.wrap_u64]; unfold u64n; omega
theorem shr_bit (n : Int) (h0 : -9223372036854775808 ≤ n) (h1 : n ≤ 9223372036854775807) (j : Nat) (hj : j ≤ 63) : (n / 2 ^ j) % 2 = ((u64n n).testBit j).toNat := by
  have e : (n / 2 ^ j) % 2 = (((u64n n) / 2 ^ j % 2 : Nat) : Int) := by
    have hu : (u64n n : Int) = n % 18446744073709551616 := by unfold u64n; omega
    rw [Int.natCast_emod, Int.natCast_ediv, Int.natCast_pow, hu]
    have hp : (2 : Int) ^ 64 = 2 ^ j * 2 ^ (64 - j) := by rw [← Int.pow_add]; congr 1; omega
    have h64 : (18446744073709551616 : Int) = 2 ^ j * 2 ^ (64 - j) := by rw [← hp]; rfl
    have hq : n = 18446744073709551616 * (n / 18446744073709551616) + n % 18446744073709551616 := by omega
    have h2 : (2 : Int) ^ (64 - j) = 2 * 2 ^ (63 - j) := by rw [show 64 - j = (63 - j) + 1 by omega, Int.pow_succ, Int.mul_comm]
    have hpos : (0 : Int) < 2 ^ j := Int.pow_pos (by decide)
    conv => lhs; rw [hq, h64, Int.mul_assoc, Int.add_comm, Int.add_mul_ediv_left _ _ (by omega), h2, Int.mul_assoc, Int.add_mul_emod_self_left]
    rw [← h2, ← hp]
    rfl
  rw [e, Nat.testBit_eq_decide_div_mod_eq]
  have : u64n n / 2 ^ j % 2 < 2 := Nat.mod_lt _ (by decide)
  by_cases h : u64n n / 2 ^ j % 2 = 1
  · simp [h]
  · have h0 : u64n n / 2 ^ j % 2 = 0 := by omega
    simp [h0]
/-- the first k bits from the top are zero -/
theorem lt_of_zeros {u k : Nat} (hu : u < 2 ^ 64) (hk : k ≤ 64) (h : ∀ j, j < k → u.testBit (63 - j) = false) : u < 2 ^ (64 - k) := by
  apply Nat.lt_pow_two_of_testBit
  intro i hi
  by_cases h64 : 64 ≤ i
  · exact Nat.testBit_lt_two_pow (Nat.lt_of_lt_of_le hu (Nat.pow_le_pow_right (by decide) h64))
  · have := h (63 - i) (by omega)
    rw [show 63 - (63 - i) = i by omega] at this; exact this
theorem bitLen_of {u m : Nat} (h0 : 2 ^ m ≤ u) (h1 : u < 2 ^ (m + 1)) (hm : m < 64) : Lib.bitLen u = m + 1 := by
  have hu : u < 2 ^ 64 := Nat.lt_of_lt_of_le h1 (Nat.pow_le_pow_right (by decide) (by omega))
  rw [Lib.bitLen_shift m u h0 hu]
  have : u / 2 ^ m = 1 := by
    have e : 2 ^ (m + 1) = 2 * 2 ^ m := by rw [Nat.pow_succ, Nat.mul_comm]
    have hp := Nat.two_pow_pos m
    exact Nat.div_eq_of_lt_le (by omega) (by rw [e] at h1; rw [show (1 + 1) * 2 ^ m = 2 * 2 ^ m from rfl]; exact h1)
  rw [this]
  rfl
def leadN (n : Int) : Int := 64 - (Lib.bitLen (u64n n) : Int)
theorem leadN_one {n : Int} {k : Nat} (hk : k < 64) (h : ∀ j, j < k → (u64n n).testBit (63 - j) = false) (hb : (u64n n).testBit (63 - k) = true) : leadN n = (k : Int) := by
  have h1 := lt_of_zeros (u64n_lt n) (by omega) h
  have h2 : 2 ^ (63 - k) ≤ u64n n := Nat.ge_two_pow_of_testBit hb
  unfold leadN
  rw [bitLen_of h2 (by rw [show 63 - k + 1 = 64 - k by omega]; exact h1) (by omega)]
  omega
theorem leadN_zero {n : Int} (h : ∀ j, j < 64 → (u64n n).testBit (63 - j) = false) : leadN n = 64 := by
  have h1 := lt_of_zeros (u64n_lt n) (Nat.le_refl _) h
  have h0 : u64n n = 0 := by simpa using h1
  unfold leadN
  rw [h0]
  rfl

set_option maxRecDepth 100000 in
set_option maxHeartbeats 1000000 in
theorem specL4Lead_any (n : Int) (w : World) (h0 : -9223372036854775808 ≤ n) (h1 : n ≤ 9223372036854775807) :
    Calls Tryd.prog 106 #[.int .i64 n] w fun e w' => e = .returned (.int .i64 (leadN n)) ∧ w = w' := by
  have hbit := Lib.hid (fun j hj => shr_bit n h0 h1 j hj)
  have hand := Lib.hid (fun x => zand_one x)
  clear h0 h1
  go_enter Tryd.func106, Tryd.ntmps106
  go_wp2
  go_loop [3] (fun i => ∃ k : Nat, k ≤ 64 ∧ i = .int .i64 k ∧ ∀ j, j < k → (u64n n).testBit (63 - j) = false) (fun i => 64 - (intOf i).toNat)
  case atStart => exact ⟨0, by omega, rfl, fun j hj => by omega⟩
  case round =>
    obtain ⟨k, hk, rfl, hz⟩ := hrel
    have Hz := Lib.hid hz
    clear hz
    by_cases hlt : k < 64
    · have hb := hbit.out (63 - k) (by omega)
      have e0 : (63 - (k : Int)).toNat = 63 - k := by omega
      have hA := hand.out (n / 2 ^ (63 - k))
      rw [hb] at hA
      cases hbb : (u64n n).testBit (63 - k) with
      | false =>
        rw [hbb] at hA
        have hA2 : bits .and .i64 (n / 2 ^ (63 - k)) 1 = 0 := by rw [hA]; rfl
        have Hbb := Lib.hid hbb
        clear hb hA hbb
        go_wp2_with fail
        go_round
        case rel =>
          refine ⟨k + 1, by omega, by go_num, fun j hj => ?_⟩
          by_cases e : j = k
          · subst e; exact Hbb.out
          · exact Hz.out j (by omega)
        case measure => simp [intOf]; omega
      | true =>
        rw [hbb] at hA
        have hA2 : bits .and .i64 (n / 2 ^ (63 - k)) 1 = 1 := by rw [hA]; rfl
        have E := Lib.hid (leadN_one hlt Hz.out hbb)
        clear hb hA hbb
        go_wp2_with fail
        go_ret
        exact ⟨by rw [E.out]; rfl, rfl⟩
    · obtain rfl : k = 64 := by omega
      have E := Lib.hid (leadN_zero Hz.out)
      go_wp2_with fail
      go_ret
      exact ⟨by rw [E.out]; rfl, rfl⟩

set_option maxRecDepth 100000 in
set_option maxHeartbeats 1000000 in
theorem implLead_any (n : Int) (w : World) :
    Calls Tryd.prog 128 #[.int .i64 n] w fun e w' => e = .returned (.int .i64 (leadN n)) ∧ w = w' := by
  have hu := u64n_lt n
  have hc := Lib.hid (fun W => Tryd.bits_LeadingZeros64 (u64n n : Int) W (by omega) (by omega))
  have hw := u64n_wrap n
  have E := Lib.hid (show leadN n = 64 - (Lib.bitLen ((u64n n : Int)).toNat : Int) from rfl)
  clear hu
  generalize (u64n n : Int) = u at *
  go_enter Tryd.func128, Tryd.ntmps128
  go_wp2_with fail
  refine (hc.out _).mono ?_
  rintro e w1 ⟨rfl, rfl⟩
  have hle : (0 : Int) ≤ Lib.bitLen u.toNat := by omega
  go_wp2_with fail
  go_ret
  exact ⟨by rw [E.out]; rfl, rfl⟩

end Go.Proofs.YtanoohfhifhhaaaDoor

/- Walks: the number of trailing zeros, under the library's table. -/
set_option linter.unusedVariables false
set_option linter.unusedSimpArgs false
namespace Go.Proofs.YtanoohfhifhhaaaDoor
open Go.RowKit

/-- the library's table in its variable -/
def Tab (w : World) : Prop := ∀ j, j < 64 → w.cell? ⟨0, j, none⟩ = some (.int .u8 ((Lib.deBruijn64tab.getD j 0 : Nat) : Int))

set_option maxRecDepth 100000 in
set_option maxHeartbeats 1000000 in
theorem tz64_core (x k idx : Nat) (w : World) (hx0 : ((x : Int) == 0) = false)
    (key : IntKind.u64.wrap (bits BinOp.and IntKind.u64 (x : Int) (IntKind.u64.wrap (-(x : Int))) * 285870213051353865) / 288230376151711744 = (idx : Int))
    (hi : idx < 64) (hk : k < 64) (hcell : w.cell? ⟨0, idx, none⟩ = some (.int .u8 (k : Int))) :
    Calls Tryd.prog 131 #[.int .u64 x] w fun e w' => e = .returned (.int .i64 k) ∧ w = w' := by
  go_enter Tryd.func131, Tryd.ntmps131
  go_wp2_with (simp only [key])
  go_ret
  exact ⟨rfl, rfl⟩
set_option maxHeartbeats 1000000 in
theorem tz64_zero (w : World) :
    Calls Tryd.prog 131 #[.int .u64 0] w fun e w' => e = .returned (.int .i64 64) ∧ w = w' := by
  go_enter Tryd.func131, Tryd.ntmps131
  go_wp2
  go_ret
  exact ⟨rfl, rfl⟩
theorem tz64_key' (x a : Nat) (hx : x < 18446744073709551616) (hlow : x &&& (18446744073709551616 - x) = a) (hx0 : x ≠ 0) :
    IntKind.u64.wrap (bits BinOp.and IntKind.u64 (x : Int) (IntKind.u64.wrap (-(x : Int))) * 285870213051353865) / 288230376151711744 = ((a * 285870213051353865 % 18446744073709551616 / 288230376151711744 : Nat) : Int) := by
  have e1 : IntKind.u64.wrap (-(x : Int)) = ((18446744073709551616 - x : Nat) : Int) := by rw [IntKind.wrap_u64]; omega
  rw [e1, bits_and_u64_nat x _ hx (by omega), hlow, IntKind.wrap_u64]
  omega
theorem tz64_any (x : Nat) (hx : x < 18446744073709551616) (w : World) (hT : Tab w) :
    Calls Tryd.prog 131 #[.int .u64 x] w fun e w' => e = .returned (.int .i64 (Lib.ctz 64 x : Nat)) ∧ w = w' := by
  by_cases hx0 : x = 0
  · subst hx0
    exact tz64_zero w
  · obtain ⟨hlow, hk⟩ := Lib.lowest_bit 64 x hx0 hx
    obtain ⟨hi, htab⟩ := Lib.deBruijn64_at _ hk
    have hcell := hT _ hi
    rw [htab] at hcell
    exact tz64_core x _ _ w (by simp; omega) (tz64_key' x _ hx hlow hx0) hi hk hcell

def trailN (n : Int) : Int := (Lib.ctz 64 (u64n n) : Nat)
theorem ctz_of {u k : Nat} (hu : u < 2 ^ 64) (h0 : ∀ j, j < k → u.testBit j = false) (hk : u.testBit k = true) : Lib.ctz 64 u = k := by
  have hne : u ≠ 0 := by intro e; rw [e] at hk; simp at hk
  unfold Lib.ctz
  rw [if_neg hne]
  obtain ⟨m, hm, _⟩ := Lib.ctzFrom_spec 64 u (by omega) hu
  generalize Lib.ctzFrom 64 u = c at *
  have hb : ∀ i, u.testBit i = (decide (c ≤ i) && (2 * m + 1).testBit (i - c)) := fun i => by rw [hm, Nat.testBit_two_pow_mul]
  have h1 : u.testBit c = true := by rw [hb]; simp
  rcases Nat.lt_trichotomy c k with h | h | h
  · rw [h0 c h] at h1; cases h1
  · exact h
  · rw [hb k] at hk; simp at hk; omega
theorem trailN_one {n : Int} {k : Nat} (h : ∀ j, j < k → (u64n n).testBit j = false) (hb : (u64n n).testBit k = true) : trailN n = (k : Int) := by
  unfold trailN; rw [ctz_of (u64n_lt n) h hb]
theorem trailN_zero {n : Int} (h : ∀ j, j < 64 → (u64n n).testBit j = false) : trailN n = 64 := by
  have h0 : u64n n = 0 := by
    apply Nat.eq_of_testBit_eq
    intro i
    rw [Nat.zero_testBit]
    by_cases hi : i < 64
    · exact h i hi
    · exact Nat.testBit_lt_two_pow (Nat.lt_of_lt_of_le (u64n_lt n) (Nat.pow_le_pow_right (by decide) (by omega)))
  unfold trailN; rw [h0]; rfl

set_option maxRecDepth 100000 in
set_option maxHeartbeats 1000000 in
theorem specL4Trail_any (n : Int) (w : World) (h0 : -9223372036854775808 ≤ n) (h1 : n ≤ 9223372036854775807) :
    Calls Tryd.prog 107 #[.int .i64 n] w fun e w' => e = .returned (.int .i64 (trailN n)) ∧ w = w' := by
  have hbit := Lib.hid (fun j hj => shr_bit n h0 h1 j hj)
  have hand := Lib.hid (fun x => zand_one x)
  clear h0 h1
  go_enter Tryd.func107, Tryd.ntmps107
  go_wp2
  go_loop [3] (fun i => ∃ k : Nat, k ≤ 64 ∧ i = .int .i64 k ∧ ∀ j, j < k → (u64n n).testBit j = false) (fun i => 64 - (intOf i).toNat)
  case atStart => exact ⟨0, by omega, rfl, fun j hj => by omega⟩
  case round =>
    obtain ⟨k, hk, rfl, hz⟩ := hrel
    have Hz := Lib.hid hz
    clear hz
    by_cases hlt : k < 64
    · have hb := hbit.out k (by omega)
      have hA := hand.out (n / 2 ^ k)
      rw [hb] at hA
      cases hbb : (u64n n).testBit k with
      | false =>
        rw [hbb] at hA
        have hA2 : bits .and .i64 (n / 2 ^ k) 1 = 0 := by rw [hA]; rfl
        have Hbb := Lib.hid hbb
        clear hb hA hbb
        go_wp2_with fail
        go_round
        case rel =>
          refine ⟨k + 1, by omega, by go_num, fun j hj => ?_⟩
          by_cases e : j = k
          · subst e; exact Hbb.out
          · exact Hz.out j (by omega)
        case measure => simp [intOf]; omega
      | true =>
        rw [hbb] at hA
        have hA2 : bits .and .i64 (n / 2 ^ k) 1 = 1 := by rw [hA]; rfl
        have E := Lib.hid (trailN_one Hz.out hbb)
        clear hb hA hbb
        go_wp2_with fail
        go_ret
        exact ⟨by rw [E.out]; rfl, rfl⟩
    · obtain rfl : k = 64 := by omega
      have E := Lib.hid (trailN_zero Hz.out)
      go_wp2_with fail
      go_ret
      exact ⟨by rw [E.out]; rfl, rfl⟩

set_option maxHeartbeats 1000000 in
theorem implTrail_any (n : Int) (w : World) (hT : Tab w) :
    Calls Tryd.prog 129 #[.int .i64 n] w fun e w' => e = .returned (.int .i64 (trailN n)) ∧ w = w' := by
  have hu := u64n_lt n
  have hc := Lib.hid (fun W h => tz64_any (u64n n) (by omega) W h)
  have hw := u64n_wrap n
  have E := Lib.hid (show trailN n = ((Lib.ctz 64 (u64n n) : Nat) : Int) from rfl)
  have HT := Lib.hid hT
  clear hu hT
  generalize (Lib.ctz 64 (u64n n) : Nat) = r at *
  generalize ((u64n n : Nat) : Int) = u at *
  go_enter Tryd.func129, Tryd.ntmps129
  go_wp2_with fail
  refine (hc.out _ HT.out).mono ?_
  rintro e w1 ⟨rfl, rfl⟩
  go_wp2_with fail
  go_ret
  exact ⟨by rw [E.out]; rfl, rfl⟩
end Go.Proofs.YtanoohfhifhhaaaDoor
