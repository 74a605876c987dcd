/- Walks: the checksum's bytes; a number's four bytes; the frame of some data. -/
import Derived.Test.YtbbchgklcknlbaaKa
set_option linter.unusedVariables false
set_option linter.unusedSimpArgs false
namespace Go.Proofs.Ytbbchgklcknlbaa
open Go.RowKit

def bstr (l : List Nat) : ByteArray := ⟨(l.map UInt8.ofNat).toArray⟩
def be4 (n : Nat) : List Nat := [n / 16777216 % 256, n / 65536 % 256, n / 256 % 256, n % 256]
def le4 (n : Nat) : List Nat := [n % 256, n / 256 % 256, n / 65536 % 256, n / 16777216 % 256]
def rev4 (n : Nat) : Nat := n % 256 * 16777216 + n / 256 % 256 * 65536 + n / 65536 % 256 * 256 + n / 16777216 % 256
theorem be4_rev {n : Nat} (h : n < 2 ^ 32) : be4 (rev4 n) = le4 n := by
  unfold be4 rev4 le4
  have a0 := Nat.mod_lt n (show 256 > 0 by decide)
  have a1 := Nat.mod_lt (n / 256) (show 256 > 0 by decide)
  have a2 := Nat.mod_lt (n / 65536) (show 256 > 0 by decide)
  have a3 := Nat.mod_lt (n / 16777216) (show 256 > 0 by decide)
  generalize n % 256 = x0 at *
  generalize n / 256 % 256 = x1 at *
  generalize n / 65536 % 256 = x2 at *
  generalize n / 16777216 % 256 = x3 at *
  have e0 : (x0 * 16777216 + x1 * 65536 + x2 * 256 + x3) / 16777216 % 256 = x0 := by omega
  have e1 : (x0 * 16777216 + x1 * 65536 + x2 * 256 + x3) / 65536 % 256 = x1 := by omega
  have e2 : (x0 * 16777216 + x1 * 65536 + x2 * 256 + x3) / 256 % 256 = x2 := by omega
  have e3 : (x0 * 16777216 + x1 * 65536 + x2 * 256 + x3) % 256 = x3 := by omega
  rw [e0, e1, e2, e3]
theorem and_split (h l h' l' : Nat) (hl : l < 2 ^ 16) (hl' : l' < 2 ^ 16) : (2 ^ 16 * h + l) &&& (2 ^ 16 * h' + l') = 2 ^ 16 * (h &&& h') + (l &&& l') := by
  apply Nat.eq_of_testBit_eq
  intro i
  rw [Nat.testBit_and, Nat.testBit_two_pow_mul_add _ hl, Nat.testBit_two_pow_mul_add _ hl', Nat.testBit_two_pow_mul_add _ (Nat.and_lt_two_pow _ hl')]
  by_cases hi : i < 16
  · rw [if_pos hi, if_pos hi, if_pos hi, Nat.testBit_and]
  · rw [if_neg hi, if_neg hi, if_neg hi, Nat.testBit_and]
theorem or_split (h l h' l' : Nat) (hl : l < 2 ^ 16) (hl' : l' < 2 ^ 16) : (2 ^ 16 * h + l) ||| (2 ^ 16 * h' + l') = 2 ^ 16 * (h ||| h') + (l ||| l') := by
  apply Nat.eq_of_testBit_eq
  intro i
  rw [Nat.testBit_or, Nat.testBit_two_pow_mul_add _ hl, Nat.testBit_two_pow_mul_add _ hl', Nat.testBit_two_pow_mul_add _ (Nat.or_lt_two_pow hl hl')]
  by_cases hi : i < 16
  · rw [if_pos hi, if_pos hi, if_pos hi, Nat.testBit_or]
  · rw [if_neg hi, if_neg hi, if_neg hi, Nat.testBit_or]
theorem and_255 (n : Nat) : n &&& 255 = n % 256 := Nat.and_two_pow_sub_one_eq_mod n 8
theorem mask_rb {n : Nat} : n &&& 16711935 = 65536 * (n / 65536 % 256) + n % 256 := by
  have e : n = 2 ^ 16 * (n / 65536) + n % 65536 := by omega
  have h := and_split (n / 65536) (n % 65536) 255 255 (by omega) (by omega)
  rw [← e, and_255, and_255] at h
  have e2 : n % 65536 % 256 = n % 256 := by omega
  rw [e2] at h
  exact h
theorem or_byte {a b : Nat} (ha : a < 256) : a ||| b * 256 = b * 256 + a := by
  have := Nat.two_pow_add_eq_or_of_lt (i := 8) (b := a) (by omega) b
  rw [Nat.or_comm, Nat.mul_comm b 256]
  exact this.symm
theorem rb_step {n : Nat} (h : n < 2 ^ 32) : (n / 256 &&& 16711935) ||| (n &&& 16711935) * 256 % 4294967296 = n / 65536 % 256 * 16777216 + n / 16777216 % 256 * 65536 + n % 256 * 256 + n / 256 % 256 := by
  rw [mask_rb, mask_rb]
  have a0 := Nat.mod_lt n (show 256 > 0 by decide)
  have a1 := Nat.mod_lt (n / 256) (show 256 > 0 by decide)
  have a2 := Nat.mod_lt (n / 65536) (show 256 > 0 by decide)
  have a3 := Nat.mod_lt (n / 16777216) (show 256 > 0 by decide)
  have e3 : n / 256 / 65536 % 256 = n / 16777216 % 256 := by rw [Nat.div_div_eq_div_mul]
  rw [e3]
  generalize n % 256 = x0 at *
  generalize n / 256 % 256 = x1 at *
  generalize n / 65536 % 256 = x2 at *
  generalize n / 16777216 % 256 = x3 at *
  have e4 : (65536 * x2 + x0) * 256 % 4294967296 = 2 ^ 16 * (x2 * 256) + x0 * 256 := by omega
  rw [e4]
  have h5 := or_split x3 x1 (x2 * 256) (x0 * 256) (by omega) (by omega)
  rw [or_byte a3, or_byte a1] at h5
  rw [show 65536 * x3 + x1 = 2 ^ 16 * x3 + x1 from rfl, h5]
  omega
theorem rb_last {m : Nat} (h : m < 2 ^ 32) : (m / 65536) ||| m * 65536 % 4294967296 = m % 65536 * 65536 + m / 65536 := by
  have h1 := or_split 0 (m / 65536) (m % 65536) 0 (by omega) (by omega)
  rw [Nat.zero_or, Nat.or_zero, Nat.mul_zero, Nat.zero_add, Nat.add_zero] at h1
  rw [show m * 65536 % 4294967296 = 2 ^ 16 * (m % 65536) by omega, h1]
  omega
theorem k_or32 {a b : Nat} (ha : a < 2 ^ 32) (hb : b < 2 ^ 32) : bits .or .u32 (a : Int) (b : Int) = ((a ||| b : Nat) : Int) := by
  have hx : a ||| b < 2 ^ 32 := Nat.or_lt_two_pow ha hb
  show IntKind.u32.wrap ((BitVec.ofInt 32 (a : Int) ||| BitVec.ofInt 32 (b : Int)).toNat : Int) = _
  rw [BitVec.toNat_or, k_of32 ha, k_of32 hb, k_wrap32]
  omega
theorem bytes_one (l : List Nat) : ∀ u ∈ byteCells l, u.oneCell' = true := by
  intro u hu
  unfold byteCells at hu
  obtain ⟨p, _, rfl⟩ := List.mem_map.1 hu
  rfl
theorem bytes_made (l : List Nat) (w : World) (hl : l.length ≤ maxLen) : (w.alloc (.cells (byteCells l).toArray 5)).ownsRow w.heap.size 5 1 (.slice (some ⟨w.heap.size, 0, none⟩) l.length l.length) l.length (byteCells l) :=
  ⟨by rw [byteCells_length, Nat.mul_one], .inr ⟨w.heap.size, l.length, _, rfl, Nat.le_refl _, heap_alloc_new w _, Nat.le_refl _, hl, by simp [byteCells], by rw [Nat.mul_one]; show (byteCells l).take l.length = byteCells l; rw [← byteCells_length l, List.take_length]⟩⟩
theorem cells_new (w : World) (xs : List Value) (t : TypeId) : ∀ j u, xs[j]? = some u → (w.alloc (.cells xs.toArray t)).cell? ((⟨w.heap.size, 0, none⟩ : Addr).add j) = some u := by
  intro j u hj
  rw [Addr.add_lit]
  simp [hj]

set_option maxRecDepth 100000 in
set_option maxHeartbeats 1000000 in
theorem l15Sum_any (s : ByteArray) (w : World) (hs : s.size ≤ maxLen) :
    Calls Try.prog 52 #[.string s] w fun e w' => e = .returned (.string (bstr (le4 (CR.sumN s.data.toList)))) ∧ Below w.heap.size w w' := by
  have Hs := Lib.hid hs
  unfold maxLen at hs
  go_enter Try.func52, Try.ntmps52
  go_wp2_with fail
  go_loop [3, 4] (fun c i => ∃ k : Nat, k ≤ s.size ∧ i = .int .i64 k ∧ c = .int .u32 (CR.sumFrom 4294967295 (s.data.toList.take k) : Int)) (fun _ i => s.size - (intOf i).toNat)
  case atStart => exact ⟨0, Nat.zero_le _, rfl, rfl⟩
  case round =>
    obtain ⟨k, hk, rfl, rfl⟩ := hrel
    have hC : CR.sumFrom 4294967295 (s.data.toList.take k) < 2 ^ 32 := CR.sumFrom_lt (by omega) _
    generalize hCe : CR.sumFrom 4294967295 (s.data.toList.take k) = C at *
    have HCe := Lib.hid hCe
    clear hCe
    by_cases hlt : k < s.size
    · have hb := s[k].toNat_lt
      have hX := Lib.hid (CR.sumFrom_take (c := 4294967295) (l := s.data.toList) (k := k) (by simpa using hlt))
      rw [HCe.out, k_byte_of s k hlt] at hX
      go_wp2_with fail
      rw [k_xor32 hC (by omega)]
      have hX0 : C ^^^ s[k].toNat < 2 ^ 32 := Nat.xor_lt_two_pow hC (by omega)
      unfold CR.byteS at hX
      generalize C ^^^ s[k].toNat = X at *
      go_loop [3, 5] (fun c i => ∃ m : Nat, m ≤ 8 ∧ i = .int .i64 m ∧ c = .int .u32 (CR.sts m X : Int)) (fun _ i => 8 - (intOf i).toNat)
      case atStart => exact ⟨0, Nat.zero_le _, rfl, rfl⟩
      case round =>
        obtain ⟨m, hm, rfl, rfl⟩ := hrel
        have hY : CR.sts m X < 2 ^ 32 := CR.sts_lt m hX0
        have hn := Lib.hid (CR.sts_succ' m X)
        generalize hYe : CR.sts m X = Y at *
        have HYe := Lib.hid hYe
        clear hYe
        by_cases hm8 : m < 8
        · have e1 := k_and1 hY
          by_cases hodd : Y % 2 = 1
          · have hst := Lib.hid (show CR.st Y = (Y / 2) ^^^ 3988292384 from if_pos hodd)
            rw [show ((Y % 2 : Nat) : Int) = 1 by omega] at e1
            go_wp2_with fail
            go_round
            case rel => exact ⟨m + 1, by omega, by go_num, by rw [hn.out, hst.out, show ((Y : Int) / 2) = ((Y / 2 : Nat) : Int) by omega, k_xorp (by omega)]⟩
            case measure => simp [intOf]; omega
          · have hst := Lib.hid (show CR.st Y = Y / 2 from if_neg hodd)
            rw [show ((Y % 2 : Nat) : Int) = 0 by omega] at e1
            go_wp2_with fail
            go_round
            case rel => exact ⟨m + 1, by omega, by go_num, by rw [hn.out, hst.out, show ((Y : Int) / 2) = ((Y / 2 : Nat) : Int) by omega]⟩
            case measure => simp [intOf]; omega
        · obtain rfl : m = 8 := by omega
          go_wp2_with fail
          go_round
          case rel => exact ⟨k + 1, by omega, by go_num, by rw [hX.out, HYe.out]⟩
          case measure => simp [intOf]; omega
    · obtain rfl : k = s.size := by omega
      rw [List.take_of_length_le (by simp)] at HCe
      have hx := CR.sumFrom_lt (c := 4294967295) (by omega) s.data.toList
      have HZ := Lib.hid (show CR.sumN s.data.toList = C ^^^ 4294967295 from by unfold CR.sumN; rw [HCe.out])
      have e1 : bits .xor .u32 IntKind.u32.max (C : Int) = ((C ^^^ 4294967295 : Nat) : Int) := k_xor32c' hC
      have hx2 := Nat.xor_lt_two_pow hC (show 4294967295 < 2 ^ 32 by omega)
      go_wp2_with fail
      clear e1 hx
      generalize C ^^^ 4294967295 = Z at *
      rw [show (Z : Int) % 256 = ((Z % 256 : Nat) : Int) by omega, show (Z : Int) / 256 = ((Z / 256 : Nat) : Int) by omega, show (Z : Int) / 65536 = ((Z / 65536 : Nat) : Int) by omega, show (Z : Int) / 16777216 = ((Z / 16777216 : Nat) : Int) by omega, show ((Z / 256 : Nat) : Int) % 256 = ((Z / 256 % 256 : Nat) : Int) by omega, show ((Z / 65536 : Nat) : Int) % 256 = ((Z / 65536 % 256 : Nat) : Int) by omega, show ((Z / 16777216 : Nat) : Int) % 256 = ((Z / 16777216 % 256 : Nat) : Int) by omega]
      have hown := bytes_made (le4 Z) w (by simp [le4, maxLen])
      have hconv := conv_own (l := le4 Z) hown
      have hb := Lib.hid ((Below.refl w.heap.size w).alloc (Nat.le_refl _) (.cells #[.int .u8 ((Z % 256 : Nat) : Int), .int .u8 ((Z / 256 % 256 : Nat) : Int), .int .u8 ((Z / 65536 % 256 : Nat) : Int), .int .u8 ((Z / 16777216 % 256 : Nat) : Int)] 5))
      have hconv' := hconv
      simp only [le4, byteCells, List.map_cons, List.map_nil, List.length_cons, List.length_nil] at hconv'
      rw [hconv']
      clear hown hconv hconv'
      go_simp
      go_wp2_with fail
      go_ret
      exact ⟨by rw [HZ.out]; rfl, hb.out⟩
end Go.Proofs.Ytbbchgklcknlbaa
