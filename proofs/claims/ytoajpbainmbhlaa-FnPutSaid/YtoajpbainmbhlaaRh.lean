/- Plain facts: the first k of a struct's bits, and one more put behind them. -/
import Derived.Test.YtoajpbainmbhlaaLb
import Derived.Test.YtoajpbainmbhlaaLc
namespace Go.Proofs.Ytoajpbainmbhlaa
open Go.RowKit

def pref (s : ByteArray) (k : Nat) : ByteArray := ⟨(BM.pack (BM.listOf s.data.toList k)).toArray⟩
theorem pref_list (s : ByteArray) (k : Nat) : (pref s k).data.toList = BM.pack (BM.listOf s.data.toList k) := by simp [pref]
theorem pref_size (s : ByteArray) (k : Nat) : (pref s k).size = (k + 7) / 8 := by
  have h : (pref s k).size = (BM.pack (BM.listOf s.data.toList k)).length := List.size_toArray
  rw [h, BM.pack_length, BM.listOf_length]; unfold BM.bytesOf; omega
theorem listOf_pref (s : ByteArray) (k : Nat) : BM.listOf (pref s k).data.toList k = BM.listOf s.data.toList k := by
  rw [pref_list]; have := BM.listOf_pack (BM.listOf s.data.toList k); rwa [BM.listOf_length] at this
theorem okB_pref (s : ByteArray) (k : Nat) (h : k ≤ 20000) : okB (pref s k) (k : Int) = true := by
  unfold okB
  apply decide_eq_true
  refine ⟨by omega, by omega, ?_, ?_⟩
  · rw [pref_size]; omega
  · rw [Int.toNat_natCast, listOf_pref, pref_list]
theorem take_one (s : ByteArray) (k : Nat) : takeN s k 1 = (BM.bitAt s.data.toList k).toNat := by
  unfold takeN; simp [BM.ofBits]
theorem bit_wrap (b : Bool) : wrap64 (b.toNat : Int) = (b.toNat : Int) := by have := Bool.toNat_le b; unfold wrap64; omega
theorem listOf_succ1 (d : List UInt8) (k : Nat) : BM.listOf d (k + 1) = BM.listOf d k ++ [BM.bitAt d k] := by
  unfold BM.listOf; rw [List.range_succ]; simp
theorem digits_bit (b : Bool) : BM.digits (u64of (b.toNat : Int)) 1 = [b] := by cases b <;> rfl
theorem one_put (s : ByteArray) (k : Nat) (h : k + 1 ≤ 20000) : putB (pref s k) (k : Int) (wrap64 (takeN s k 1 : Int)) 1 = true := by
  rw [take_one, bit_wrap]
  unfold putB
  rw [okB_pref s k (by omega), Bool.true_and, Bool.and_eq_true]
  refine ⟨?_, decide_eq_true (by omega)⟩
  unfold fitsB
  apply decide_eq_true
  right
  refine ⟨by omega, by omega, by omega, ?_⟩
  cases BM.bitAt s.data.toList k <;> decide
theorem one_putS (s : ByteArray) (k : Nat) (h : k + 1 ≤ 20000) : putS (pref s k) (k : Int) (wrap64 (takeN s k 1 : Int)) 1 = pref s (k + 1) := by
  unfold putS
  rw [one_put s k h, if_pos rfl]
  unfold putL
  rw [take_one, bit_wrap, Int.toNat_natCast, listOf_pref, show (1 : Int).toNat = 1 from rfl, digits_bit, ← listOf_succ1]
  rfl
theorem one_putN (s : ByteArray) (k : Nat) (h : k + 1 ≤ 20000) : putN (pref s k) (k : Int) (wrap64 (takeN s k 1 : Int)) 1 = (k : Int) + 1 := by
  unfold putN
  rw [one_put s k h, if_pos rfl]
theorem one_get (s : ByteArray) (N : Int) (k : Nat) (h : okB s N = true) (hk : (k : Int) < N) : getB s N (k : Int) 1 = true := by
  unfold getB; rw [h, Bool.true_and]; apply decide_eq_true; omega
theorem pref_all (s : ByteArray) (N : Int) (k : Nat) (h : okB s N = true) (hk : (k : Int) = N) : pref s k = s := by
  obtain ⟨h0, h1, h2, h3⟩ := okB_facts h
  have : N.toNat = k := by omega
  rw [this] at h3
  unfold pref
  rw [h3]
theorem pref_zero (s : ByteArray) : pref s 0 = ⟨#[]⟩ := by
  unfold pref; simp [BM.listOf, BM.pack, BM.bytesOf]
theorem pref_le (s : ByteArray) (k : Nat) (h : k ≤ 20000) : (pref s k).size ≤ maxLen := by rw [pref_size]; unfold maxLen; omega
theorem one_u64 (s : ByteArray) (k : Nat) : -9223372036854775808 ≤ wrap64 (takeN s k 1 : Int) ∧ wrap64 (takeN s k 1 : Int) ≤ 9223372036854775807 := by unfold wrap64; omega
end Go.Proofs.Ytoajpbainmbhlaa
