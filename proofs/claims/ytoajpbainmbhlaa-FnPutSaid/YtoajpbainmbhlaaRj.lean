/- Plain facts: what was put behind a struct's bits is got there, and what stood ahead is cut out again. -/
import Derived.Test.YtoajpbainmbhlaaRh
import Derived.Test.YtoajpbainmbhlaaLd
namespace Go.Proofs.Ytoajpbainmbhlaa
open Go.RowKit

def packed (l : List Bool) : ByteArray := ⟨(BM.pack l).toArray⟩
theorem packed_list (l : List Bool) : (packed l).data.toList = BM.pack l := by simp [packed]
theorem packed_size (l : List Bool) : (packed l).size = (l.length + 7) / 8 := by
  have h : (packed l).size = (BM.pack l).length := List.size_toArray
  rw [h, BM.pack_length]; unfold BM.bytesOf; omega
theorem okB_packed (l : List Bool) (h : l.length ≤ 20000) : okB (packed l) (l.length : Int) = true := by
  unfold okB
  apply decide_eq_true
  refine ⟨by omega, by omega, ?_, ?_⟩
  · rw [packed_size]; omega
  · rw [Int.toNat_natCast, packed_list, BM.listOf_pack]
theorem put_facts {s : ByteArray} {N v k : Int} (h : putB s N v k = true) : okB s N = true ∧ fitsB v k = true ∧ N + k ≤ 20000 := by
  unfold putB at h
  rw [Bool.and_eq_true, Bool.and_eq_true] at h
  exact ⟨h.1, h.2.1, of_decide_eq_true h.2.2⟩
theorem fits_facts {v k : Int} (h : fitsB v k = true) : 0 ≤ k ∧ k ≤ 64 ∧ (k = 64 ∨ (0 ≤ v ∧ v < 2 ^ k.toNat)) := by
  unfold fitsB at h
  have := of_decide_eq_true h
  rcases this with h | ⟨h1, h2, h3, h4⟩
  · exact ⟨by omega, by omega, .inl h⟩
  · exact ⟨h1, by omega, .inr ⟨h3, h4⟩⟩
theorem putL_length (s : ByteArray) (N v k : Int) : (putL s N v k).length = N.toNat + k.toNat := by
  unfold putL; rw [List.length_append, BM.listOf_length, BM.digits_length]
theorem put_ok {s : ByteArray} {N v k : Int} (h : putB s N v k = true) : okB (putS s N v k) (N + k) = true := by
  obtain ⟨h1, h2, h3⟩ := put_facts h
  obtain ⟨f1, f2, _⟩ := fits_facts h2
  have h0 := (okB_facts h1).1
  unfold putS
  rw [if_pos h]
  have := okB_packed (putL s N v k) (by rw [putL_length]; omega)
  rw [putL_length] at this
  rw [show N + k = ((N.toNat + k.toNat : Nat) : Int) by omega]
  exact this
theorem put_get {s : ByteArray} {N v k : Int} (h : putB s N v k = true) : getB (putS s N v k) (N + k) N k = true := by
  obtain ⟨h1, h2, h3⟩ := put_facts h
  obtain ⟨f1, f2, _⟩ := fits_facts h2
  have h0 := (okB_facts h1).1
  unfold getB; rw [put_ok h, Bool.true_and]; apply decide_eq_true; omega
theorem take_put {s : ByteArray} {N v k : Int} (h : putB s N v k = true) : takeN (putS s N v k) N.toNat k.toNat = BM.ofBits (fun i => (u64of v).testBit (k.toNat - 1 - i)) k.toNat := by
  unfold takeN putS
  rw [if_pos h]
  apply BM.ofBits_congr
  intro i hi
  rw [show (ByteArray.mk (BM.pack (putL s N v k)).toArray).data.toList = BM.pack (putL s N v k) from packed_list _, BM.bitAt_pack]
  unfold putL
  rw [BM.getD_append, BM.listOf_length, if_neg (by omega), BM.digits_getD, if_pos (by omega), show N.toNat + i - N.toNat = i by omega]
theorem u64of_nat (v : Nat) (h : v < 18446744073709551616) : u64of (v : Int) = v := by unfold u64of; omega
theorem wrap_u64of (v : Int) (h0 : -9223372036854775808 ≤ v) (h1 : v ≤ 9223372036854775807) : wrap64 (u64of v : Int) = v := by unfold wrap64 u64of; omega
theorem u64of_lt' (v : Int) : u64of v < 18446744073709551616 := by unfold u64of; omega
theorem put_val {s : ByteArray} {N v k : Int} (h : putB s N v k = true) (h0 : -9223372036854775808 ≤ v) (h1 : v ≤ 9223372036854775807) :
    wrap64 (takeN (putS s N v k) N.toNat k.toNat : Int) = v := by
  obtain ⟨_, h2, _⟩ := put_facts h
  obtain ⟨f1, f2, f3⟩ := fits_facts h2
  rw [take_put h, BM.ofBits_testBit]
  · exact wrap_u64of v h0 h1
  · rcases f3 with rfl | ⟨g1, g2⟩
    · exact u64of_lt' v
    · obtain ⟨u, rfl⟩ := Int.eq_ofNat_of_zero_le g1
      have g3 : u < 2 ^ k.toNat := by
        have e : ((2 : Int) ^ k.toNat) = ((2 ^ k.toNat : Nat) : Int) := by rw [Int.natCast_pow]; rfl
        rw [e] at g2
        exact Int.ofNat_lt.mp g2
      rw [u64of_nat u (by omega)]
      exact g3
theorem put_has {s : ByteArray} {N v k : Int} (h : putB s N v k = true) : hasB (putS s N v k) (N + k) 0 N = true := by
  obtain ⟨h1, h2, h3⟩ := put_facts h
  obtain ⟨f1, f2, _⟩ := fits_facts h2
  have h0 := (okB_facts h1).1
  unfold hasB; rw [put_ok h, Bool.true_and]; apply decide_eq_true; omega
theorem put_part {s : ByteArray} {N v k : Int} (h : putB s N v k = true) : partS (putS s N v k) (N + k) 0 N = s := by
  obtain ⟨h1, h2, h3⟩ := put_facts h
  obtain ⟨f1, f2, _⟩ := fits_facts h2
  obtain ⟨h0, _, _, hp⟩ := okB_facts h1
  unfold partS
  rw [if_pos (put_has h)]
  have e : partL (putS s N v k) (N + k) 0 N = BM.listOf s.data.toList N.toNat := by
    unfold partL putS
    rw [if_pos h, show (ByteArray.mk (BM.pack (putL s N v k)).toArray).data.toList = BM.pack (putL s N v k) from packed_list _,
      show (N + k).toNat = (putL s N v k).length by rw [putL_length]; omega, BM.listOf_pack]
    unfold putL
    rw [show (0 : Int).toNat = 0 from rfl, List.drop_zero, List.take_append_of_le_length (by rw [BM.listOf_length]; omega), List.take_of_length_le (by rw [BM.listOf_length]; omega)]
  rw [e, hp]
theorem put_partN {s : ByteArray} {N v k : Int} (h : putB s N v k = true) : partN (putS s N v k) (N + k) 0 N = N := by
  unfold partN; rw [if_pos (put_has h)]
theorem put_size {s : ByteArray} {N v k : Int} (h : putB s N v k = true) : (putS s N v k).size ≤ maxLen := by
  have := okB_facts (put_ok h); unfold maxLen; omega
end Go.Proofs.Ytoajpbainmbhlaa
