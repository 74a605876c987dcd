/- Walks: l1Digits, l1Take. -/
import Derived.Test.YtanoohfhifhhaaaDoorWb
import Derived.Test.YtanoohfhifhhaaaDoorBn
set_option linter.unusedVariables false
set_option linter.unusedSimpArgs false
namespace Go.Proofs.YtanoohfhifhhaaaDoor
open Go.RowKit

theorem and_one (x : Int) : bits .and .i64 x 1 = x % 2 := by
  show IntKind.i64.wrap ((BitVec.ofInt 64 x &&& BitVec.ofInt 64 1).toNat : Int) = _
  rw [BitVec.toNat_and, show (BitVec.ofInt 64 1).toNat = 1 from rfl, Nat.and_one_is_mod, BitVec.toNat_ofInt, IntKind.wrap_i64]
  have : (x % ((2 ^ 64 : Nat) : Int)).toNat % 2 = (x % 2).toNat := by omega
  omega
def u64of (v : Int) : Nat := (v % 18446744073709551616).toNat
theorem u64of_lt (v : Int) : u64of v < 2 ^ 64 := by unfold u64of; omega
theorem bit_of (v : Int) (i : Nat) (hi : i < 64) : v / 2 ^ i % 2 = (((u64of v).testBit i).toNat : Int) := by
  have h1 : (u64of v : Int) = v % 18446744073709551616 := by unfold u64of; omega
  have hq : v = 18446744073709551616 * (v / 18446744073709551616) + (u64of v : Int) := by rw [h1]; omega
  obtain ⟨j, hp⟩ : ∃ j, i + (j + 1) = 64 := ⟨63 - i, by omega⟩
  have e64 : (18446744073709551616 : Int) = 2 ^ i * (2 * 2 ^ j) := by
    rw [Int.mul_comm 2 (2 ^ j), ← Int.pow_succ, ← Int.pow_add, hp]; rfl
  have hv : v / 2 ^ i = (u64of v : Int) / 2 ^ i + 2 * 2 ^ j * (v / 18446744073709551616) := by
    conv => lhs; rw [hq]
    rw [Int.add_comm]
    conv => lhs; rw [e64]
    rw [Int.mul_assoc, Int.add_mul_ediv_left _ _ (Int.ne_of_gt (Int.pow_pos (by decide)))]
    rw [← e64]
  rw [hv, show ((u64of v : Int) / 2 ^ i) = ((u64of v / 2 ^ i : Nat) : Int) by simp, Nat.testBit_eq_decide_div_mod_eq, Int.mul_assoc]
  generalize u64of v / 2 ^ i = z
  generalize (2 : Int) ^ j * (v / 18446744073709551616) = y
  by_cases h : z % 2 = 1 <;> simp [h] <;> omega

theorem digits_take (v n k : Nat) (h : k < n) : (BM.digits v n).take (k + 1) = (BM.digits v n).take k ++ [v.testBit (n - 1 - k)] := by
  rw [List.take_succ_eq_append_getElem (by rw [BM.digits_length]; exact h)]
  simp [BM.digits]
theorem bitInts_take (v n k : Nat) (h : k < n) : bitInts ((BM.digits v n).take (k + 1)) = bitInts ((BM.digits v n).take k) ++ [.int .i64 ((v.testBit (n - 1 - k)).toNat : Int)] := by
  rw [digits_take v n k h]; simp [bitInts]

set_option maxRecDepth 100000 in
set_option maxHeartbeats 1000000 in
theorem l1Digits_any (v : Int) (n : Nat) (w : World) (hn : n ≤ 64) :
    Calls Tryd.prog 104 #[.int .i64 v, .int .i64 (n : Int)] w (ListPost w.heap.size (BM.digits (u64of v) n) w) := by
  obtain ⟨i0, hi, hz0, hz1, hz2⟩ := info_parts info_i64
  go_enter Tryd.func104, Tryd.ntmps104
  go_wp2
  go_loopw [5, 6] (fun x i wr => ∃ k : Nat, k ≤ n ∧ i = .int .i64 ((n : Int) - 1 - k) ∧ wr.ownsRow w.heap.size 2 1 x k (bitInts ((BM.digits (u64of v) n).take k)) ∧ Below w.heap.size w wr ∧ x ≠ .slice none 0 0)
    (fun _ i _ => (intOf i + 1).toNat)
  case atStart =>
    refine ⟨0, Nat.zero_le _, by simp, ?_, (Below.refl _ _).alloc (Nat.le_refl _) _, by simp⟩
    have := World.ownsRow_made w (base := w.heap.size) (e := 2) (size := 1) #[] 0 (by simp) (by simp [maxLen]) rfl
    simpa [bitInts] using this
  case round =>
    obtain ⟨k, hk, rfl, hown, hb, hvn⟩ := hrel
    have Hvn := Lib.hid hvn
    clear hvn
    by_cases hlt : k < n
    · have hge : (0 : Int) ≤ (n : Int) - 1 - k := by omega
      have hsz := hb.size
      have htn : ((n : Int) - 1 - (k : Int)).toNat = n - 1 - k := by omega
      have hval : bits .and .i64 (v / 2 ^ (n - 1 - k)) 1 = (((u64of v).testBit (n - 1 - k)).toNat : Int) := by rw [and_one, bit_of _ _ (by omega)]
      generalize hB : (((u64of v).testBit (n - 1 - k)).toNat : Int) = B at hval
      have HB := Lib.hid hB
      clear hB
      go_wp2_with (at_builtin; refine wpList_append_own _ rfl _ _ 94 rfl w.heap.size 2 i0 (.int .i64 0) 1 8 Tryd.underlying94 hi hz0 hz1 hz2 rfl (by decide) _ _ _ rfl (hown.alloc _) ⟨wr.heap.size, 0, none⟩ 1 1 [.int .i64 B] rfl rfl ?c1 ?c2 ?c3 ?c4 ?c5 ?_)
      case c1 => exact cell_one_new _ _ _
      case c2 => intro u hu; simp at hu; subst hu; rfl
      case c3 => unfold maxLen; omega
      case c4 => omega
      case c5 => simp; omega
      intro v' w1 hown' hgrow hnn
      have Hnn : Hid (v' ≠ .slice none 0 0) := by first | exact hnn | exact fun h => by have := (hnn.1 h).2; omega
      clear hnn
      rw [← HB.out, ← bitInts_take _ _ _ hlt] at hown'
      have hb1 : Below w.heap.size w w1 := (hb.alloc (by omega) _).grown hgrow (by simp; omega) (fun k hk => (hown.lt _ hk).1)
      clear hown hgrow hb hval
      go_wp2
      go_roundw
      case rel => exact ⟨k + 1, by omega, by congr 1; omega, hown', hb1, Hnn.out⟩
      case measure => simp [intOf]; omega
    · obtain rfl : k = n := by omega
      have hge : ¬ (0 : Int) ≤ (k : Int) - 1 - k := by omega
      go_wp2
      go_ret
      rw [List.take_of_length_le (by rw [BM.digits_length]; omega)] at hown
      exact ⟨_, rfl, by rw [BM.digits_length]; exact hown, hb, Hvn.out⟩

theorem or_bit (x : Int) (b : Bool) (h0 : x % 2 = 0) (h1 : -9223372036854775808 ≤ x) (h2 : x ≤ 9223372036854775807) : bits .or .i64 x ((b.toNat : Nat) : Int) = x + (b.toNat : Int) := by
  show IntKind.i64.wrap ((BitVec.ofInt 64 x ||| BitVec.ofInt 64 ((b.toNat : Nat) : Int)).toNat : Int) = _
  have hb : (BitVec.ofInt 64 ((b.toNat : Nat) : Int)).toNat = b.toNat := by cases b <;> rfl
  rw [BitVec.toNat_or, hb, BitVec.toNat_ofInt, IntKind.wrap_i64]
  obtain ⟨Y, hY⟩ : ∃ Y : Nat, (x % ((2 ^ 64 : Nat) : Int)).toNat = 2 * Y := ⟨(x % ((2 ^ 64 : Nat) : Int)).toNat / 2, by omega⟩
  rw [hY]
  have hbl := Bool.toNat_lt b
  have ho : 2 * Y ||| b.toNat = 2 * Y + b.toNat := by
    have := Nat.shiftLeft_add_eq_or_of_lt (i := 1) (b := b.toNat) (by omega) Y
    rw [Nat.shiftLeft_eq] at this
    rw [Nat.mul_comm 2 Y]
    exact this.symm
  rw [ho]
  generalize b.toNat = z at *
  omega
theorem take_step (t : Nat) (b : Bool) : bits .or .i64 (wrap64 (wrap64 (t : Int) * 2)) ((b.toNat : Nat) : Int) = wrap64 ((2 * t + b.toNat : Nat) : Int) := by
  have e : wrap64 (wrap64 (t : Int) * 2) = wrap64 ((t : Int) * 2) := by unfold wrap64; omega
  rw [e, or_bit _ _ (by unfold wrap64; omega) (by unfold wrap64; omega) (by unfold wrap64; omega)]
  have hbl := Bool.toNat_lt b
  generalize b.toNat = z at *
  unfold wrap64
  omega

def takeN (s : ByteArray) (a k : Nat) : Nat := BM.ofBits (fun j => BM.bitAt s.data.toList (a + j)) k
set_option maxRecDepth 100000 in
set_option maxHeartbeats 1000000 in
theorem l1Take_any (s : ByteArray) (N : Int) (a n : Nat) (w : World) (ha : a + n ≤ 20000) (hl : a + n ≤ 8 * s.size) (hs : s.size ≤ maxLen) :
    Calls Tryd.prog 109 #[.agg #[.string s, .int .i64 N], .int .i64 (a : Int), .int .i64 (n : Int)] w fun e w' => e = .returned (.int .i64 (wrap64 (takeN s a n : Int))) ∧ Below w.heap.size w w' := by
  go_enter Tryd.func109, Tryd.ntmps109
  go_wp2
  go_loop [7, 8] (fun x i => ∃ k : Nat, k ≤ n ∧ i = .int .i64 ((a + k : Nat) : Int) ∧ x = .int .i64 (wrap64 (takeN s a k : Int))) (fun _ i => (a + n - intOf i).toNat)
  case atStart => exact ⟨0, Nat.zero_le _, rfl, by simp [takeN, BM.ofBits, wrap64]⟩
  case round =>
    obtain ⟨k, hk, rfl, rfl⟩ := hrel
    have hst := take_step (takeN s a k) (BM.bitAt s.data.toList (a + k))
    have hnx : 2 * takeN s a k + (BM.bitAt s.data.toList (a + k)).toNat = takeN s a (k + 1) := rfl
    rw [hnx] at hst
    have Hst := Lib.hid hst
    clear hst hnx
    generalize hT : takeN s a k = T at Hst
    by_cases hlt : k < n
    · have hbit := fun W => l1Bit_any s (a + k) W (by omega) (by omega) hs
      generalize (BM.bitAt s.data.toList (a + k)).toNat = B at hbit Hst
      rw [show ((a + k : Nat) : Int) = (a : Int) + (k : Int) from Int.natCast_add a k] at hbit
      have Hbit := Lib.hid hbit
      clear hbit hT
      go_wp2_with (go_at_call 111; refine (Hbit.out _).mono ?_; rintro e w' ⟨rfl, rfl⟩)
      go_round
      case rel => exact ⟨k + 1, by omega, by go_num, by rw [← Hst.out]; try rfl⟩
      case measure => simp [intOf]; omega
    · obtain rfl : k = n := by omega
      have HT := Lib.hid hT
      clear hT
      go_wp2
      go_ret
      exact ⟨by rw [HT.out]; rfl, (Below.refl _ _).alloc (Nat.le_refl _) _⟩
end Go.Proofs.YtanoohfhifhhaaaDoor
