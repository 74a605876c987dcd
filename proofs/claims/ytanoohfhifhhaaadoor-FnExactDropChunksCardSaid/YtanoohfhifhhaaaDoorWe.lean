/- Walks: the model's and the program's BitsOk. -/
import Derived.Test.YtanoohfhifhhaaaDoorWc
import Derived.Deep.RegionHeld3
set_option linter.unusedVariables false
set_option linter.unusedSimpArgs false
namespace Go.Proofs.YtanoohfhifhhaaaDoor
open Go.RowKit

def okB (s : ByteArray) (n : Int) : Bool :=
  decide (0 ≤ n ∧ n ≤ 20000 ∧ (s.size : Int) = (n + 7) / 8 ∧ BM.pack (BM.listOf s.data.toList n.toNat) = s.data.toList)

theorem inB_true {n lo hi : Int} (h1 : lo ≤ n) (h2 : n ≤ hi) : inB n lo hi = true := by simp [inB, h1, h2]
theorem inB_false {n lo hi : Int} (h : ¬ (lo ≤ n ∧ n ≤ hi)) : inB n lo hi = false := by simp only [inB, decide_eq_false_iff_not]; exact h

theorem bits_eql (a b : ByteArray) (m n : Int) (w : World) :
    (binOp .eql 77 (.agg #[.string a, .int .i64 m]) (.agg #[.string b, .int .i64 n])).run Tryd.prog w = .ok (.bool (a.toList == b.toList && m == n)) w := by
  have hu := Tryd.underlying77
  have hs := Tryd.underlying9
  have hi := Tryd.underlying2
  rw [run_eql_struct, run_equalIn_agg (P := Tryd.prog) w 9999 _ _ _ (by kernel_rfl) (by kernel_rfl)]
  simp [go_sem, Op.eqFields]
  by_cases h1 : a.toList = b.toList <;> by_cases h2 : m = n <;> simp [h1, h2]
theorem toList_data (s : ByteArray) : s.toList = s.data.toList := ByteArray.toList_eq s

def RetBelow (v : Value) (w : World) (e : Ending) (w' : World) : Prop := e = .returned v ∧ Below w.heap.size w w'




end Go.Proofs.YtanoohfhifhhaaaDoor

/- Walks: the program's BitsOk. -/
set_option linter.unusedVariables false
set_option linter.unusedSimpArgs false
namespace Go.Proofs.YtanoohfhifhhaaaDoor
open Go.RowKit

theorem below_drewN' {B : Nat} {a w : World} (h : Below B a w) (n : Nat) : Below B a (w.drewN n) := ⟨h.os, h.tape, h.output, h.size, h.block⟩

theorem bytesFor_q (n : Int) (w : World) (h0 : 0 ≤ n) (h1 : n ≤ 100000) :
    Calls Tryd.prog 117 #[.int .i64 n] w fun e w' => e = .returned (.int .i64 ((n + 7) / 8)) ∧ w' = w :=
  (bytesFor_any n w h0 h1).mono fun _ _ ⟨h, k⟩ => ⟨h, k.symm⟩

set_option maxRecDepth 100000 in
set_option maxHeartbeats 1000000 in
theorem implBitsOk_neg (s : ByteArray) (n : Int) (w : World) (h : n < 0) :
    Calls Tryd.prog 102 #[.agg #[.string s, .int .i64 n]] w (RetBelow (.bool (okB s n)) w) := by
  have hok : okB s n = false := by unfold okB; rw [decide_eq_false_iff_not]; omega
  have Hok := Lib.hid hok
  clear hok
  go_enter Tryd.func102, Tryd.ntmps102
  go_wp2_with fail
  go_quiet (fail)
  go_wp2_with fail
  go_ret
  exact ⟨by rw [Hok.out]; rfl, below_drewN' ((Below.refl _ _).alloc (Nat.le_refl _) _) _⟩

set_option maxRecDepth 100000 in
set_option maxHeartbeats 1000000 in
theorem implBitsOk_big (s : ByteArray) (n : Int) (w : World) (h : 20000 < n) :
    Calls Tryd.prog 102 #[.agg #[.string s, .int .i64 n]] w (RetBelow (.bool (okB s n)) w) := by
  have hok : okB s n = false := by unfold okB; rw [decide_eq_false_iff_not]; omega
  have Hok := Lib.hid hok
  clear hok
  have h0 : decide (n < 0) = false := by simp; omega
  go_enter Tryd.func102, Tryd.ntmps102
  go_wp2_with fail
  go_quiet (fail)
  go_wp2_with fail
  go_ret
  exact ⟨by rw [Hok.out]; rfl, below_drewN' ((Below.refl _ _).alloc (Nat.le_refl _) _) _⟩

set_option maxRecDepth 100000 in
set_option maxHeartbeats 1000000 in
theorem implBitsOk_len (s : ByteArray) (n : Int) (w : World) (hs : s.size ≤ maxLen) (h0 : 0 ≤ n) (h1 : n ≤ 20000) (hl : ¬ (s.size : Int) = (n + 7) / 8) :
    Calls Tryd.prog 102 #[.agg #[.string s, .int .i64 n]] w (RetBelow (.bool (okB s n)) w) := by
  have hok : okB s n = false := by unfold okB; rw [decide_eq_false_iff_not]; intro hh; exact hl hh.2.2.1
  have Hok := Lib.hid hok
  clear hok
  have h0' : decide (n < 0) = false := by simp; omega
  have h1' : decide (20000 < n) = false := by simp; omega
  have hb1 : ((s.size : Int) == (n + 7) / 8) = false := by simpa using hl
  have hb2 : ((s.size : Int) != (n + 7) / 8) = true := by simpa using hl
  unfold maxLen at hs
  clear hl
  go_enter Tryd.func102, Tryd.ntmps102
  go_wp2_with fail
  go_quiet ((go_at_call 117; exact Calls.quiet_of_same (bytesFor_q _ _ (by omega) (by omega))))
  go_wp2_with fail
  go_ret
  exact ⟨by rw [Hok.out]; rfl, below_drewN' ((Below.refl _ _).alloc (Nat.le_refl _) _) _⟩

theorem last_of (s : ByteArray) (h : s.size - 1 < s.size) : s.data.toList.getD (s.data.toList.length - 1) 0 = s[s.size - 1] := by
  have h' : s.data.toList.length - 1 < s.data.toList.length := by simp; omega
  rw [List.getD_eq_getElem?_getD, List.getElem?_eq_getElem h']
  rfl
theorem size_list (s : ByteArray) : s.data.toList.length = s.size := by simp

set_option maxRecDepth 100000 in
set_option maxHeartbeats 1000000 in
theorem implBitsOk_full (s : ByteArray) (n : Int) (w : World) (hs : s.size ≤ maxLen) (h0 : 0 ≤ n) (h1 : n ≤ 20000) (hl : (s.size : Int) = (n + 7) / 8) (hu : n % 8 = 0) :
    Calls Tryd.prog 102 #[.agg #[.string s, .int .i64 n]] w (RetBelow (.bool (okB s n)) w) := by
  have hok : okB s n = true := by
    unfold okB; rw [decide_eq_true_iff]
    exact ⟨h0, h1, hl, BM.okFull (by rw [size_list]; unfold BM.bytesOf; omega) (by omega)⟩
  have Hok := Lib.hid hok
  clear hok
  have h0' : decide (n < 0) = false := by simp; omega
  have h1' : decide (20000 < n) = false := by simp; omega
  have hb1 : ((s.size : Int) == (n + 7) / 8) = true := by simpa using hl
  have hb2 : ((s.size : Int) != (n + 7) / 8) = false := by simpa using hl
  have hu1 : (n % 8 == 0) = true := by simpa using hu
  unfold maxLen at hs
  have Hl := Lib.hid hl
  clear hl hu
  go_enter Tryd.func102, Tryd.ntmps102
  go_wp2_with fail
  go_quiet ((go_at_call 117; exact Calls.quiet_of_same (bytesFor_q _ _ (by omega) (by omega))))
  go_wp2_with fail
  go_ret
  exact ⟨by rw [Hok.out]; rfl, below_drewN' ((Below.refl _ _).alloc (Nat.le_refl _) _) _⟩

set_option maxRecDepth 100000 in
set_option maxHeartbeats 1000000 in
theorem implBitsOk_part (s : ByteArray) (n : Nat) (w : World) (hs : s.size ≤ maxLen) (h1 : n ≤ 20000) (hl : (s.size : Int) = ((n : Int) + 7) / 8) (hu : ¬ n % 8 = 0) :
    Calls Tryd.prog 102 #[.agg #[.string s, .int .i64 n]] w (RetBelow (.bool (okB s n)) w) := by
  have hs1 : s.size - 1 < s.size := by omega
  have hok : okB s n = (((s[s.size - 1]'hs1).toNat : Int) * 2 ^ (n % 8) % 256 == 0) := by
    have h := BM.okTail (d := s.data.toList) (n := n) (by rw [size_list]; unfold BM.bytesOf; omega) hu
    rw [last_of s hs1] at h
    have e : (((s[s.size - 1]'hs1).toNat : Int) * 2 ^ (n % 8) % 256) = (((s[s.size - 1]'hs1).toNat * 2 ^ (n % 8) % 256 : Nat) : Int) := by simp
    rw [e]
    unfold okB
    rw [Bool.eq_iff_iff, decide_eq_true_iff, beq_iff_eq, Int.toNat_natCast, h]
    omega
  have Hok := Lib.hid hok
  clear hok
  have h1' : decide (20000 < (n : Int)) = false := by simp; omega
  have hb1 : ((s.size : Int) == ((n : Int) + 7) / 8) = true := by simpa using hl
  have hb2 : ((s.size : Int) != ((n : Int) + 7) / 8) = false := by simpa using hl
  have hu1 : ((n : Int) % 8 == 0) = false := by simp; omega
  have hi1 : (1 : Int) ≤ (s.size : Int) := by omega
  unfold maxLen at hs
  have Hl := Lib.hid hl
  clear hl hu
  go_enter Tryd.func102, Tryd.ntmps102
  go_wp2_with fail
  go_quiet ((go_at_call 117; exact Calls.quiet_of_same (bytesFor_q _ _ (by omega) (by omega))))
  go_wp2_with fail
  go_ret
  exact ⟨by rw [Hok.out]; rfl, below_drewN' ((Below.refl _ _).alloc (Nat.le_refl _) _) _⟩

theorem implBitsOk_any (s : ByteArray) (n : Int) (w : World) (hs : s.size ≤ maxLen) :
    Calls Tryd.prog 102 #[.agg #[.string s, .int .i64 n]] w (RetBelow (.bool (okB s n)) w) := by
  by_cases h0 : n < 0
  · exact implBitsOk_neg s n w h0
  · by_cases h1 : 20000 < n
    · exact implBitsOk_big s n w h1
    · by_cases hl : (s.size : Int) = (n + 7) / 8
      · by_cases hu : n % 8 = 0
        · exact implBitsOk_full s n w hs (by omega) (by omega) hl hu
        · obtain ⟨k, rfl⟩ := Int.eq_ofNat_of_zero_le (by omega : 0 ≤ n)
          exact implBitsOk_part s k w hs (by omega) hl (by omega)
      · exact implBitsOk_len s n w hs (by omega) (by omega) hl
end Go.Proofs.YtanoohfhifhhaaaDoor
