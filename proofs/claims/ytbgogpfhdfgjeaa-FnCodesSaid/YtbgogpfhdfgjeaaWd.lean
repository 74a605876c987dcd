/- Walks: the model's and the program's BitsOk. -/
import Derived.Test.YtbgogpfhdfgjeaaWc
import Derived.Deep.RegionHeld3
set_option linter.unusedVariables false
set_option linter.unusedSimpArgs false
namespace Go.Proofs.Ytbgogpfhdfgjeaa
open Go.RowKit

def okB (s : ByteArray) (n : Int) : Bool :=
  decide (0 ≤ n ∧ n ≤ 20000 ∧ (s.size : Int) = (n + 7) / 8 ∧ BM.pack (BM.listOf s.data.toList n.toNat) = s.data.toList)

theorem inB_true {n lo hi : Int} (h1 : lo ≤ n) (h2 : n ≤ hi) : inB n lo hi = true := by simp [inB, h1, h2]
theorem inB_false {n lo hi : Int} (h : ¬ (lo ≤ n ∧ n ≤ hi)) : inB n lo hi = false := by simp only [inB, decide_eq_false_iff_not]; exact h

theorem bits_eql (a b : ByteArray) (m n : Int) (w : World) :
    (binOp .eql 26 (.agg #[.string a, .int .i64 m]) (.agg #[.string b, .int .i64 n])).run Try.prog w = .ok (.bool (a.toList == b.toList && m == n)) w := by
  have hu := Try.underlying26
  have hs := Try.underlying9
  have hi := Try.underlying2
  rw [run_eql_struct, run_equalIn_agg (P := Try.prog) w 9999 _ _ _ (by kernel_rfl) (by kernel_rfl)]
  simp [go_sem, Op.eqFields]
  by_cases h1 : a.toList = b.toList <;> by_cases h2 : m = n <;> simp [h1, h2]
theorem toList_data (s : ByteArray) : s.toList = s.data.toList := ByteArray.toList_eq s

def RetBelow (v : Value) (w : World) (e : Ending) (w' : World) : Prop := e = .returned v ∧ Below w.heap.size w w'

set_option maxRecDepth 100000 in
set_option maxHeartbeats 1000000 in
theorem specBitsOk_out (s : ByteArray) (n : Int) (w : World) (h : ¬ (0 ≤ n ∧ n ≤ 20000)) :
    Calls Try.prog 54 #[.agg #[.string s, .int .i64 n]] w (RetBelow (.bool (okB s n)) w) := by
  have hin : ∀ W, Calls Try.prog 55 #[.int .i64 n, .int .i64 0, .int .i64 20000] W fun e w' => e = .returned (.bool false) ∧ W = w' := fun W => by
    have := l1In_any n 0 20000 W; rw [inB_false h] at this; exact this
  have hin' := Lib.hid hin
  clear hin
  have hok : okB s n = false := by unfold okB; rw [decide_eq_false_iff_not]; intro hh; exact h ⟨hh.1, hh.2.1⟩
  have Hok := Lib.hid hok
  clear hok h
  go_enter Try.func54, Try.ntmps54
  go_wp2_with (go_at_call 55; refine (hin'.out _).mono ?_; rintro e w' ⟨rfl, rfl⟩)
  go_ret
  exact ⟨by rw [Hok.out]; rfl, (Below.refl _ _).alloc (Nat.le_refl _) _⟩

set_option maxRecDepth 100000 in
set_option maxHeartbeats 1000000 in
theorem specBitsOk_len (s : ByteArray) (n : Int) (w : World) (hs : s.size ≤ maxLen) (h : 0 ≤ n ∧ n ≤ 20000) (hl : ¬ (s.size : Int) = (n + 7) / 8) :
    Calls Try.prog 54 #[.agg #[.string s, .int .i64 n]] w (RetBelow (.bool (okB s n)) w) := by
  have hin : ∀ W, Calls Try.prog 55 #[.int .i64 n, .int .i64 0, .int .i64 20000] W fun e w' => e = .returned (.bool true) ∧ W = w' := fun W => by
    have := l1In_any n 0 20000 W; rw [inB_true h.1 h.2] at this; exact this
  have hin' := Lib.hid hin
  clear hin
  have hok : okB s n = false := by unfold okB; rw [decide_eq_false_iff_not]; intro hh; exact hl hh.2.2.1
  have Hok := Lib.hid hok
  clear hok
  obtain ⟨ha, hb⟩ := h
  have hb1 : ((s.size : Int) == (n + 7) / 8) = false := by simpa using hl
  have hb2 : ((s.size : Int) != (n + 7) / 8) = true := by simpa using hl
  unfold maxLen at hs
  clear hl
  go_enter Try.func54, Try.ntmps54
  go_wp2_with (go_at_call 55; refine (hin'.out _).mono ?_; rintro e w' ⟨rfl, rfl⟩)
  go_ret
  exact ⟨by rw [Hok.out]; rfl, (Below.refl _ _).alloc (Nat.le_refl _) _⟩

set_option maxRecDepth 100000 in
set_option maxHeartbeats 1000000 in
theorem specBitsOk_in (s : ByteArray) (n : Nat) (w : World) (hs : s.size ≤ maxLen) (h : n ≤ 20000) (hl : (s.size : Int) = ((n : Int) + 7) / 8) :
    Calls Try.prog 54 #[.agg #[.string s, .int .i64 n]] w (RetBelow (.bool (okB s n)) w) := by
  have hin : ∀ W, Calls Try.prog 55 #[.int .i64 n, .int .i64 0, .int .i64 20000] W fun e w' => e = .returned (.bool true) ∧ W = w' := fun W => by
    have := l1In_any n 0 20000 W; rw [inB_true (by omega) (by omega)] at this; exact this
  have hin' := Lib.hid hin
  clear hin
  have hb1 : ((s.size : Int) == ((n : Int) + 7) / 8) = true := by simpa using hl
  have hb2 : ((s.size : Int) != ((n : Int) + 7) / 8) = false := by simpa using hl
  have hlist := fun W => l1List_any s n W (by omega) (by omega) hs
  have Hlist := Lib.hid hlist
  clear hlist
  unfold maxLen at hs
  have heq : ∀ W, (binOp .eql 26 (.agg #[.string ⟨(BM.pack (BM.listOf s.data.toList n)).toArray⟩, .int .i64 ((BM.listOf s.data.toList n).length : Int)]) (.agg #[.string s, .int .i64 n])).run Try.prog W = .ok (.bool (okB s n)) W := fun W => by
    rw [bits_eql, toList_data, toList_data, BM.listOf_length]
    congr 2
    unfold okB
    rw [Bool.eq_iff_iff]
    simp only [Bool.and_eq_true, beq_iff_eq, decide_eq_true_eq, Int.toNat_natCast, and_true]
    constructor
    · intro hh; exact ⟨by omega, by omega, hl, hh⟩
    · intro hh; exact hh.2.2.2
  have Hl := Lib.hid hl
  clear hl
  go_enter Try.func54, Try.ntmps54
  go_wp2_with (go_at_call 55; refine (hin'.out _).mono ?_; rintro e w' ⟨rfl, rfl⟩)
  go_region_with (first
    | (go_at_call 84; refine (Hlist.out _).mono ?_; rintro e w1 ⟨v, rfl, hown, hbl, _⟩; obtain ⟨A, c, rfl, hA⟩ := ints_own hown (bitInts_length _).symm; have hx0 : w1.cell? ⟨w.heap.size, 0, none⟩ = some (.string s) := (hbl.cell (by simp)).trans (by go_simp); have hx1 : w1.cell? ⟨w.heap.size, 1, none⟩ = some (.int .i64 n) := (hbl.cell (by simp)).trans (by go_simp); have hsz : w.heap.size < w1.heap.size := by have := hbl.size; simp at this; omega)
    | (go_at_call 58; refine (l1Pack_any A c _ _ (by rw [BM.listOf_length]; omega) hA).mono ?_; rintro e w2 ⟨rfl, hbp⟩; have hy0 : w2.cell? ⟨w.heap.size, 0, none⟩ = some (.string s) := (hbp.cell hsz).trans hx0; have hy1 : w2.cell? ⟨w.heap.size, 1, none⟩ = some (.int .i64 n) := (hbp.cell hsz).trans hx1))
  all_goals
    go_wp2
    go_ret
    refine ⟨rfl, ?_⟩
    first
      | exact (((Below.refl w.heap.size w).alloc (Nat.le_refl _) _).drew.trans (hbl.mono (by simp))).trans (hbp.mono (by omega))
      | exact (((Below.refl w.heap.size w).alloc (Nat.le_refl _) _).trans (hbl.mono (by simp))).trans (hbp.mono (by omega))

theorem specBitsOk_any (s : ByteArray) (n : Int) (w : World) (hs : s.size ≤ maxLen) :
    Calls Try.prog 54 #[.agg #[.string s, .int .i64 n]] w (RetBelow (.bool (okB s n)) w) := by
  by_cases h : 0 ≤ n ∧ n ≤ 20000
  · by_cases hl : (s.size : Int) = (n + 7) / 8
    · obtain ⟨k, rfl⟩ := Int.eq_ofNat_of_zero_le h.1
      exact specBitsOk_in s k w hs (by omega) hl
    · exact specBitsOk_len s n w hs h hl
  · exact specBitsOk_out s n w h
end Go.Proofs.Ytbgogpfhdfgjeaa
