/- Walks: hasBits and GetBits of the program. -/
import Derived.Test.YtbgogpfhdfgjeaaWl
set_option linter.unusedVariables false
set_option linter.unusedSimpArgs false
namespace Go.Proofs.Ytbgogpfhdfgjeaa
open Go.RowKit

def hasB (s : ByteArray) (N a n : Int) : Bool := okB s N && decide (0 ≤ n ∧ 0 ≤ a ∧ a ≤ N - n)

set_option maxRecDepth 100000 in
set_option maxHeartbeats 1000000 in
theorem hasBits_bad (s : ByteArray) (N a n : Int) (w : World) (hs : s.size ≤ maxLen) (h : okB s N = false) :
    Calls Try.prog 60 #[.agg #[.string s, .int .i64 N], .int .i64 a, .int .i64 n] w (RetBelow (.bool (hasB s N a n)) w) := by
  have hg : hasB s N a n = false := by simp [hasB, h]
  have Hg := Lib.hid hg
  have hok := fun W => implBitsOk_any s N W hs
  rw [h] at hok
  have Hok := Lib.hid hok
  clear hok hg h
  go_enter Try.func60, Try.ntmps60
  go_wp2_with fail
  refine (Hok.out _).mono ?_
  rintro e w1 ⟨rfl, hb1⟩
  have hf := ((Below.refl w.heap.size w).alloc (Nat.le_refl _) (.cells #[.string s, .int .i64 N] 26)).trans (hb1.mono (by simp))
  clear hb1
  go_wp2_with fail
  go_ret
  exact ⟨by rw [Hg.out]; rfl, hf⟩

set_option maxRecDepth 100000 in
set_option maxHeartbeats 1000000 in
theorem hasBits_neg (s : ByteArray) (N a n : Int) (w : World) (hs : s.size ≤ maxLen) (h : okB s N = true) (hn : n < 0 ∨ a < 0) :
    Calls Try.prog 60 #[.agg #[.string s, .int .i64 N], .int .i64 a, .int .i64 n] w (RetBelow (.bool (hasB s N a n)) w) := by
  have hg : hasB s N a n = false := by unfold hasB; rw [h, Bool.true_and, decide_eq_false_iff_not]; omega
  have Hg := Lib.hid hg
  have hok := fun W => implBitsOk_any s N W hs
  rw [h] at hok
  have Hok := Lib.hid hok
  clear hok hg h
  by_cases hn0 : n < 0
  · have h1 : decide (0 ≤ n) = false := by simp; omega
    clear hn
    go_enter Try.func60, Try.ntmps60
    go_wp2_with fail
    refine (Hok.out _).mono ?_
    rintro e w1 ⟨rfl, hb1⟩
    have hf := ((Below.refl w.heap.size w).alloc (Nat.le_refl _) (.cells #[.string s, .int .i64 N] 26)).trans (hb1.mono (by simp))
    clear hb1
    go_wp2_with fail
    go_ret
    exact ⟨by rw [Hg.out]; rfl, hf⟩
  · have ha0 : a < 0 := by omega
    have hn1 : 0 ≤ n := by omega
    have h1 : decide (0 ≤ a) = false := by simp; omega
    clear hn
    go_enter Try.func60, Try.ntmps60
    go_wp2_with fail
    refine (Hok.out _).mono ?_
    rintro e w1 ⟨rfl, hb1⟩
    have hf := ((Below.refl w.heap.size w).alloc (Nat.le_refl _) (.cells #[.string s, .int .i64 N] 26)).trans (hb1.mono (by simp))
    clear hb1
    go_wp2_with fail
    go_ret
    exact ⟨by rw [Hg.out]; rfl, hf⟩

set_option maxRecDepth 100000 in
set_option maxHeartbeats 1000000 in
theorem hasBits_pos (s : ByteArray) (N a n : Int) (w : World) (hs : s.size ≤ maxLen) (h : okB s N = true) (hn : 0 ≤ n) (ha : 0 ≤ a) (hn2 : n ≤ 9223372036854775807) :
    Calls Try.prog 60 #[.agg #[.string s, .int .i64 N], .int .i64 a, .int .i64 n] w (RetBelow (.bool (hasB s N a n)) w) := by
  have hg : hasB s N a n = decide (a ≤ N - n) := by
    unfold hasB; rw [h, Bool.true_and, Bool.eq_iff_iff, decide_eq_true_iff, decide_eq_true_iff]; omega
  have Hg := Lib.hid hg
  have hok := fun W => implBitsOk_any s N W hs
  obtain ⟨hN0, hN1, _, _⟩ := okB_facts h
  rw [h] at hok
  have Hok := Lib.hid hok
  clear hok hg h
  go_enter Try.func60, Try.ntmps60
  go_wp2_with fail
  refine (Hok.out _).mono ?_
  rintro e w1 ⟨rfl, hb1⟩
  obtain ⟨x0, x1, hg⟩ := kept2' hb1 (g := w.heap.size) (s := s) (n := N) (by simp) (by go_simp) (by go_simp)
  have hf := ((Below.refl w.heap.size w).alloc (Nat.le_refl _) (.cells #[.string s, .int .i64 N] 26)).trans (hb1.mono (by simp))
  clear hb1
  go_wp2_with fail
  go_ret
  exact ⟨by rw [Hg.out]; rfl, hf⟩

theorem hasBits_any (s : ByteArray) (N a n : Int) (w : World) (hs : s.size ≤ maxLen) (hn2 : n ≤ 9223372036854775807) :
    Calls Try.prog 60 #[.agg #[.string s, .int .i64 N], .int .i64 a, .int .i64 n] w (RetBelow (.bool (hasB s N a n)) w) := by
  cases h : okB s N with
  | false => exact hasBits_bad s N a n w hs h
  | true =>
    by_cases hn : n < 0 ∨ a < 0
    · exact hasBits_neg s N a n w hs h hn
    · exact hasBits_pos s N a n w hs h (by omega) (by omega) hn2




end Go.Proofs.Ytbgogpfhdfgjeaa
