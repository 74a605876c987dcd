/- Walks: the document's ReadCode; the law FnExactReadCode. -/
import Derived.Test.YtbgogpfhdfgjeaaHm
set_option linter.unusedVariables false
set_option linter.unusedSimpArgs false
namespace Go.Proofs.Ytbgogpfhdfgjeaa
open Go.RowKit

set_option maxRecDepth 100000 in
set_option maxHeartbeats 1000000 in
theorem specReadCode_any (s : ByteArray) (N a : Int) (w : World) (hs : s.size ≤ maxLen) :
    Calls Try.prog 14 #[.agg #[.string s, .int .i64 N], .int .i64 a] w (RetBelow (readV s N a) w) := by
  have hok := fun W => specBitsOk_any s N W hs
  cases h : okB s N with
  | false =>
    have hV : readV s N a = readT none := by unfold readV hasB; rw [h]; rfl
    rw [hV]
    rw [h] at hok
    have Hok := Lib.hid hok
    clear hok h hV
    go_enter Try.func14, Try.ntmps14
    go_wp2_with fail
    refine (Hok.out _).mono ?_
    rintro e w1 ⟨rfl, hb1⟩
    have hf := ((Below.refl w.heap.size w).alloc (Nat.le_refl _) (.cells #[.string s, .int .i64 N] 26)).trans (hb1.mono (by simp))
    clear hb1
    go_wp2_with fail
    exact bodyPost_ret (v := .tuple #[.int .i64 0, .int .i64 0, .bool false]) (by simp [results, Try.results14, go_sem]) rfl ⟨rfl, hf⟩
  | true =>
    rw [h] at hok
    have Hok := Lib.hid hok
    clear hok
    by_cases hin : 0 ≤ a ∧ a ≤ N
    · obtain ⟨f0, f1, f2, f3⟩ := okB_facts h
      obtain ⟨n, rfl⟩ : ∃ n : Nat, N = (n : Int) := ⟨N.toNat, by omega⟩
      obtain ⟨p, rfl⟩ : ∃ p : Nat, a = (p : Int) := ⟨a.toNat, by omega⟩
      have hV : readV s (n : Int) (p : Int) = readT (getL (BM.listOf s.data.toList n) p) := by
        unfold readV hasB
        rw [h, if_pos (by rw [Bool.true_and, decide_eq_true_iff]; omega), Int.toNat_natCast, Int.toNat_natCast]
      obtain ⟨d, q, b, hform⟩ := readV_form s (n : Int) (p : Int)
      have H3 := Lib.hid (fun W => l3Read_any s n p W hs (by omega) (by omega) (by omega))
      rw [← hV, hform] at H3
      rw [hform]
      have hI := fun W => l1In_any (p : Int) 0 (n : Int) W
      rw [inB_true (by omega) (by omega)] at hI
      have HI := Lib.hid hI
      clear hI hV hform h f0 f1 f2 f3 hin
      go_enter Try.func14, Try.ntmps14
      go_wp2_with fail
      refine (Hok.out _).mono ?_
      rintro e w1 ⟨rfl, hb1⟩
      obtain ⟨x0, x1, hgg⟩ := kept2' hb1 (g := w.heap.size) (s := s) (n := (n : Int)) (by simp) (by go_simp) (by go_simp)
      have HF := Lib.hid (((Below.refl w.heap.size w).alloc (Nat.le_refl _) (.cells #[.string s, .int .i64 (n : Int)] 26)).trans (hb1.mono (by simp)))
      clear hb1
      go_wp2_with fail
      refine (HI.out _).mono ?_
      rintro e w2 ⟨rfl, rfl⟩
      go_wp2_with fail
      refine (H3.out _).mono ?_
      rintro e w3 ⟨rfl, hb3⟩
      have HF3 := Lib.hid (HF.out.trans (hb3.mono HF.out.size))
      clear hb3 x0 x1
      go_wp2_with fail
      exact bodyPost_ret (v := .tuple #[.int .i64 d, .int .i64 q, .bool b]) (by simp [results, Try.results14, go_sem]) rfl ⟨rfl, HF3.out⟩
    · have hV : readV s N a = readT none := by
        unfold readV hasB
        rw [h, if_neg (by rw [Bool.true_and, decide_eq_true_iff]; omega)]
      rw [hV]
      have hI := fun W => l1In_any a 0 N W
      rw [inB_false (by omega)] at hI
      have HI := Lib.hid hI
      clear hI hV hin h
      go_enter Try.func14, Try.ntmps14
      go_wp2_with fail
      refine (Hok.out _).mono ?_
      rintro e w1 ⟨rfl, hb1⟩
      obtain ⟨x0, x1, hgg⟩ := kept2' hb1 (g := w.heap.size) (s := s) (n := N) (by simp) (by go_simp) (by go_simp)
      have HF := Lib.hid (((Below.refl w.heap.size w).alloc (Nat.le_refl _) (.cells #[.string s, .int .i64 N] 26)).trans (hb1.mono (by simp)))
      clear hb1
      go_wp2_with fail
      refine (HI.out _).mono ?_
      rintro e w2 ⟨rfl, rfl⟩
      go_wp2_with fail
      exact bodyPost_ret (v := .tuple #[.int .i64 0, .int .i64 0, .bool false]) (by simp [results, Try.results14, go_sem]) rfl ⟨rfl, HF.out⟩
end Go.Proofs.Ytbgogpfhdfgjeaa
