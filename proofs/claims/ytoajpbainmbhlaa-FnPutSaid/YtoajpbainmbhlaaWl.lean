/- Walks: GetBits of the model and of the program. -/
import Derived.Test.YtoajpbainmbhlaaWi
import Derived.Test.YtoajpbainmbhlaaWj
import Derived.Test.YtoajpbainmbhlaaWk
namespace Go.Proofs.Ytoajpbainmbhlaa
open Go.RowKit

theorem kept2' {w1 w2 : World} (h : Below w1.heap.size w1 w2) {g : Nat} (hg : g < w1.heap.size) {s : ByteArray} {n : Int}
    (h0 : w1.cell? ⟨g, 0, none⟩ = some (.string s)) (h1 : w1.cell? ⟨g, 1, none⟩ = some (.int .i64 n)) :
    w2.cell? ⟨g, 0, none⟩ = some (.string s) ∧ w2.cell? ⟨g, 1, none⟩ = some (.int .i64 n) ∧ g < w2.heap.size :=
  ⟨(h.cell hg).trans h0, (h.cell hg).trans h1, Nat.lt_of_lt_of_le hg h.size⟩

theorem okB_facts {s : ByteArray} {n : Int} (h : okB s n = true) : 0 ≤ n ∧ n ≤ 20000 ∧ (s.size : Int) = (n + 7) / 8 ∧ BM.pack (BM.listOf s.data.toList n.toNat) = s.data.toList := by
  unfold okB at h; exact of_decide_eq_true h
theorem ok_words {s : ByteArray} {N : Nat} (h : okB s N = true) {ws : List Nat} (hw : BM.WordsF ws (fun j => decide (j < 8 * s.size) && BM.bitAt s.data.toList j)) :
    BM.Words ws (BM.listOf s.data.toList N) := by
  obtain ⟨h0, h1, h2, h3⟩ := okB_facts h
  rw [Int.toNat_natCast] at h3
  refine BM.wordsF_words (BM.wordsF_congr hw fun j => ?_) (by rw [BM.listOf_length]; omega)
  rw [BM.listOf_getD]
  by_cases hj : j < N
  · rw [if_pos hj, decide_eq_true (by omega)]; simp
  · rw [if_neg hj, BM.tail_of_pack h3 j (by omega)]; simp
theorem getW_take {s : ByteArray} {N : Nat} (h : okB s N = true) {ws : List Nat} (hw : BM.Words ws (BM.listOf s.data.toList N)) (a n : Nat) (hn : n ≤ 64) (ha : a + n ≤ N) :
    BM.getW ws a n = takeN s a n := by
  rw [BM.words_get hw a n hn]
  unfold takeN
  apply BM.ofBits_congr
  intro i hi
  rw [BM.listOf_getD, if_pos (by omega)]

def getB (s : ByteArray) (N a n : Int) : Bool := okB s N && decide (0 ≤ n ∧ n ≤ 64 ∧ 0 ≤ a ∧ a ≤ N - n)
def GetPost (s : ByteArray) (N a n : Int) (w : World) (e : Ending) (w' : World) : Prop :=
  e = .returned (.tuple #[.int .i64 (if getB s N a n then wrap64 (takeN s a.toNat n.toNat : Int) else 0), .bool (getB s N a n)]) ∧ Below w.heap.size w w'

set_option maxRecDepth 100000 in
set_option maxHeartbeats 1000000 in
theorem specGetBits_bad0 (s : ByteArray) (N a n : Int) (w : World) (hs : s.size ≤ maxLen) (h : okB s N = false) :
    Calls Try.prog 25 #[.agg #[.string s, .int .i64 N], .int .i64 a, .int .i64 n] w (GetPost s N a n w) := by
  have hg : getB s N a n = false := by simp [getB, h]
  have Hg := Lib.hid hg
  have hok := fun W => specBitsOk_any s N W hs
  rw [h] at hok
  have Hok := Lib.hid hok
  clear hok hg h
  go_enter Try.func25, Try.ntmps25
  go_wp2_with fail
  refine (Hok.out _).mono ?_
  rintro e w1 ⟨rfl, hb1⟩
  have hf := ((Below.refl w.heap.size w).alloc (Nat.le_refl _) (.cells #[.string s, .int .i64 N] 25)).trans (hb1.mono (by simp))
  clear hb1
  go_wp2_with fail
  go_ret2
  exact ⟨by rw [Hg.out]; rfl, hf⟩

set_option maxRecDepth 100000 in
set_option maxHeartbeats 1000000 in
theorem specGetBits_bad1 (s : ByteArray) (N a n : Int) (w : World) (hs : s.size ≤ maxLen) (h : okB s N = true) (hn : ¬ (0 ≤ n ∧ n ≤ 64)) :
    Calls Try.prog 25 #[.agg #[.string s, .int .i64 N], .int .i64 a, .int .i64 n] w (GetPost s N a n w) := by
  have hg : getB s N a n = false := by unfold getB; rw [h, Bool.true_and, decide_eq_false_iff_not]; omega
  have Hg := Lib.hid hg
  have hok := fun W => specBitsOk_any s N W hs
  rw [h] at hok
  have Hok := Lib.hid hok
  have hin := fun W => l1In_any n 0 64 W
  rw [inB_false hn] at hin
  have Hin := Lib.hid hin
  clear hok hg h hn hin
  go_enter Try.func25, Try.ntmps25
  go_wp2_with fail
  refine (Hok.out _).mono ?_
  rintro e w1 ⟨rfl, hb1⟩
  have hf := ((Below.refl w.heap.size w).alloc (Nat.le_refl _) (.cells #[.string s, .int .i64 N] 25)).trans (hb1.mono (by simp))
  clear hb1
  go_wp2_with fail
  refine (Hin.out _).mono ?_
  rintro e w' ⟨rfl, rfl⟩
  go_wp2_with fail
  go_ret2
  exact ⟨by rw [Hg.out]; rfl, hf⟩

set_option maxRecDepth 100000 in
set_option maxHeartbeats 1000000 in
theorem specGetBits_bad2 (s : ByteArray) (N a n : Int) (w : World) (hs : s.size ≤ maxLen) (h : okB s N = true) (hn : 0 ≤ n ∧ n ≤ 64) (ha : ¬ (0 ≤ a ∧ a ≤ N - n)) :
    Calls Try.prog 25 #[.agg #[.string s, .int .i64 N], .int .i64 a, .int .i64 n] w (GetPost s N a n w) := by
  have hg : getB s N a n = false := by unfold getB; rw [h, Bool.true_and, decide_eq_false_iff_not]; omega
  have Hg := Lib.hid hg
  have hok := fun W => specBitsOk_any s N W hs
  obtain ⟨hN0, hN1, _, _⟩ := okB_facts h
  rw [h] at hok
  have Hok := Lib.hid hok
  have hin := fun W => l1In_any n 0 64 W
  rw [inB_true hn.1 hn.2] at hin
  have Hin := Lib.hid hin
  have hin2 := fun W => l1In_any a 0 (N - n) W
  rw [inB_false ha] at hin2
  have Hin2 := Lib.hid hin2
  obtain ⟨hn0, hn1⟩ := hn
  clear hok hg h hin ha hin2
  go_enter Try.func25, Try.ntmps25
  go_wp2_with fail
  refine (Hok.out _).mono ?_
  rintro e w1 ⟨rfl, hb1⟩
  obtain ⟨x0, x1, hg⟩ := kept2' hb1 (g := w.heap.size) (s := s) (n := N) (by simp) (by go_simp) (by go_simp)
  have hf := ((Below.refl w.heap.size w).alloc (Nat.le_refl _) (.cells #[.string s, .int .i64 N] 25)).trans (hb1.mono (by simp))
  clear hb1
  go_wp2_with fail
  refine (Hin.out _).mono ?_
  rintro e w' ⟨rfl, rfl⟩
  go_wp2_with fail
  refine (Hin2.out _).mono ?_
  rintro e w' ⟨rfl, rfl⟩
  go_wp2_with fail
  go_ret2
  exact ⟨by rw [Hg.out]; rfl, hf⟩

set_option maxRecDepth 100000 in
set_option maxHeartbeats 1000000 in
theorem specGetBits_good (s : ByteArray) (N a n : Nat) (w : World) (hs : s.size ≤ maxLen) (h : okB s N = true) (hn : n ≤ 64) (ha : a + n ≤ N) :
    Calls Try.prog 25 #[.agg #[.string s, .int .i64 N], .int .i64 a, .int .i64 n] w (GetPost s N a n w) := by
  have hg : getB s N a n = true := by unfold getB; rw [h, Bool.true_and, decide_eq_true_iff]; omega
  have Hg := Lib.hid hg
  have hok := fun W => specBitsOk_any s N W hs
  obtain ⟨hN0, hN1, hN2, _⟩ := okB_facts h
  rw [h] at hok
  have Hok := Lib.hid hok
  have hin := fun W => l1In_any n 0 64 W
  rw [inB_true (by omega) (by omega)] at hin
  have Hin := Lib.hid hin
  have hin2 := fun W => l1In_any a 0 ((N : Int) - (n : Int)) W
  rw [inB_true (by omega) (by omega)] at hin2
  have Hin2 := Lib.hid hin2
  have htk := fun W => l1Take_any s N a n W (by omega) (by omega) hs
  obtain ⟨T, hT⟩ : ∃ T, T = wrap64 (takeN s a n : Int) := ⟨_, rfl⟩
  rw [← hT] at htk
  have hpost : (if getB s N a n then wrap64 (takeN s (a : Int).toNat (n : Int).toNat : Int) else 0) = T := by
    rw [Hg.out, if_pos rfl, Int.toNat_natCast, Int.toNat_natCast, hT]
  have Hpost := Lib.hid hpost
  have Htk := Lib.hid htk
  have HN2 := Lib.hid hN2
  clear hok hg h hin hin2 htk hN2 hpost hT
  go_enter Try.func25, Try.ntmps25
  go_wp2_with fail
  refine (Hok.out _).mono ?_
  rintro e w1 ⟨rfl, hb1⟩
  obtain ⟨x0, x1, hg⟩ := kept2' hb1 (g := w.heap.size) (s := s) (n := (N : Int)) (by simp) (by go_simp) (by go_simp)
  have hf := ((Below.refl w.heap.size w).alloc (Nat.le_refl _) (.cells #[.string s, .int .i64 N] 25)).trans (hb1.mono (by simp))
  clear hb1
  go_wp2_with fail
  refine (Hin.out _).mono ?_
  rintro e w' ⟨rfl, rfl⟩
  go_wp2_with fail
  refine (Hin2.out _).mono ?_
  rintro e w' ⟨rfl, rfl⟩
  go_wp2_with fail
  refine (Htk.out _).mono ?_
  rintro e w2 ⟨rfl, hb2⟩
  have hf2 := hf.trans (hb2.mono (by omega))
  clear hb2 hf x0 x1 hg
  go_wp2_with fail
  go_ret2
  refine ⟨?_, hf2⟩
  rw [Hpost.out, Hg.out]
  rfl

theorem specGetBits_any (s : ByteArray) (N a n : Int) (w : World) (hs : s.size ≤ maxLen) :
    Calls Try.prog 25 #[.agg #[.string s, .int .i64 N], .int .i64 a, .int .i64 n] w (GetPost s N a n w) := by
  cases h : okB s N with
  | false => exact specGetBits_bad0 s N a n w hs h
  | true =>
    by_cases hn : 0 ≤ n ∧ n ≤ 64
    · by_cases ha : 0 ≤ a ∧ a ≤ N - n
      · obtain ⟨hN0, _⟩ := okB_facts h
        obtain ⟨K, rfl⟩ := Int.eq_ofNat_of_zero_le hn.1
        obtain ⟨A, rfl⟩ := Int.eq_ofNat_of_zero_le ha.1
        obtain ⟨M, rfl⟩ := Int.eq_ofNat_of_zero_le hN0
        exact specGetBits_good s M A K w hs h (by omega) (by omega)
      · exact specGetBits_bad2 s N a n w hs h hn ha
    · exact specGetBits_bad1 s N a n w hs h hn
end Go.Proofs.Ytoajpbainmbhlaa
