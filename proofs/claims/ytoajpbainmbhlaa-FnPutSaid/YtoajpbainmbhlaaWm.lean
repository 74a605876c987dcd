/- Walks: hasBits and GetBits of the program. -/
import Derived.Test.YtoajpbainmbhlaaWl
namespace Go.Proofs.Ytoajpbainmbhlaa
open Go.RowKit

def hasB (s : ByteArray) (N a n : Int) : Bool := okB s N && decide (0 ≤ n ∧ 0 ≤ a ∧ a ≤ N - n)

set_option maxRecDepth 100000 in
set_option maxHeartbeats 1000000 in
theorem hasBits_bad (s : ByteArray) (N a n : Int) (w : World) (hs : s.size ≤ maxLen) (h : okB s N = false) :
    Calls Try.prog 69 #[.agg #[.string s, .int .i64 N], .int .i64 a, .int .i64 n] w (RetBelow (.bool (hasB s N a n)) w) := by
  have hg : hasB s N a n = false := by simp [hasB, h]
  have Hg := Lib.hid hg
  have hok := fun W => implBitsOk_any s N W hs
  rw [h] at hok
  have Hok := Lib.hid hok
  clear hok hg h
  go_enter Try.func69, Try.ntmps69
  go_wp2_with fail
  refine (Hok.out _).mono ?_
  rintro e w1 ⟨rfl, hb1⟩
  have hf := ((Below.refl w.heap.size w).alloc (Nat.le_refl _) (.cells #[.string s, .int .i64 N] 25)).trans (hb1.mono (by simp))
  clear hb1
  go_wp2_with fail
  go_ret
  exact ⟨by rw [Hg.out]; rfl, hf⟩

set_option maxRecDepth 100000 in
set_option maxHeartbeats 1000000 in
theorem hasBits_neg (s : ByteArray) (N a n : Int) (w : World) (hs : s.size ≤ maxLen) (h : okB s N = true) (hn : n < 0 ∨ a < 0) :
    Calls Try.prog 69 #[.agg #[.string s, .int .i64 N], .int .i64 a, .int .i64 n] w (RetBelow (.bool (hasB s N a n)) w) := by
  have hg : hasB s N a n = false := by unfold hasB; rw [h, Bool.true_and, decide_eq_false_iff_not]; omega
  have Hg := Lib.hid hg
  have hok := fun W => implBitsOk_any s N W hs
  rw [h] at hok
  have Hok := Lib.hid hok
  clear hok hg h
  by_cases hn0 : n < 0
  · have h1 : decide (0 ≤ n) = false := by simp; omega
    clear hn
    go_enter Try.func69, Try.ntmps69
    go_wp2_with fail
    refine (Hok.out _).mono ?_
    rintro e w1 ⟨rfl, hb1⟩
    have hf := ((Below.refl w.heap.size w).alloc (Nat.le_refl _) (.cells #[.string s, .int .i64 N] 25)).trans (hb1.mono (by simp))
    clear hb1
    go_wp2_with fail
    go_ret
    exact ⟨by rw [Hg.out]; rfl, hf⟩
  · have ha0 : a < 0 := by omega
    have hn1 : 0 ≤ n := by omega
    have h1 : decide (0 ≤ a) = false := by simp; omega
    clear hn
    go_enter Try.func69, Try.ntmps69
    go_wp2_with fail
    refine (Hok.out _).mono ?_
    rintro e w1 ⟨rfl, hb1⟩
    have hf := ((Below.refl w.heap.size w).alloc (Nat.le_refl _) (.cells #[.string s, .int .i64 N] 25)).trans (hb1.mono (by simp))
    clear hb1
    go_wp2_with fail
    go_ret
    exact ⟨by rw [Hg.out]; rfl, hf⟩

set_option maxRecDepth 100000 in
set_option maxHeartbeats 1000000 in
theorem hasBits_pos (s : ByteArray) (N a n : Int) (w : World) (hs : s.size ≤ maxLen) (h : okB s N = true) (hn : 0 ≤ n) (ha : 0 ≤ a) (hn2 : n ≤ 9223372036854775807) :
    Calls Try.prog 69 #[.agg #[.string s, .int .i64 N], .int .i64 a, .int .i64 n] w (RetBelow (.bool (hasB s N a n)) w) := by
  have hg : hasB s N a n = decide (a ≤ N - n) := by
    unfold hasB; rw [h, Bool.true_and, Bool.eq_iff_iff, decide_eq_true_iff, decide_eq_true_iff]; omega
  have Hg := Lib.hid hg
  have hok := fun W => implBitsOk_any s N W hs
  obtain ⟨hN0, hN1, _, _⟩ := okB_facts h
  rw [h] at hok
  have Hok := Lib.hid hok
  clear hok hg h
  go_enter Try.func69, Try.ntmps69
  go_wp2_with fail
  refine (Hok.out _).mono ?_
  rintro e w1 ⟨rfl, hb1⟩
  obtain ⟨x0, x1, hg⟩ := kept2' hb1 (g := w.heap.size) (s := s) (n := N) (by simp) (by go_simp) (by go_simp)
  have hf := ((Below.refl w.heap.size w).alloc (Nat.le_refl _) (.cells #[.string s, .int .i64 N] 25)).trans (hb1.mono (by simp))
  clear hb1
  go_wp2_with fail
  go_ret
  exact ⟨by rw [Hg.out]; rfl, hf⟩

theorem hasBits_any (s : ByteArray) (N a n : Int) (w : World) (hs : s.size ≤ maxLen) (hn2 : n ≤ 9223372036854775807) :
    Calls Try.prog 69 #[.agg #[.string s, .int .i64 N], .int .i64 a, .int .i64 n] w (RetBelow (.bool (hasB s N a n)) w) := by
  cases h : okB s N with
  | false => exact hasBits_bad s N a n w hs h
  | true =>
    by_cases hn : n < 0 ∨ a < 0
    · exact hasBits_neg s N a n w hs h hn
    · exact hasBits_pos s N a n w hs h (by omega) (by omega) hn2

set_option maxRecDepth 100000 in
set_option maxHeartbeats 1000000 in
theorem implGetBits_big (s : ByteArray) (N a n : Int) (w : World) (hn : 64 < n) :
    Calls Try.prog 22 #[.agg #[.string s, .int .i64 N], .int .i64 a, .int .i64 n] w (GetPost s N a n w) := by
  have hg : getB s N a n = false := by unfold getB; rw [Bool.and_eq_false_iff]; right; rw [decide_eq_false_iff_not]; omega
  have Hg := Lib.hid hg
  have hn1 : decide (64 < n) = true := by simp; omega
  clear hg
  go_enter Try.func22, Try.ntmps22
  go_wp2_with fail
  go_ret2
  exact ⟨by rw [Hg.out]; rfl, (Below.refl _ _).alloc (Nat.le_refl _) _⟩

set_option maxRecDepth 100000 in
set_option maxHeartbeats 1000000 in
theorem implGetBits_bad (s : ByteArray) (N a n : Int) (w : World) (hs : s.size ≤ maxLen) (hn : n ≤ 64) (h : hasB s N a n = false) :
    Calls Try.prog 22 #[.agg #[.string s, .int .i64 N], .int .i64 a, .int .i64 n] w (GetPost s N a n w) := by
  have hg : getB s N a n = false := by
    unfold hasB at h; unfold getB; rw [Bool.and_eq_false_iff] at h ⊢
    rcases h with h | h
    · exact .inl h
    · right; rw [decide_eq_false_iff_not] at h ⊢; omega
  have Hg := Lib.hid hg
  have hn1 : decide (64 < n) = false := by simp; omega
  have hhb := fun W => hasBits_any s N a n W hs (by omega)
  rw [h] at hhb
  have Hhb := Lib.hid hhb
  clear hg hhb h
  go_enter Try.func22, Try.ntmps22
  go_wp2_with fail
  refine (Hhb.out _).mono ?_
  rintro e w1 ⟨rfl, hb1⟩
  have hf := ((Below.refl w.heap.size w).alloc (Nat.le_refl _) (.cells #[.string s, .int .i64 N] 25)).trans (hb1.mono (by simp))
  clear hb1
  go_wp2_with fail
  go_ret2
  exact ⟨by rw [Hg.out]; rfl, hf⟩

set_option maxRecDepth 100000 in
set_option maxHeartbeats 1000000 in
theorem implGetBits_good (s : ByteArray) (N a n : Nat) (w : World) (hs : s.size ≤ maxLen) (h : okB s N = true) (hn : n ≤ 64) (ha : a + n ≤ N) :
    Calls Try.prog 22 #[.agg #[.string s, .int .i64 N], .int .i64 a, .int .i64 n] w (GetPost s N a n w) := by
  have hg : getB s N a n = true := by unfold getB; rw [h, Bool.true_and, decide_eq_true_iff]; omega
  have Hg := Lib.hid hg
  obtain ⟨hN0, hN1, hN2, _⟩ := okB_facts h
  have hh : hasB s N a n = true := by unfold hasB; rw [h, Bool.true_and, decide_eq_true_iff]; omega
  have hn1 : decide ((64 : Int) < (n : Int)) = false := by simp; omega
  have hhb := fun W => hasBits_any s N a n W hs (by omega)
  rw [hh] at hhb
  have Hhb := Lib.hid hhb
  have hup := fun W => unpacked_any s N W (by omega)
  have Hup := Lib.hid hup
  have H := Lib.hid h
  have HN2 := Lib.hid hN2
  clear hg hhb h hh hup hN2
  go_enter Try.func22, Try.ntmps22
  go_wp2_with fail
  refine (Hhb.out _).mono ?_
  rintro e w1 ⟨rfl, hb1⟩
  obtain ⟨x0, x1, hgg⟩ := kept2' hb1 (g := w.heap.size) (s := s) (n := (N : Int)) (by simp) (by go_simp) (by go_simp)
  have hf := ((Below.refl w.heap.size w).alloc (Nat.le_refl _) (.cells #[.string s, .int .i64 N] 25)).trans (hb1.mono (by simp))
  clear hb1
  go_wp2_with fail
  refine (Hup.out _).mono ?_
  rintro e w2 ⟨ws, rfl, hws, hb2⟩
  have hf2 := hf.trans (hb2.mono (by omega))
  clear hb2 hf x0 x1
  have hW := ok_words H.out hws
  have hB : BaBlk (w2.alloc (.cells (baCells zeroWs 0) 69)) w2.heap.size zeroWs 0 := BaBlk.new _ _ _
  have HB := Lib.hid hB
  clear hB
  go_wp2_with (first
    | (with_reducible refine wl_alloc_ba ?_)
    | (with_reducible refine wl_store_ba _ _ ?gg w2.heap.size zeroWs ws 0 N ?hb zeroWs_len ?hl ?hx ?hg ?hy ?_))
  case hb => exact HB.out
  case hl => exact hws.1
  case hx => rfl
  case hg => rfl
  case hy => rfl
  have hget := get_any w2.heap.size ws N a n ((w2.alloc (.cells (baCells zeroWs 0) 69)).setRow w2.heap.size (baCells ws N)) HB.out.setRow hws.1 hws.2.1 (by omega) hn
  rw [getW_take H.out hW a n hn ha] at hget
  refine hget.mono ?_
  rintro e w' ⟨rfl, rfl⟩
  obtain ⟨T, hT⟩ : ∃ T, T = takeN s a n := ⟨_, rfl⟩
  have hpost : (if getB s N a n then wrap64 (takeN s (a : Int).toNat (n : Int).toNat : Int) else 0) = wrap64 (T : Int) := by
    rw [Hg.out, if_pos rfl, Int.toNat_natCast, Int.toNat_natCast, hT]
  have Hpost := Lib.hid hpost
  rw [← hT]
  clear hpost hT hget
  go_wp2_with fail
  go_ret2
  refine ⟨?_, (hf2.alloc (by have := hf2.size; omega) _).trans ⟨rfl, rfl, rfl, by simp, fun k hk => setRow_other _ _ _ _ (by have := hf2.size; omega)⟩⟩
  rw [Hpost.out, Hg.out]
  rfl

theorem implGetBits_any (s : ByteArray) (N a n : Int) (w : World) (hs : s.size ≤ maxLen) :
    Calls Try.prog 22 #[.agg #[.string s, .int .i64 N], .int .i64 a, .int .i64 n] w (GetPost s N a n w) := by
  by_cases hn : 64 < n
  · exact implGetBits_big s N a n w hn
  · cases h : hasB s N a n with
    | false => exact implGetBits_bad s N a n w hs (by omega) h
    | true =>
      unfold hasB at h
      rw [Bool.and_eq_true, decide_eq_true_iff] at h
      obtain ⟨hN0, _⟩ := okB_facts h.1
      obtain ⟨K, rfl⟩ := Int.eq_ofNat_of_zero_le h.2.1
      obtain ⟨A, rfl⟩ := Int.eq_ofNat_of_zero_le h.2.2.1
      obtain ⟨M, rfl⟩ := Int.eq_ofNat_of_zero_le hN0
      exact implGetBits_good s M A K w hs h.1 (by omega) (by omega)
end Go.Proofs.Ytoajpbainmbhlaa
