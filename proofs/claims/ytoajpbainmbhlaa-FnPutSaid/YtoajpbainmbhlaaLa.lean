/- The walk of the law FnExactBitsOk. -/
import Derived.Test.YtoajpbainmbhlaaWe
namespace Go.Proofs.Ytoajpbainmbhlaa
open Go.RowKit

theorem kept2 {w w1 w2 : World} (h : Below w1.heap.size w1 w2) {g : Nat} (hg : g < w1.heap.size) {s : ByteArray} {n : Int}
    (h0 : w1.cell? ⟨g, 0, none⟩ = some (.string s)) (h1 : w1.cell? ⟨g, 1, none⟩ = some (.int .i64 n)) :
    w2.cell? ⟨g, 0, none⟩ = some (.string s) ∧ w2.cell? ⟨g, 1, none⟩ = some (.int .i64 n) ∧ g < w2.heap.size :=
  ⟨(h.cell hg).trans h0, (h.cell hg).trans h1, Nat.lt_of_lt_of_le hg h.size⟩

set_option maxRecDepth 100000 in
set_option maxHeartbeats 1000000 in
theorem walkFnExactBitsOk (s : ByteArray) (n : Int) (w : World) (hs : s.size ≤ maxLen) (_wn : (Lit.int .i64 n).wf = true) :
    Calls Try.prog 9 #[.agg #[.string s, .int .i64 n]] w fun e w' => e = .returned (.bool true) ∧ Below w.heap.size w w' := by
  by_cases hbig : (1048576 : Int) < s.size
  · have hsz := fun W => szBits_any s n 1048576 W (by omega) (by omega) hs
    rw [if_pos hbig] at hsz
    have Hsz := Lib.hid hsz
    clear hsz
    go_enter Try.func9, Try.ntmps9
    go_wp2_with fail
    refine (Hsz.out _).mono ?_
    rintro e w1 ⟨rfl, hb1⟩
    go_wp2_with fail
    go_ret
    exact ⟨rfl, ((Below.refl w.heap.size w).alloc (Nat.le_refl _) _).trans (hb1.mono (by simp))⟩
  · have hsz := fun W => szBits_any s n 1048576 W (by omega) (by omega) hs
    rw [if_neg hbig] at hsz
    have Hsz := Lib.hid hsz
    clear hsz
    have hA : (0 : Int) ≤ 1048576 - s.size := by omega
    have hA2 : decide ((1048576 : Int) - s.size < 0) = false := by simp; omega
    go_enter Try.func9, Try.ntmps9
    go_wp2_with fail
    refine (Hsz.out _).mono ?_
    rintro e w1 ⟨rfl, hb1⟩
    obtain ⟨x0, x1, hg⟩ := kept2 (w := w) hb1 (g := w.heap.size) (s := s) (n := n) (by simp) (by go_simp) (by go_simp)
    have hf := ((Below.refl w.heap.size w).alloc (Nat.le_refl _) (.cells #[.string s, .int .i64 n] 50)).trans (hb1.mono (by simp))
    clear hb1
    go_wp2_with fail
    refine (toBits_any s n _).mono ?_
    rintro e w2 ⟨rfl, hb2⟩
    obtain ⟨y0, y1, hg2⟩ := kept2 (w := w) hb2 hg x0 x1
    have hf2 := hf.trans (hb2.mono (by omega))
    clear hb2 hf x0 x1 hg
    go_wp2_with fail
    refine (specBitsOk_any s n _ hs).mono ?_
    rintro e w3 ⟨rfl, hb3⟩
    obtain ⟨x0, x1, hg⟩ := kept2 (w := w) hb3 hg2 y0 y1
    have hf := hf2.trans (hb3.mono (by omega))
    clear hb3 hf2 y0 y1 hg2
    go_wp2_with fail
    refine (toBits_any s n _).mono ?_
    rintro e w2 ⟨rfl, hb2⟩
    obtain ⟨y0, y1, hg2⟩ := kept2 (w := w) hb2 hg x0 x1
    have hf2 := hf.trans (hb2.mono (by omega))
    clear hb2 hf x0 x1 hg
    go_wp2_with fail
    refine (implBitsOk_any s n _ hs).mono ?_
    rintro e w3 ⟨rfl, hb3⟩
    obtain ⟨x0, x1, hg⟩ := kept2 (w := w) hb3 hg2 y0 y1
    have hf := hf2.trans (hb3.mono (by omega))
    clear hb3 hf2 y0 y1 hg2
    go_wp2_with fail
    go_ret
    exact ⟨rfl, hf⟩
end Go.Proofs.Ytoajpbainmbhlaa
