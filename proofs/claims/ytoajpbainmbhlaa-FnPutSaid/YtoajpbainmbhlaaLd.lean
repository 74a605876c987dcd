/- The walk of the law FnExactPart. -/
import Derived.Test.YtoajpbainmbhlaaWq
import Derived.Test.YtoajpbainmbhlaaLc
import Derived.OpenShut
namespace Go.Proofs.Ytoajpbainmbhlaa
open Go.RowKit

set_option maxRecDepth 100000 in
set_option maxHeartbeats 1000000 in
theorem walkFnExactPart (s : ByteArray) (N a n : Int) (w : World) (hs : s.size ≤ maxLen) (_wn : (Lit.int .i64 N).wf = true) (_wa : (Lit.int .i64 a).wf = true) (_wk : (Lit.int .i64 n).wf = true) :
    Calls Try.prog 13 #[.agg #[.string s, .int .i64 N], .int .i64 a, .int .i64 n] w fun e w' => e = .returned (.bool true) ∧ Below w.heap.size w w' := by
  by_cases hbig : (1048576 : Int) < s.size
  · have hsz := fun W => szBits_any s N 1048576 W (by omega) (by omega) hs
    rw [if_pos hbig] at hsz
    have Hsz := Lib.hid hsz
    clear hsz
    go_enter Try.func13, Try.ntmps13
    go_wp2_with fail
    refine (Hsz.out _).mono ?_
    rintro e w1 ⟨rfl, hb1⟩
    go_wp2_with fail
    go_ret
    exact ⟨rfl, ((Below.refl w.heap.size w).alloc (Nat.le_refl _) _).trans (hb1.mono (by simp))⟩
  · have hsz := fun W => szBits_any s N 1048576 W (by omega) (by omega) hs
    rw [if_neg hbig] at hsz
    have Hsz := Lib.hid hsz
    clear hsz
    have hA : (0 : Int) ≤ 1048576 - s.size := by omega
    have hA2 : decide ((1048576 : Int) - s.size < 0) = false := by simp; omega
    obtain ⟨R, hR⟩ : ∃ R : ByteArray, R = partS s N a n := ⟨_, rfl⟩
    obtain ⟨M, hM⟩ : ∃ M : Int, M = partN s N a n := ⟨_, rfl⟩
    obtain ⟨B, hB⟩ : ∃ B : Bool, B = hasB s N a n := ⟨_, rfl⟩
    have ha : n ≤ 9223372036854775807 := by have := bounds_i64 _wk; omega
    have hsp : ∀ W, Calls Try.prog 30 #[.agg #[.string s, .int .i64 N], .int .i64 a, .int .i64 n] W (BPost R M B W) := fun W => by
      subst hR hM hB; exact specPart_any s N a n W hs
    have him : ∀ W, Calls Try.prog 23 #[.agg #[.string s, .int .i64 N], .int .i64 a, .int .i64 n] W (BPost R M B W) := fun W => by
      subst hR hM hB; exact implPart_any s N a n W hs ha
    clear hR hM hB ha
    have Hsp := Lib.hid hsp
    have Him := Lib.hid him
    clear hsp him
    go_enter Try.func13, Try.ntmps13
    go_wp2_with fail
    refine (Hsz.out _).mono ?_
    rintro e w1 ⟨rfl, hb1⟩
    obtain ⟨x0, x1, hg⟩ := kept2' hb1 (g := w.heap.size) (s := s) (n := N) (by simp) (by go_simp) (by go_simp)
    have hf := ((Below.refl w.heap.size w).alloc (Nat.le_refl _) (.cells #[.string s, .int .i64 N] 50)).trans (hb1.mono (by simp))
    clear hb1
    go_wp2_with fail
    refine (toBits_any s N _).mono ?_
    rintro e w2 ⟨rfl, hb2⟩
    obtain ⟨y0, y1, hg2⟩ := kept2' hb2 hg x0 x1
    have hf2 := hf.trans (hb2.mono (by omega))
    clear hb2 hf x0 x1 hg
    go_wp2_with fail
    refine (Hsp.out _).mono ?_
    rintro e w3 ⟨rfl, hb3⟩
    obtain ⟨x0, x1, hg⟩ := kept2' hb3 hg2 y0 y1
    have hf := hf2.trans (hb3.mono (by omega))
    clear hb3 hf2 y0 y1 hg2
    go_wp2_with fail
    refine (toBits_any s N _).mono ?_
    rintro e w2 ⟨rfl, hb2⟩
    obtain ⟨y0, y1, hg2⟩ := kept2' hb2 (g := w.heap.size) (by simp; omega) ((World.cell?_alloc_lt _ _ _ hg).trans x0) ((World.cell?_alloc_lt _ _ _ hg).trans x1)
    obtain ⟨u0, u1, hu⟩ := kept2' hb2 (g := w3.heap.size) (s := R) (n := M) (by simp) (by go_simp) (by go_simp)
    have hf2 := (hf.alloc (by omega) (.cells #[.string R, .int .i64 M] 25)).trans (hb2.mono (by simp; omega))
    clear hb2 hf x0 x1 hg
    go_wp2_with fail
    refine (Him.out _).mono ?_
    rintro e w5 ⟨rfl, hb5⟩
    obtain ⟨v0, v1, hv⟩ := kept2' hb5 hu u0 u1
    have hf := hf2.trans (hb5.mono (by omega))
    clear hb5 hf2 y0 y1 hg2 u0 u1 hu
    go_wp2_with fail
    refine (eqBits_same _ _ _).mono ?_
    rintro e w4 ⟨rfl, hb4⟩
    have hf4 := (hf.alloc (by have := hf.size; omega) (.cells #[.string R, .int .i64 M] 25)).trans (hb4.mono (by have := hf.size; simp; omega))
    clear hb4 hf
    go_wp2_with fail
    go_ret
    exact ⟨rfl, hf4⟩
end Go.Proofs.Ytoajpbainmbhlaa
