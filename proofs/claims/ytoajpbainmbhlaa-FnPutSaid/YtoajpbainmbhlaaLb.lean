/- The walk of the law FnExactGetBits. -/
import Derived.Test.YtoajpbainmbhlaaWm
namespace Go.Proofs.Ytoajpbainmbhlaa
open Go.RowKit

def PairPost (X : Int) (B : Bool) (w : World) (e : Ending) (w' : World) : Prop := e = .returned (.tuple #[.int .i64 X, .bool B]) ∧ Below w.heap.size w w'

set_option maxRecDepth 100000 in
set_option maxHeartbeats 1000000 in
theorem walkFnExactGetBits (s : ByteArray) (N a n : Int) (w : World) (hs : s.size ≤ maxLen) (_wn : (Lit.int .i64 N).wf = true) (_wa : (Lit.int .i64 a).wf = true) (_wk : (Lit.int .i64 n).wf = true) :
    Calls Try.prog 11 #[.agg #[.string s, .int .i64 N], .int .i64 a, .int .i64 n] w fun e w' => e = .returned (.bool true) ∧ Below w.heap.size w w' := by
  by_cases hbig : (1048576 : Int) < s.size
  · have hsz := fun W => szBits_any s N 1048576 W (by omega) (by omega) hs
    rw [if_pos hbig] at hsz
    have Hsz := Lib.hid hsz
    clear hsz
    go_enter Try.func11, Try.ntmps11
    go_wp2_with fail
    refine (Hsz.out _).mono ?_
    rintro e w1 ⟨rfl, hb1⟩
    go_wp2_with fail
    go_ret
    exact ⟨rfl, ((Below.refl w.heap.size w).alloc (Nat.le_refl _) _).trans (hb1.mono (by simp))⟩
  · have hsz := fun W => szBits_any s N 1048576 W (by omega) (by omega) hs
    rw [if_neg hbig] at hsz
    have Hsz := Lib.hid hsz
    clear hsz
    have hA : (0 : Int) ≤ 1048576 - s.size := by omega
    have hA2 : decide ((1048576 : Int) - s.size < 0) = false := by simp; omega
    obtain ⟨X, hX⟩ : ∃ X : Int, X = (if getB s N a n then wrap64 (takeN s a.toNat n.toNat : Int) else 0) := ⟨_, rfl⟩
    obtain ⟨B, hB⟩ : ∃ B : Bool, B = getB s N a n := ⟨_, rfl⟩
    have hsp : ∀ W, Calls Try.prog 25 #[.agg #[.string s, .int .i64 N], .int .i64 a, .int .i64 n] W (PairPost X B W) := fun W => by
      subst hX hB; exact specGetBits_any s N a n W hs
    have him : ∀ W, Calls Try.prog 22 #[.agg #[.string s, .int .i64 N], .int .i64 a, .int .i64 n] W (PairPost X B W) := fun W => by
      subst hX hB; exact implGetBits_any s N a n W hs
    have Hsp := Lib.hid hsp
    have Him := Lib.hid him
    clear hsp him hX hB
    go_enter Try.func11, Try.ntmps11
    go_wp2_with fail
    refine (Hsz.out _).mono ?_
    rintro e w1 ⟨rfl, hb1⟩
    obtain ⟨x0, x1, hg⟩ := kept2' hb1 (g := w.heap.size) (s := s) (n := N) (by simp) (by go_simp) (by go_simp)
    have hf := ((Below.refl w.heap.size w).alloc (Nat.le_refl _) (.cells #[.string s, .int .i64 N] 50)).trans (hb1.mono (by simp))
    clear hb1
    go_wp2_with fail
    refine (toBits_any s N _).mono ?_
    rintro e w2 ⟨rfl, hb2⟩
    obtain ⟨y0, y1, hg2⟩ := kept2' hb2 hg x0 x1
    have hf2 := hf.trans (hb2.mono (by omega))
    clear hb2 hf x0 x1 hg
    go_wp2_with fail
    refine (Hsp.out _).mono ?_
    rintro e w3 ⟨rfl, hb3⟩
    obtain ⟨x0, x1, hg⟩ := kept2' hb3 hg2 y0 y1
    have hf := hf2.trans (hb3.mono (by omega))
    clear hb3 hf2 y0 y1 hg2
    go_wp2_with fail
    refine (toBits_any s N _).mono ?_
    rintro e w2 ⟨rfl, hb2⟩
    obtain ⟨y0, y1, hg2⟩ := kept2' hb2 hg x0 x1
    have hf2 := hf.trans (hb2.mono (by omega))
    clear hb2 hf x0 x1 hg
    go_wp2_with fail
    refine (Him.out _).mono ?_
    rintro e w3 ⟨rfl, hb3⟩
    have hf := hf2.trans (hb3.mono (by omega))
    clear hb3 hf2 y0 y1 hg2
    go_wp2_with fail
    go_ret
    exact ⟨rfl, hf⟩
end Go.Proofs.Ytoajpbainmbhlaa
