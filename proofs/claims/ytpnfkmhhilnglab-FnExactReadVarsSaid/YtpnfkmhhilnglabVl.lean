/- The walk of the law FnExactReadVars. -/
import Derived.Test.YtpnfkmhhilnglabVk
namespace Go.Proofs.Ytpnfkmhhilnglab
open Go.RowKit

theorem marks_rng (n : Nat) (h : n ≤ 1048576) (j : Nat) : Rng ((marks 1 n).getD j 0) := by
  by_cases hj : j < n
  · rw [marks_getD _ _ _ hj]; exact ⟨by omega, by omega⟩
  · rw [List.getD_eq_getElem?_getD, List.getElem?_eq_none (by rw [marks_length]; omega)]; exact rng_zero

set_option maxRecDepth 100000 in
set_option maxHeartbeats 1000000 in
theorem walkFnExactReadVars (s : ByteArray) (w : World) (hs : s.size ≤ maxLen) :
    Calls Try.prog 7 #[.string s] w fun e w' => e = .returned (.bool true) ∧ Below w.heap.size w w' := by
  have h1 := Lib.hid (fun W => specReadVars_any s W hs)
  have h2 := Lib.hid (fun W => implReadVars_any s W hs)
  unfold RVPost at h1 h2
  have hlen := rvOut_len s
  have hrng := Lib.hid (rng_of (rvOut_rng s))
  generalize (rvOut s).2 = xs at *
  generalize hb : (rvOut s).1 = b at *
  clear hb
  have heq := Lib.hid (fun v u W h h' => eqInt64S_any v u xs xs W h h')
  rw [decide_eq_true rfl] at heq
  have hmk := Lib.hid (fun base v W h => markInt64S_any base v xs W (by omega) h)
  have hhd := Lib.hid (fun v W h => heldInt64S_any v xs.length W h)
  have hmr := Lib.hid (marks_rng xs.length (by omega))
  by_cases hbig : (1048576 : Int) < s.size
  · go_enter Try.func7, Try.ntmps7
    go_wp2_with fail
    go_ret
    exact ⟨rfl, Below.refl _ _⟩
  · cases b
    all_goals
      go_enter Try.func7, Try.ntmps7
      go_wp2_with fail
      refine (h1.out _).mono ?_
      rintro e w1 ⟨v1, rfl, hown1, hb1⟩
      have I1 := Lib.hid (IL.of_own hown1 rfl hrng.out (by omega))
      have B1 := Lib.hid hb1
      clear hown1 hb1
      go_wp2_with fail
      refine (h2.out _).mono ?_
      rintro e w2 ⟨v2, rfl, hown2, hb2⟩
      have O2 := Lib.hid hown2
      have I2 := Lib.hid (IL.of_own hown2 rfl hrng.out (by omega))
      have I12 := Lib.hid (I1.out.below hb2)
      have S2 := hb2.size
      have B2 := Lib.hid (B1.out.trans (hb2.mono B1.out.size))
      clear hown2 hb2 I1
      go_wp2_with fail
      refine (heq.out _ _ _ I2.out (I12.out.up S2)).mono ?_
      rintro e w3 ⟨rfl, hb3⟩
      have O3 := Lib.hid (u_own_below O2.out hb3)
      have I13 := Lib.hid (I12.out.below (hb3.mono S2))
      have S3 := hb3.size
      have B3 := Lib.hid (B2.out.trans (hb3.mono B2.out.size))
      have B1s := B1.out.size
      clear hb3 I2 I12 O2 B2
      go_wp2_with fail
      refine (hmk.out _ _ _ O3.out).mono ?_
      rintro e w4 ⟨rfl, hown4, hb4, hg4⟩
      have I4 := Lib.hid (IL.of_own hown4 (marks_length _ _).symm hmr.out (by rw [marks_length]; omega))
      have I14 := Lib.hid (I13.out.below hb4)
      have S4 := hg4.size
      have B4 := Lib.hid (B3.out.trans (hb4.mono B1s))
      clear hown4 hb4 hg4 O3 I13 B3
      go_wp2_with fail
      refine (hhd.out _ _ I4.out).mono ?_
      rintro e w5 ⟨rfl, rfl⟩
      go_wp2_with fail
      refine (h2.out _).mono ?_
      rintro e w6 ⟨v6, rfl, hown6, hb6⟩
      have I6 := Lib.hid (IL.of_own hown6 rfl hrng.out (by omega))
      have I16 := Lib.hid (I14.out.below (hb6.mono (by omega)))
      have I46 := Lib.hid ((I4.out.below hb6).up hb6.size)
      have S6 := hb6.size
      have B6 := Lib.hid (B4.out.trans (hb6.mono B4.out.size))
      clear hown6 hb6 I14 I4 B4
      go_wp2_with fail
      refine (heq.out _ _ _ I6.out (I16.out.up (by omega))).mono ?_
      rintro e w7 ⟨rfl, hb7⟩
      have I47 := Lib.hid ((I46.out.below hb7).up hb7.size)
      have B7 := Lib.hid (B6.out.trans (hb7.mono B6.out.size))
      clear hb7 I46 I16 I6 B6
      go_wp2_with fail
      refine (hhd.out _ _ I47.out).mono ?_
      rintro e w8 ⟨rfl, rfl⟩
      go_wp2_with fail
      go_ret
      exact ⟨rfl, B7.out⟩
end Go.Proofs.Ytpnfkmhhilnglab
