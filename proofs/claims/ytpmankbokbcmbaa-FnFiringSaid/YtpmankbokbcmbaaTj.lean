/- Walks: the law FnExactFiring. -/
import Derived.Test.YtpmankbokbcmbaaTi
set_option linter.unusedVariables false
set_option linter.unusedSimpArgs false
namespace Go.Proofs.Ytpmankbokbcmbaa
open Go.RowKit

set_option maxRecDepth 100000 in
set_option maxHeartbeats 1000000 in
theorem walkFnExactFiring (A : Option Addr) (n c : Nat) (lim long now : Int) (w : World) (hn : n ≤ maxLen) (hx : n ≤ 1048576 → ∃ xs : List (Int × Int), xs.length = n ∧ PL w w.heap.size (.slice A n c) xs) (r_lim : Rng lim) (r_long : Rng long) (r_now : Rng now) :
    Calls Try.prog 4 #[.slice A n c, .int .i64 lim, .int .i64 long, .int .i64 now] w fun e w' => e = .returned (.bool true) ∧ Below w.heap.size w w' := by
  unfold maxLen at hn
  by_cases hbig : (1048576 : Int) < n
  · clear hx
    have e1 : wrap64 (1048576 - (n : Int)) = 1048576 - (n : Int) := by unfold wrap64; omega
    go_enter Try.func4, Try.ntmps4
    go_wp2
    go_ret
    exact ⟨rfl, Below.refl _ _⟩
  · obtain ⟨xs, rfl, hil⟩ := hx (by omega)
    have Hil := Lib.hid hil
    have Hrng := Lib.hid hil.1
    have hsp := Lib.hid (fun v W h => specFiring_any v xs lim long now W h)
    have him := Lib.hid (fun v W h => implFiring_any v xs lim long now W h)
    generalize firB xs lim long now = S at *
    have hcp := Lib.hid (fun v W h => toPointS_any v xs W h)
    have heq := Lib.hid (fun v u W h h' => eqPointS_any v u xs xs W h h')
    rw [decide_eq_true rfl] at heq
    clear hx hil
    have e1 : wrap64 (1048576 - (xs.length : Int)) = 1048576 - (xs.length : Int) := by unfold wrap64; omega
    cases S
    all_goals
      go_enter Try.func4, Try.ntmps4
      go_wp2_with (first | (go_at_call 10; go_in) | fail)
      refine (hcp.out _ _ Hil.out).mono ?_
      rintro e w1 ⟨v1, rfl, hown1, hb1⟩
      have H1 := Lib.hid (PL.of_own hown1 rfl Hrng.out (by omega))
      have Hil1 := Lib.hid ((Hil.out.below hb1).up hb1.size)
      have B1 := Lib.hid hb1
      clear hown1 hb1 Hil
      go_wp2_with fail
      refine (hsp.out _ _ H1.out).mono ?_
      rintro e w2 ⟨rfl, hb2⟩
      have Hil2 := Lib.hid ((Hil1.out.below hb2).up hb2.size)
      have B2 := Lib.hid (B1.out.trans (hb2.mono B1.out.size))
      clear hb2 Hil1 B1 H1
      go_wp2_with fail
      refine (hcp.out _ _ Hil2.out).mono ?_
      rintro e w3 ⟨v3, rfl, hown3, hb3⟩
      have H3 := Lib.hid (PL.of_own hown3 rfl Hrng.out (by omega))
      have Hil3 := Lib.hid ((Hil2.out.below hb3).up hb3.size)
      have B3 := Lib.hid (B2.out.trans (hb3.mono B2.out.size))
      clear hown3 hb3 Hil2 B2
      go_wp2_with fail
      refine (him.out _ _ H3.out).mono ?_
      rintro e w4 ⟨rfl, hb4⟩
      have Hil4 := Lib.hid ((Hil3.out.below hb4).up hb4.size)
      have H4 := Lib.hid ((H3.out.below hb4).up hb4.size)
      have B4 := Lib.hid (B3.out.trans (hb4.mono B3.out.size))
      clear hb4 Hil3 B3 H3
      go_wp2_with fail
      refine (hcp.out _ _ Hil4.out).mono ?_
      rintro e w5 ⟨v5, rfl, hown5, hb5⟩
      have H5 := Lib.hid (PL.of_own hown5 rfl Hrng.out (by omega))
      have H45 := Lib.hid ((H4.out.below hb5).up hb5.size)
      have B5 := Lib.hid (B4.out.trans (hb5.mono B4.out.size))
      clear hown5 hb5 Hil4 B4 H4
      go_wp2_with fail
      refine (heq.out _ _ _ H45.out H5.out).mono ?_
      rintro e w6 ⟨rfl, hb6⟩
      have B6 := Lib.hid (B5.out.trans (hb6.mono B5.out.size))
      clear hb6 B5
      go_wp2_with fail
      go_ret
      exact ⟨rfl, B6.out⟩
end Go.Proofs.Ytpmankbokbcmbaa
