/- The walk of the law FnExactVarsOf. -/
import Derived.Test.YtpnfkmhhilnglabVh
namespace Go.Proofs.Ytpnfkmhhilnglab
open Go.RowKit

set_option maxRecDepth 100000 in
set_option maxHeartbeats 1000000 in
theorem walkFnExactVarsOf (A : Option Addr) (n c : Nat) (w : World) (hx : n ≤ 1048576 → ∃ xs : List Int, xs.length = n ∧ IL w w.heap.size (.slice A n c) xs) :
    Calls Try.prog 6 #[.slice A n c] w fun e w' => e = .returned (.bool true) ∧ Below w.heap.size w w' := by
  by_cases hbig : (1048576 : Int) < n
  · clear hx
    go_enter Try.func6, Try.ntmps6
    go_wp2_with fail
    go_ret
    exact ⟨rfl, Below.refl _ _⟩
  · obtain ⟨xs, rfl, hil⟩ := hx (by omega)
    have Hil := Lib.hid hil
    have Hrng := Lib.hid hil.1
    clear hx hil
    obtain ⟨S, hS⟩ : ∃ S, S = strN (varsB xs) := ⟨_, rfl⟩
    have hsp := Lib.hid (fun v W h => specVarsOf_any v xs W h)
    have him := Lib.hid (fun v W h => implVarsOf_any v xs W h)
    rw [← hS] at hsp him
    clear hS
    have hcp := Lib.hid (fun v W h => toInt64S_any v xs W h)
    have heq := Lib.hid (fun v u W h h' => eqInt64S_any v u xs xs W h h')
    rw [decide_eq_true rfl] at heq
    go_enter Try.func6, Try.ntmps6
    go_wp2_with fail
    refine (hcp.out _ _ Hil.out).mono ?_
    rintro e w1 ⟨v1, rfl, hown1, hb1⟩
    have H1 := Lib.hid (IL.of_own hown1 rfl Hrng.out (by omega))
    have Hil1 := Lib.hid ((Hil.out.below hb1).up hb1.size)
    have B1 := Lib.hid hb1
    clear hown1 hb1 Hil
    go_wp2_with fail
    refine (hsp.out _ _ H1.out).mono ?_
    rintro e w2 ⟨rfl, hb2⟩
    have Hil2 := Lib.hid ((Hil1.out.below hb2).up hb2.size)
    have B2 := Lib.hid (B1.out.trans (hb2.mono B1.out.size))
    clear hb2 Hil1 B1 H1
    go_wp2_with fail
    refine (hcp.out _ _ Hil2.out).mono ?_
    rintro e w3 ⟨v3, rfl, hown3, hb3⟩
    have H3 := Lib.hid (IL.of_own hown3 rfl Hrng.out (by omega))
    have Hil3 := Lib.hid ((Hil2.out.below hb3).up hb3.size)
    have B3 := Lib.hid (B2.out.trans (hb3.mono B2.out.size))
    clear hown3 hb3 Hil2 B2
    go_wp2_with fail
    refine (him.out _ _ H3.out).mono ?_
    rintro e w4 ⟨rfl, hb4⟩
    have Hil4 := Lib.hid ((Hil3.out.below hb4).up hb4.size)
    have H4 := Lib.hid ((H3.out.below hb4).up hb4.size)
    have B4 := Lib.hid (B3.out.trans (hb4.mono B3.out.size))
    clear hb4 Hil3 B3 H3
    go_wp2_with fail
    refine (hcp.out _ _ Hil4.out).mono ?_
    rintro e w5 ⟨v5, rfl, hown5, hb5⟩
    have H5 := Lib.hid (IL.of_own hown5 rfl Hrng.out (by omega))
    have H45 := Lib.hid ((H4.out.below hb5).up hb5.size)
    have B5 := Lib.hid (B4.out.trans (hb5.mono B4.out.size))
    clear hown5 hb5 Hil4 B4 H4
    go_wp2_with fail
    refine (heq.out _ _ _ H45.out H5.out).mono ?_
    rintro e w6 ⟨rfl, hb6⟩
    have B6 := Lib.hid (B5.out.trans (hb6.mono B5.out.size))
    clear hb6 B5
    go_wp2_with fail
    go_ret
    exact ⟨rfl, B6.out⟩
end Go.Proofs.Ytpnfkmhhilnglab
