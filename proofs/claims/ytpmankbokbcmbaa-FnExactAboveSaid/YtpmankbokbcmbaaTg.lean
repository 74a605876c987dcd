/- Walks: the law FnExactAbove. -/
import Derived.Test.YtpmankbokbcmbaaTf
set_option linter.unusedVariables false
set_option linter.unusedSimpArgs false
namespace Go.Proofs.Ytpmankbokbcmbaa
open Go.RowKit

set_option maxRecDepth 100000 in
set_option maxHeartbeats 4000000 in
theorem walkFnExactAbove (A : Option Addr) (n c : Nat) (lim long : Int) (w : World) (hn : n ≤ maxLen) (hx : n ≤ 1048576 → ∃ xs : List (Int × Int), xs.length = n ∧ PL w w.heap.size (.slice A n c) xs) (r_lim : Rng lim) (r_long : Rng long) :
    Calls Try.prog 3 #[.slice A n c, .int .i64 lim, .int .i64 long] w fun e w' => e = .returned (.bool true) ∧ Below w.heap.size w w' := by
  unfold maxLen at hn
  by_cases hbig : (1048576 : Int) < n
  · clear hx
    have e1 : wrap64 (1048576 - (n : Int)) = 1048576 - (n : Int) := by unfold wrap64; omega
    go_enter Try.func3, Try.ntmps3
    go_wp2
    go_ret
    exact ⟨rfl, Below.refl _ _⟩
  · obtain ⟨xs, rfl, hil⟩ := hx (by omega)
    have Hil := Lib.hid hil
    have Hrng := Lib.hid hil.1
    have hsp := Lib.hid (fun v W h => specAbove_any v xs lim long W h)
    have him := Lib.hid (fun v W h => implAbove_any v xs lim long W h)
    obtain ⟨yr, hyl⟩ := abvM_ok xs lim long hil.1 hil.2.1
    have YR := Lib.hid yr
    have hcp := Lib.hid (fun v W h => toPointS_any v xs W h)
    have heqA := Lib.hid (fun v u W h h' => eqPointS_any v u xs xs W h h')
    rw [decide_eq_true rfl] at heqA
    have hmkA := Lib.hid (fun base v W h => markPointS_any base v 1 xs W (by omega) (by omega) (by omega) h)
    clear hx hil yr
    generalize (abvM xs lim long) = ys at *
    have heqR := Lib.hid (fun v u W h h' => eqSpanS_any v u ys ys W h h')
    rw [decide_eq_true rfl] at heqR
    have hmkR := Lib.hid (fun base v W h => markSpanS_any base v 1 ys W (by omega) (by omega) hyl h)
    have hhdR := Lib.hid (fun v W h => heldSpanS_any v ys.length 1 W (by omega) (by omega) h)
    have hmr := Lib.hid (marks2_rng 1 ys.length (by omega) (by omega) hyl)
    have e1 : wrap64 (1048576 - (xs.length : Int)) = 1048576 - (xs.length : Int) := by unfold wrap64; omega
    go_enter Try.func3, Try.ntmps3
    go_wp2_with (first | (go_at_call 10; go_in) | fail)
    refine (hcp.out _ _ Hil.out).mono ?_
    rintro e w1 ⟨v1, rfl, hown1, hb1⟩
    have H1 := Lib.hid (PL.of_own hown1 rfl Hrng.out (by omega))
    have Hil1 := Lib.hid ((Hil.out.below hb1).up hb1.size)
    have B1 := Lib.hid hb1
    clear hown1 hb1 Hil e1
    go_wp2_with fail
    refine (hsp.out _ _ H1.out).mono ?_
    rintro e w2 ⟨v2, rfl, hown2, hb2⟩
    have R2 := Lib.hid (PL.of_ownS hown2 rfl YR.out hyl)
    have Hil2 := Lib.hid ((Hil1.out.below hb2).up hb2.size)
    have B2 := Lib.hid (B1.out.trans (hb2.mono B1.out.size))
    clear hown2 hb2 Hil1 B1 H1
    go_wp2_with fail
    refine (hcp.out _ _ Hil2.out).mono ?_
    rintro e w3 ⟨v3, rfl, hown3, hb3⟩
    have S0 := B2.out.size
    have S3 := hb3.size
    have O3 := Lib.hid hown3
    have Q3 := Lib.hid hown3.lt
    have R3 := Lib.hid (R2.out.below hb3)
    have Hil3 := Lib.hid (Hil2.out.below hb3)
    have B3 := Lib.hid (B2.out.trans (hb3.mono S0))
    clear hown3 hb3 Hil2 B2 R2
    go_wp2_with fail
    refine (him.out _ _ (PL.of_own O3.out rfl Hrng.out (by omega))).mono ?_
    rintro e w4 ⟨v4, rfl, hown4, hb4⟩
    have S4 := hb4.size
    have O4 := Lib.hid hown4
    have P4 := Lib.hid (u_own_below O3.out hb4)
    have R4 := Lib.hid (R3.out.below (hb4.mono S3))
    have Hil4 := Lib.hid (Hil3.out.below (hb4.mono S3))
    have B4 := Lib.hid (B3.out.trans (hb4.mono (by omega)))
    clear hown4 hb4 Hil3 B3 R3 O3
    go_wp2_with fail
    refine (heqR.out _ _ _ (PL.of_ownS O4.out rfl YR.out hyl) (R4.out.up (by omega))).mono ?_
    rintro e w5 ⟨rfl, hb5⟩
    have S5 := hb5.size
    have O5 := Lib.hid (u_own_below O4.out hb5)
    have P5 := Lib.hid (u_own_below P4.out hb5)
    have R5 := Lib.hid (R4.out.below (hb5.mono (by omega)))
    have Hil5 := Lib.hid (Hil4.out.below (hb5.mono (by omega)))
    have B5 := Lib.hid (B4.out.trans (hb5.mono (by omega)))
    clear hb5 Hil4 B4 R4 O4 P4
    go_wp2_with fail
    refine (hcp.out _ _ (Hil5.out.up (by omega))).mono ?_
    rintro e w6 ⟨v6, rfl, hown6, hb6⟩
    have S6 := hb6.size
    have H6 := Lib.hid (PL.of_own hown6 rfl Hrng.out (by omega))
    have O6 := Lib.hid (u_own_below O5.out hb6)
    have P6 := Lib.hid (u_own_below P5.out hb6)
    have R6' := Lib.hid (R5.out.below (hb6.mono (by omega)))
    have Hil6 := Lib.hid (Hil5.out.below (hb6.mono (by omega)))
    have B6 := Lib.hid (B5.out.trans (hb6.mono (by omega)))
    clear hb6 hown6 Hil5 B5 R5 O5 P5
    go_wp2_with fail
    refine (heqA.out _ _ _ (PL.of_own P6.out rfl Hrng.out (by omega)) H6.out).mono ?_
    rintro e w7 ⟨rfl, hb7⟩
    have S7 := hb7.size
    have O7 := Lib.hid (u_own_below O6.out hb7)
    have P7 := Lib.hid (u_own_below P6.out hb7)
    have R7 := Lib.hid (R6'.out.below (hb7.mono (by omega)))
    have Hil7 := Lib.hid (Hil6.out.below (hb7.mono (by omega)))
    have B7 := Lib.hid (B6.out.trans (hb7.mono (by omega)))
    clear hb7 Hil6 B6 R6' O6 P6 H6
    go_wp2_with fail
    refine (hmkA.out _ _ _ P7.out).mono ?_
    rintro e w8 ⟨rfl, hown8, hb8, hg8⟩
    have S8 := hg8.size
    have hne : v4.ownBlock = none ∨ v4.ownBlock ≠ v3.ownBlock := by
      cases h4 : v4.ownBlock with
      | none => exact .inl rfl
      | some k4 =>
        right
        intro h3
        have q4 := (O7.out.lt k4 h4).1
        have q3 := (Q3.out k4 h3.symm).2
        omega
    have O8 := Lib.hid (O7.out.kept hg8 hne)
    have R8 := Lib.hid (R7.out.below hb8)
    have Hil8 := Lib.hid (Hil7.out.below hb8)
    have B8 := Lib.hid (B7.out.trans (hb8.mono (by omega)))
    clear hown8 hb8 hg8 hne Hil7 B7 R7 O7 P7 Q3
    go_wp2_with fail
    refine (heqR.out _ _ _ (PL.of_ownS O8.out rfl YR.out hyl) (R8.out.up (by omega))).mono ?_
    rintro e w9 ⟨rfl, hb9⟩
    have S9 := hb9.size
    have O9 := Lib.hid (u_own_below O8.out hb9)
    have R9 := Lib.hid (R8.out.below (hb9.mono (by omega)))
    have Hil9 := Lib.hid (Hil8.out.below (hb9.mono (by omega)))
    have B9 := Lib.hid (B8.out.trans (hb9.mono (by omega)))
    clear hb9 Hil8 B8 R8 O8
    go_wp2_with fail
    refine (hmkR.out _ _ _ O9.out).mono ?_
    rintro e w10 ⟨rfl, hown10, hb10, hg10⟩
    have S10 := hg10.size
    have G10 := Lib.hid (PL.of_ownS hown10 (marks2_length _ _).symm hmr.out (by rw [marks2_length]; exact hyl))
    have R10 := Lib.hid (R9.out.below (hb10.mono (by omega)))
    have Hil10 := Lib.hid (Hil9.out.below (hb10.mono (by omega)))
    have B10 := Lib.hid (B9.out.trans (hb10.mono (by omega)))
    clear hown10 hb10 hg10 Hil9 B9 R9 O9
    go_wp2_with fail
    refine (hhdR.out _ _ G10.out).mono ?_
    rintro e w11 ⟨rfl, rfl⟩
    go_wp2_with fail
    refine (hcp.out _ _ (Hil10.out.up (by omega))).mono ?_
    rintro e w11 ⟨v11, rfl, hown11, hb11⟩
    have S11 := hb11.size
    have H11 := Lib.hid (PL.of_own hown11 rfl Hrng.out (by omega))
    have G11 := Lib.hid ((G10.out.below hb11).up hb11.size)
    have R11 := Lib.hid (R10.out.below (hb11.mono (by omega)))
    have B11 := Lib.hid (B10.out.trans (hb11.mono (by omega)))
    clear hown11 hb11 Hil10 B10 R10 G10
    go_wp2_with fail
    refine (him.out _ _ H11.out).mono ?_
    rintro e w12 ⟨v12, rfl, hown12, hb12⟩
    have S12 := hb12.size
    have J12 := Lib.hid (PL.of_ownS hown12 rfl YR.out hyl)
    have G12 := Lib.hid ((G11.out.below hb12).up hb12.size)
    have R12 := Lib.hid (R11.out.below (hb12.mono (by omega)))
    have B12 := Lib.hid (B11.out.trans (hb12.mono (by omega)))
    clear hown12 hb12 B11 R11 G11 H11
    go_wp2_with fail
    refine (heqR.out _ _ _ J12.out (R12.out.up (by omega))).mono ?_
    rintro e w13 ⟨rfl, hb13⟩
    have G13 := Lib.hid ((G12.out.below hb13).up hb13.size)
    have B13 := Lib.hid (B12.out.trans (hb13.mono (by omega)))
    clear hb13 B12 R12 G12 J12
    go_wp2_with fail
    refine (hhdR.out _ _ G13.out).mono ?_
    rintro e w14 ⟨rfl, rfl⟩
    go_wp2_with fail
    go_ret
    exact ⟨rfl, B13.out⟩
end Go.Proofs.Ytpmankbokbcmbaa
