/- The walk of the law FnExactTimesBits. -/
import Derived.Test.YtpnfkmhhilnglaaDb
import Derived.Test.YtpnfkmhhilnglaaRe
set_option linter.unusedVariables false
set_option linter.unusedSimpArgs false
namespace Go.Proofs.Ytpnfkmhhilnglaa
open Go.RowKit

set_option maxRecDepth 100000 in
set_option maxHeartbeats 1000000 in
theorem walkFnExactTimesBits (A : Option Addr) (n c : Nat) (w : World) (hx : n ≤ 1048576 → ∃ xs : List Int, xs.length = n ∧ IL w w.heap.size (.slice A n c) xs) :
    Calls Try.prog 11 #[.slice A n c] w fun e w' => e = .returned (.bool true) ∧ Below w.heap.size w w' := by
  by_cases hbig : (1048576 : Int) < n
  · clear hx
    go_enter Try.func11, Try.ntmps11
    go_wp2_with fail
    go_ret
    exact ⟨rfl, Below.refl _ _⟩
  · obtain ⟨xs, rfl, hil⟩ := hx (by omega)
    have Hil := Lib.hid hil
    have Hrng := Lib.hid hil.1
    clear hx hil
    have hsp := Lib.hid (fun v W h => specTimesBits_any v xs W h)
    have him := Lib.hid (fun v W h => implTimesBits_any v xs W h)
    generalize tbS xs = R at *
    generalize ((tbL xs).length : Int) = K at *
    generalize timesOkB xs = T at *
    have hcp := Lib.hid (fun v W h => toInt64S_any v xs W h)
    have heq := Lib.hid (fun v u W h h' => eqInt64S_any v u xs xs W h h')
    rw [decide_eq_true rfl] at heq
    go_enter Try.func11, Try.ntmps11
    go_wp2_with fail
    refine (hcp.out _ _ Hil.out).mono ?_
    rintro e w1 ⟨v1, rfl, hown1, hb1⟩
    have H1 := Lib.hid (IL.of_own hown1 rfl Hrng.out (by omega))
    have Hil1 := Lib.hid ((Hil.out.below hb1).up hb1.size)
    have B1 := Lib.hid hb1
    clear hown1 hb1 Hil
    go_wp2_with fail
    refine (hsp.out _ _ H1.out).mono ?_
    rintro e w2 ⟨rfl, hb2⟩
    have Hil2 := Lib.hid ((Hil1.out.below hb2).up hb2.size)
    have B2 := Lib.hid (B1.out.trans (hb2.mono B1.out.size))
    clear hb2 Hil1 B1 H1
    have ha : Below w2.heap.size w2 (w2.alloc (.cells #[.string R, .int .i64 K] 25)) := below1 w2 _
    have HA := Lib.hid ((Hil2.out.below ha).up ha.size)
    have BA := Lib.hid (B2.out.trans (ha.mono B2.out.size))
    have SA := Lib.hid (SB.new w2 R K)
    clear ha Hil2 B2
    go_wp2_with fail
    refine (hcp.out _ _ HA.out).mono ?_
    rintro e w3 ⟨v3, rfl, hown3, hb3⟩
    have H3 := Lib.hid (IL.of_own hown3 rfl Hrng.out (by omega))
    have Hil3 := Lib.hid ((HA.out.below hb3).up hb3.size)
    have B3 := Lib.hid (BA.out.trans (hb3.mono BA.out.size))
    have S3 := Lib.hid (SA.out.below hb3)
    clear hown3 hb3 HA BA SA
    go_wp2_with fail
    refine (him.out _ _ H3.out).mono ?_
    rintro e w4 ⟨rfl, hb4⟩
    have ha : Below w4.heap.size w4 (w4.alloc (.cells #[.string R, .int .i64 K] 25)) := below1 w4 _
    have Hil4 := Lib.hid ((((Hil3.out.below hb4).up hb4.size).below ha).up ha.size)
    have H4 := Lib.hid ((((H3.out.below hb4).up hb4.size).below ha).up ha.size)
    have B4 := Lib.hid ((B3.out.trans (hb4.mono B3.out.size)).trans (ha.mono (B3.out.trans (hb4.mono B3.out.size)).size))
    have S4 := Lib.hid (S3.out.below hb4)
    have S4b := Lib.hid ((S3.out.below hb4).below ha)
    have T4 := Lib.hid (SB.new w4 R K)
    have c0 := S4.out.c0
    have c1 := S4.out.c1
    have hlt := S4.out.lt
    clear hb4 ha Hil3 B3 H3 S3
    go_wp2_with fail
    refine (eqBits_same _ _ _).mono ?_
    rintro e w5 ⟨rfl, hb5⟩
    have Hil5 := Lib.hid ((Hil4.out.below hb5).up hb5.size)
    have H5 := Lib.hid ((H4.out.below hb5).up hb5.size)
    have B5 := Lib.hid (B4.out.trans (hb5.mono B4.out.size))
    clear hb5 Hil4 H4 B4 c0 c1 hlt
    go_wp2_with fail
    refine (hcp.out _ _ Hil5.out).mono ?_
    rintro e w6 ⟨v6, rfl, hown6, hb6⟩
    have H6 := Lib.hid (IL.of_own hown6 rfl Hrng.out (by omega))
    have H56 := Lib.hid ((H5.out.below hb6).up hb6.size)
    have B6 := Lib.hid (B5.out.trans (hb6.mono B5.out.size))
    clear hown6 hb6 Hil5 B5 H5
    go_wp2_with fail
    refine (heq.out _ _ _ H56.out H6.out).mono ?_
    rintro e w7 ⟨rfl, hb7⟩
    have B7 := Lib.hid (B6.out.trans (hb7.mono B6.out.size))
    clear hb7 B6
    go_wp2_with fail
    go_ret
    exact ⟨rfl, B7.out⟩
end Go.Proofs.Ytpnfkmhhilnglaa
