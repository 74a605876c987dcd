/- Walks: the law FnExactHistOf. -/
import Derived.Test.YtljmiodkmddllaaBp
import Derived.Test.YtljmiodkmddllaaAf
import Derived.Test.YtljmiodkmddllaaYm
set_option linter.unusedVariables false
set_option linter.unusedSimpArgs false
namespace Go.Proofs.Ytljmiodkmddllaa
open Go.RowKit

set_option maxRecDepth 100000 in
set_option maxHeartbeats 8000000 in
theorem walkFnExactHistOf (A : Option Addr) (n c : Nat) (A' : Option Addr) (n' c' : Nat) (w : World) (hn : n ≤ maxLen) (hx : n ≤ 1048576 → ∃ xs : List (Int × Int), xs.length = n ∧ PL w w.heap.size (.slice A n c) xs) (hn' : n' ≤ maxLen) (hx' : n' ≤ 1048576 → ∃ xs : List Int, xs.length = n' ∧ IL w w.heap.size (.slice A' n' c') xs) :
    Calls Try.prog 7 #[.slice A n c, .slice A' n' c'] w fun e w' => e = .returned (.bool true) ∧ Below w.heap.size w w' := by
  unfold maxLen at hn hn'
  by_cases hbig' : (1048576 : Int) < n'
  · clear hx hx'
    go_enter Try.func7, Try.ntmps7
    go_wp2
    go_ret
    exact ⟨rfl, Below.refl _ _⟩
  by_cases hbig : (1048576 : Int) < n
  · clear hx hx'
    have e1 : wrap64 (1048576 - (n : Int)) = 1048576 - (n : Int) := by unfold wrap64; omega
    go_enter Try.func7, Try.ntmps7
    go_wp2
    go_ret
    exact ⟨rfl, Below.refl _ _⟩
  · obtain ⟨a, rfl, hil⟩ := hx (by omega)
    obtain ⟨b, rfl, hil'⟩ := hx' (by omega)
    have I_a := Lib.hid hil
    have I_b := Lib.hid hil'
    have Ra := Lib.hid hil.1
    have Rb := Lib.hid hil'.1
    have hsp := Lib.hid (fun v u W h h' => specHistOf_any v u a b W h h')
    have him := Lib.hid (fun v u W h h' => implHistOf_any v u a b W h h')
    obtain ⟨yr, hyl⟩ := hoM_ok a b
    have RY := Lib.hid yr
    have hcpa := Lib.hid (fun v W h => toPointS_any v a W h)
    have hcpb := Lib.hid (fun v W h => toInt64S_any v b W h)
    have heqa := Lib.hid (fun v u W h h' => eqPointS_any v u a a W h h')
    rw [decide_eq_true rfl] at heqa
    have heqb := Lib.hid (fun v u W h h' => eqInt64S_any v u b b W h h')
    rw [decide_eq_true rfl] at heqb
    have hmka := Lib.hid (fun base v W h => markPointS_any base v 1 a W (by omega) (by omega) (by omega) h)
    have hmkb := Lib.hid (fun base v W h => markIntK_any base v (1 + 2 * (a.length : Int)) b W (by omega) (by omega) (by omega) h)
    clear hx hx' hil hil' yr
    generalize hoM a b = ys at *
    have heqy := Lib.hid (fun v u W h h' => eqInt64S_any v u ys ys W h h')
    rw [decide_eq_true rfl] at heqy
    have hmky := Lib.hid (fun base v W h => markIntK_any base v 1 ys W (by omega) (by omega) hyl h)
    have hhdy := Lib.hid (fun v W h => heldIntK_any v ys.length 1 W (by omega) (by omega) h)
    have hmr := Lib.hid (marksK_rng 1 ys.length (by omega) (by omega) hyl)
    have e1 : wrap64 (1048576 - (a.length : Int)) = 1048576 - (a.length : Int) := by unfold wrap64; omega
    have HLEN := Lib.hid (show a.length ≤ 1048576 ∧ b.length ≤ 1048576 ∧ ys.length ≤ 1048576 from ⟨by omega, by omega, hyl⟩)
    have BB := Lib.hid (Below.refl w.heap.size w)
    go_enter Try.func7, Try.ntmps7
    go_wp2_with (first | (go_at_call 23; go_in) | fail)
    refine (hcpa.out _ _ (I_a.out.up (by omega))).mono ?_
    rintro e w1 ⟨v_a1, rfl, hown, hb⟩
    have S_1 := hb.size
    have T_a := Lib.hid (I_a.out.below (hb.mono (by omega))); clear I_a; have I_a := T_a; clear T_a
    have T_b := Lib.hid (I_b.out.below (hb.mono (by omega))); clear I_b; have I_b := T_b; clear T_b
    have BX := Lib.hid (BB.out.trans (hb.mono (by omega))); clear BB; have BB := BX; clear BX
    have O_a1 := Lib.hid hown
    have LT_a1 := Lib.hid hown.lt
    have TOP_a1 : w.heap.size ≤ w1.heap.size := hb.size
    clear hown hb
    clear e1
    go_wp2_with fail
    refine (hcpb.out _ _ (I_b.out.up (by omega))).mono ?_
    rintro e w2 ⟨v_b1, rfl, hown, hb⟩
    have S_2 := hb.size
    have T_a1 := Lib.hid (u_own_below O_a1.out hb); clear O_a1; have O_a1 := T_a1; clear T_a1
    have T_a := Lib.hid (I_a.out.below (hb.mono (by omega))); clear I_a; have I_a := T_a; clear T_a
    have T_b := Lib.hid (I_b.out.below (hb.mono (by omega))); clear I_b; have I_b := T_b; clear T_b
    have BX := Lib.hid (BB.out.trans (hb.mono (by omega))); clear BB; have BB := BX; clear BX
    have O_b1 := Lib.hid hown
    have LT_b1 := Lib.hid hown.lt
    have TOP_b1 : w1.heap.size ≤ w2.heap.size := hb.size
    clear hown hb
    go_wp2_with fail
    refine (hsp.out _ _ _ (PL.of_own O_a1.out rfl Ra.out (by first | omega | (have := HLEN.out; omega))) (IL.of_own O_b1.out rfl Rb.out (by first | omega | (have := HLEN.out; omega)))).mono ?_
    rintro e w3 ⟨v_y0, rfl, hown, hb⟩
    have S_3 := hb.size
    have T_a1 := Lib.hid (u_own_below O_a1.out hb); clear O_a1; have O_a1 := T_a1; clear T_a1
    have T_b1 := Lib.hid (u_own_below O_b1.out hb); clear O_b1; have O_b1 := T_b1; clear T_b1
    have T_a := Lib.hid (I_a.out.below (hb.mono (by omega))); clear I_a; have I_a := T_a; clear T_a
    have T_b := Lib.hid (I_b.out.below (hb.mono (by omega))); clear I_b; have I_b := T_b; clear T_b
    have BX := Lib.hid (BB.out.trans (hb.mono (by omega))); clear BB; have BB := BX; clear BX
    have O_y0 := Lib.hid hown
    have LT_y0 := Lib.hid hown.lt
    have TOP_y0 : w2.heap.size ≤ w3.heap.size := hb.size
    clear hown hb
    clear O_a1 LT_a1 TOP_a1
    clear O_b1 LT_b1 TOP_b1
    go_wp2_with fail
    refine (hcpa.out _ _ (I_a.out.up (by omega))).mono ?_
    rintro e w4 ⟨v_xa, rfl, hown, hb⟩
    have S_4 := hb.size
    have T_y0 := Lib.hid (u_own_below O_y0.out hb); clear O_y0; have O_y0 := T_y0; clear T_y0
    have T_a := Lib.hid (I_a.out.below (hb.mono (by omega))); clear I_a; have I_a := T_a; clear T_a
    have T_b := Lib.hid (I_b.out.below (hb.mono (by omega))); clear I_b; have I_b := T_b; clear T_b
    have BX := Lib.hid (BB.out.trans (hb.mono (by omega))); clear BB; have BB := BX; clear BX
    have O_xa := Lib.hid hown
    have LT_xa := Lib.hid hown.lt
    have TOP_xa : w3.heap.size ≤ w4.heap.size := hb.size
    clear hown hb
    go_wp2_with fail
    refine (hcpb.out _ _ (I_b.out.up (by omega))).mono ?_
    rintro e w5 ⟨v_xb, rfl, hown, hb⟩
    have S_5 := hb.size
    have T_y0 := Lib.hid (u_own_below O_y0.out hb); clear O_y0; have O_y0 := T_y0; clear T_y0
    have T_xa := Lib.hid (u_own_below O_xa.out hb); clear O_xa; have O_xa := T_xa; clear T_xa
    have T_a := Lib.hid (I_a.out.below (hb.mono (by omega))); clear I_a; have I_a := T_a; clear T_a
    have T_b := Lib.hid (I_b.out.below (hb.mono (by omega))); clear I_b; have I_b := T_b; clear T_b
    have BX := Lib.hid (BB.out.trans (hb.mono (by omega))); clear BB; have BB := BX; clear BX
    have O_xb := Lib.hid hown
    have LT_xb := Lib.hid hown.lt
    have TOP_xb : w4.heap.size ≤ w5.heap.size := hb.size
    clear hown hb
    go_wp2_with fail
    refine (him.out _ _ _ (PL.of_own O_xa.out rfl Ra.out (by first | omega | (have := HLEN.out; omega))) (IL.of_own O_xb.out rfl Rb.out (by first | omega | (have := HLEN.out; omega)))).mono ?_
    rintro e w6 ⟨v_g0, rfl, hown, hb⟩
    have S_6 := hb.size
    have T_y0 := Lib.hid (u_own_below O_y0.out hb); clear O_y0; have O_y0 := T_y0; clear T_y0
    have T_xa := Lib.hid (u_own_below O_xa.out hb); clear O_xa; have O_xa := T_xa; clear T_xa
    have T_xb := Lib.hid (u_own_below O_xb.out hb); clear O_xb; have O_xb := T_xb; clear T_xb
    have T_a := Lib.hid (I_a.out.below (hb.mono (by omega))); clear I_a; have I_a := T_a; clear T_a
    have T_b := Lib.hid (I_b.out.below (hb.mono (by omega))); clear I_b; have I_b := T_b; clear T_b
    have BX := Lib.hid (BB.out.trans (hb.mono (by omega))); clear BB; have BB := BX; clear BX
    have O_g0 := Lib.hid hown
    have LT_g0 := Lib.hid hown.lt
    have TOP_g0 : w5.heap.size ≤ w6.heap.size := hb.size
    clear hown hb
    go_wp2_with fail
    refine (heqy.out _ _ _ (IL.of_own O_g0.out rfl RY.out (by first | omega | (have := HLEN.out; omega))) (IL.of_own O_y0.out rfl RY.out (by first | omega | (have := HLEN.out; omega)))).mono ?_
    rintro e w7 ⟨rfl, hb⟩
    have S_7 := hb.size
    have T_y0 := Lib.hid (u_own_below O_y0.out hb); clear O_y0; have O_y0 := T_y0; clear T_y0
    have T_xa := Lib.hid (u_own_below O_xa.out hb); clear O_xa; have O_xa := T_xa; clear T_xa
    have T_xb := Lib.hid (u_own_below O_xb.out hb); clear O_xb; have O_xb := T_xb; clear T_xb
    have T_g0 := Lib.hid (u_own_below O_g0.out hb); clear O_g0; have O_g0 := T_g0; clear T_g0
    have T_a := Lib.hid (I_a.out.below (hb.mono (by omega))); clear I_a; have I_a := T_a; clear T_a
    have T_b := Lib.hid (I_b.out.below (hb.mono (by omega))); clear I_b; have I_b := T_b; clear T_b
    have BX := Lib.hid (BB.out.trans (hb.mono (by omega))); clear BB; have BB := BX; clear BX
    clear hb
    go_wp2_with fail
    refine (hcpa.out _ _ (I_a.out.up (by omega))).mono ?_
    rintro e w8 ⟨v_a2, rfl, hown, hb⟩
    have S_8 := hb.size
    have T_y0 := Lib.hid (u_own_below O_y0.out hb); clear O_y0; have O_y0 := T_y0; clear T_y0
    have T_xa := Lib.hid (u_own_below O_xa.out hb); clear O_xa; have O_xa := T_xa; clear T_xa
    have T_xb := Lib.hid (u_own_below O_xb.out hb); clear O_xb; have O_xb := T_xb; clear T_xb
    have T_g0 := Lib.hid (u_own_below O_g0.out hb); clear O_g0; have O_g0 := T_g0; clear T_g0
    have T_a := Lib.hid (I_a.out.below (hb.mono (by omega))); clear I_a; have I_a := T_a; clear T_a
    have T_b := Lib.hid (I_b.out.below (hb.mono (by omega))); clear I_b; have I_b := T_b; clear T_b
    have BX := Lib.hid (BB.out.trans (hb.mono (by omega))); clear BB; have BB := BX; clear BX
    have O_a2 := Lib.hid hown
    have LT_a2 := Lib.hid hown.lt
    have TOP_a2 : w7.heap.size ≤ w8.heap.size := hb.size
    clear hown hb
    go_wp2_with fail
    refine (heqa.out _ _ _ (PL.of_own O_xa.out rfl Ra.out (by first | omega | (have := HLEN.out; omega))) (PL.of_own O_a2.out rfl Ra.out (by first | omega | (have := HLEN.out; omega)))).mono ?_
    rintro e w9 ⟨rfl, hb⟩
    have S_9 := hb.size
    have T_y0 := Lib.hid (u_own_below O_y0.out hb); clear O_y0; have O_y0 := T_y0; clear T_y0
    have T_xa := Lib.hid (u_own_below O_xa.out hb); clear O_xa; have O_xa := T_xa; clear T_xa
    have T_xb := Lib.hid (u_own_below O_xb.out hb); clear O_xb; have O_xb := T_xb; clear T_xb
    have T_g0 := Lib.hid (u_own_below O_g0.out hb); clear O_g0; have O_g0 := T_g0; clear T_g0
    have T_a2 := Lib.hid (u_own_below O_a2.out hb); clear O_a2; have O_a2 := T_a2; clear T_a2
    have T_a := Lib.hid (I_a.out.below (hb.mono (by omega))); clear I_a; have I_a := T_a; clear T_a
    have T_b := Lib.hid (I_b.out.below (hb.mono (by omega))); clear I_b; have I_b := T_b; clear T_b
    have BX := Lib.hid (BB.out.trans (hb.mono (by omega))); clear BB; have BB := BX; clear BX
    clear hb
    clear O_a2 LT_a2 TOP_a2
    go_wp2_with fail
    refine (hcpb.out _ _ (I_b.out.up (by omega))).mono ?_
    rintro e w10 ⟨v_b2, rfl, hown, hb⟩
    have S_10 := hb.size
    have T_y0 := Lib.hid (u_own_below O_y0.out hb); clear O_y0; have O_y0 := T_y0; clear T_y0
    have T_xa := Lib.hid (u_own_below O_xa.out hb); clear O_xa; have O_xa := T_xa; clear T_xa
    have T_xb := Lib.hid (u_own_below O_xb.out hb); clear O_xb; have O_xb := T_xb; clear T_xb
    have T_g0 := Lib.hid (u_own_below O_g0.out hb); clear O_g0; have O_g0 := T_g0; clear T_g0
    have T_a := Lib.hid (I_a.out.below (hb.mono (by omega))); clear I_a; have I_a := T_a; clear T_a
    have T_b := Lib.hid (I_b.out.below (hb.mono (by omega))); clear I_b; have I_b := T_b; clear T_b
    have BX := Lib.hid (BB.out.trans (hb.mono (by omega))); clear BB; have BB := BX; clear BX
    have O_b2 := Lib.hid hown
    have LT_b2 := Lib.hid hown.lt
    have TOP_b2 : w9.heap.size ≤ w10.heap.size := hb.size
    clear hown hb
    go_wp2_with fail
    refine (heqb.out _ _ _ (IL.of_own O_xb.out rfl Rb.out (by first | omega | (have := HLEN.out; omega))) (IL.of_own O_b2.out rfl Rb.out (by first | omega | (have := HLEN.out; omega)))).mono ?_
    rintro e w11 ⟨rfl, hb⟩
    have S_11 := hb.size
    have T_y0 := Lib.hid (u_own_below O_y0.out hb); clear O_y0; have O_y0 := T_y0; clear T_y0
    have T_xa := Lib.hid (u_own_below O_xa.out hb); clear O_xa; have O_xa := T_xa; clear T_xa
    have T_xb := Lib.hid (u_own_below O_xb.out hb); clear O_xb; have O_xb := T_xb; clear T_xb
    have T_g0 := Lib.hid (u_own_below O_g0.out hb); clear O_g0; have O_g0 := T_g0; clear T_g0
    have T_b2 := Lib.hid (u_own_below O_b2.out hb); clear O_b2; have O_b2 := T_b2; clear T_b2
    have T_a := Lib.hid (I_a.out.below (hb.mono (by omega))); clear I_a; have I_a := T_a; clear T_a
    have T_b := Lib.hid (I_b.out.below (hb.mono (by omega))); clear I_b; have I_b := T_b; clear T_b
    have BX := Lib.hid (BB.out.trans (hb.mono (by omega))); clear BB; have BB := BX; clear BX
    clear hb
    clear O_b2 LT_b2 TOP_b2
    go_wp2_with fail
    refine (hmka.out _ _ _ O_xa.out).mono ?_
    rintro e w12 ⟨rfl, hown, hb, hg⟩
    have S_12 := hg.size
    have hne_y0 : v_y0.ownBlock = none ∨ v_y0.ownBlock ≠ v_xa.ownBlock := (by
      cases h4 : v_y0.ownBlock with
      | none => exact .inl rfl
      | some k4 =>
        right; intro h3; have q4 := LT_y0.out k4 h4; have q3 := LT_xa.out k4 h3.symm; omega)
    have T_y0 := Lib.hid (O_y0.out.kept hg hne_y0); clear O_y0 hne_y0; have O_y0 := T_y0; clear T_y0
    have hne_xb : v_xb.ownBlock = none ∨ v_xb.ownBlock ≠ v_xa.ownBlock := (by
      cases h4 : v_xb.ownBlock with
      | none => exact .inl rfl
      | some k4 =>
        right; intro h3; have q4 := LT_xb.out k4 h4; have q3 := LT_xa.out k4 h3.symm; omega)
    have T_xb := Lib.hid (O_xb.out.kept hg hne_xb); clear O_xb hne_xb; have O_xb := T_xb; clear T_xb
    have hne_g0 : v_g0.ownBlock = none ∨ v_g0.ownBlock ≠ v_xa.ownBlock := (by
      cases h4 : v_g0.ownBlock with
      | none => exact .inl rfl
      | some k4 =>
        right; intro h3; have q4 := LT_g0.out k4 h4; have q3 := LT_xa.out k4 h3.symm; omega)
    have T_g0 := Lib.hid (O_g0.out.kept hg hne_g0); clear O_g0 hne_g0; have O_g0 := T_g0; clear T_g0
    have T_a := Lib.hid (I_a.out.below (hb.mono (by omega))); clear I_a; have I_a := T_a; clear T_a
    have T_b := Lib.hid (I_b.out.below (hb.mono (by omega))); clear I_b; have I_b := T_b; clear T_b
    have BX := Lib.hid (BB.out.trans (hb.mono (by omega))); clear BB; have BB := BX; clear BX
    clear O_xa; have O_xa := Lib.hid hown; clear hown hb hg
    clear O_xa LT_xa TOP_xa
    go_wp2_with fail
    refine (hmkb.out _ _ _ O_xb.out).mono ?_
    rintro e w13 ⟨rfl, hown, hb, hg⟩
    have S_13 := hg.size
    have hne_y0 : v_y0.ownBlock = none ∨ v_y0.ownBlock ≠ v_xb.ownBlock := (by
      cases h4 : v_y0.ownBlock with
      | none => exact .inl rfl
      | some k4 =>
        right; intro h3; have q4 := LT_y0.out k4 h4; have q3 := LT_xb.out k4 h3.symm; omega)
    have T_y0 := Lib.hid (O_y0.out.kept hg hne_y0); clear O_y0 hne_y0; have O_y0 := T_y0; clear T_y0
    have hne_g0 : v_g0.ownBlock = none ∨ v_g0.ownBlock ≠ v_xb.ownBlock := (by
      cases h4 : v_g0.ownBlock with
      | none => exact .inl rfl
      | some k4 =>
        right; intro h3; have q4 := LT_g0.out k4 h4; have q3 := LT_xb.out k4 h3.symm; omega)
    have T_g0 := Lib.hid (O_g0.out.kept hg hne_g0); clear O_g0 hne_g0; have O_g0 := T_g0; clear T_g0
    have T_a := Lib.hid (I_a.out.below (hb.mono (by omega))); clear I_a; have I_a := T_a; clear T_a
    have T_b := Lib.hid (I_b.out.below (hb.mono (by omega))); clear I_b; have I_b := T_b; clear T_b
    have BX := Lib.hid (BB.out.trans (hb.mono (by omega))); clear BB; have BB := BX; clear BX
    clear O_xb; have O_xb := Lib.hid hown; clear hown hb hg
    clear O_xb LT_xb TOP_xb
    go_wp2_with fail
    refine (heqy.out _ _ _ (IL.of_own O_g0.out rfl RY.out (by first | omega | (have := HLEN.out; omega))) (IL.of_own O_y0.out rfl RY.out (by first | omega | (have := HLEN.out; omega)))).mono ?_
    rintro e w14 ⟨rfl, hb⟩
    have S_14 := hb.size
    have T_y0 := Lib.hid (u_own_below O_y0.out hb); clear O_y0; have O_y0 := T_y0; clear T_y0
    have T_g0 := Lib.hid (u_own_below O_g0.out hb); clear O_g0; have O_g0 := T_g0; clear T_g0
    have T_a := Lib.hid (I_a.out.below (hb.mono (by omega))); clear I_a; have I_a := T_a; clear T_a
    have T_b := Lib.hid (I_b.out.below (hb.mono (by omega))); clear I_b; have I_b := T_b; clear T_b
    have BX := Lib.hid (BB.out.trans (hb.mono (by omega))); clear BB; have BB := BX; clear BX
    clear hb
    go_wp2_with fail
    refine (hmky.out _ _ _ O_g0.out).mono ?_
    rintro e w15 ⟨rfl, hown, hb, hg⟩
    have S_15 := hg.size
    have hne_y0 : v_y0.ownBlock = none ∨ v_y0.ownBlock ≠ v_g0.ownBlock := (by
      cases h4 : v_y0.ownBlock with
      | none => exact .inl rfl
      | some k4 =>
        right; intro h3; have q4 := LT_y0.out k4 h4; have q3 := LT_g0.out k4 h3.symm; omega)
    have T_y0 := Lib.hid (O_y0.out.kept hg hne_y0); clear O_y0 hne_y0; have O_y0 := T_y0; clear T_y0
    have T_a := Lib.hid (I_a.out.below (hb.mono (by omega))); clear I_a; have I_a := T_a; clear T_a
    have T_b := Lib.hid (I_b.out.below (hb.mono (by omega))); clear I_b; have I_b := T_b; clear T_b
    have BX := Lib.hid (BB.out.trans (hb.mono (by omega))); clear BB; have BB := BX; clear BX
    clear O_g0; have O_g0 := Lib.hid hown; clear hown hb hg
    go_wp2_with fail
    refine (hhdy.out _ _ (IL.of_own O_g0.out (marksK_length _ _).symm hmr.out (by rw [marksK_length]; exact hyl))).mono ?_
    rintro e wz ⟨rfl, hwz⟩
    subst hwz
    go_wp2_with fail
    refine (hcpa.out _ _ (I_a.out.up (by omega))).mono ?_
    rintro e w16 ⟨v_a3, rfl, hown, hb⟩
    have S_16 := hb.size
    have T_y0 := Lib.hid (u_own_below O_y0.out hb); clear O_y0; have O_y0 := T_y0; clear T_y0
    have T_g0 := Lib.hid (u_own_below O_g0.out hb); clear O_g0; have O_g0 := T_g0; clear T_g0
    have T_a := Lib.hid (I_a.out.below (hb.mono (by omega))); clear I_a; have I_a := T_a; clear T_a
    have T_b := Lib.hid (I_b.out.below (hb.mono (by omega))); clear I_b; have I_b := T_b; clear T_b
    have BX := Lib.hid (BB.out.trans (hb.mono (by omega))); clear BB; have BB := BX; clear BX
    have O_a3 := Lib.hid hown
    have LT_a3 := Lib.hid hown.lt
    have TOP_a3 : w15.heap.size ≤ w16.heap.size := hb.size
    clear hown hb
    go_wp2_with fail
    refine (hcpb.out _ _ (I_b.out.up (by omega))).mono ?_
    rintro e w17 ⟨v_b3, rfl, hown, hb⟩
    have S_17 := hb.size
    have T_y0 := Lib.hid (u_own_below O_y0.out hb); clear O_y0; have O_y0 := T_y0; clear T_y0
    have T_g0 := Lib.hid (u_own_below O_g0.out hb); clear O_g0; have O_g0 := T_g0; clear T_g0
    have T_a3 := Lib.hid (u_own_below O_a3.out hb); clear O_a3; have O_a3 := T_a3; clear T_a3
    have T_a := Lib.hid (I_a.out.below (hb.mono (by omega))); clear I_a; have I_a := T_a; clear T_a
    have T_b := Lib.hid (I_b.out.below (hb.mono (by omega))); clear I_b; have I_b := T_b; clear T_b
    have BX := Lib.hid (BB.out.trans (hb.mono (by omega))); clear BB; have BB := BX; clear BX
    have O_b3 := Lib.hid hown
    have LT_b3 := Lib.hid hown.lt
    have TOP_b3 : w16.heap.size ≤ w17.heap.size := hb.size
    clear hown hb
    go_wp2_with fail
    refine (him.out _ _ _ (PL.of_own O_a3.out rfl Ra.out (by first | omega | (have := HLEN.out; omega))) (IL.of_own O_b3.out rfl Rb.out (by first | omega | (have := HLEN.out; omega)))).mono ?_
    rintro e w18 ⟨v_h0, rfl, hown, hb⟩
    have S_18 := hb.size
    have T_y0 := Lib.hid (u_own_below O_y0.out hb); clear O_y0; have O_y0 := T_y0; clear T_y0
    have T_g0 := Lib.hid (u_own_below O_g0.out hb); clear O_g0; have O_g0 := T_g0; clear T_g0
    have T_a3 := Lib.hid (u_own_below O_a3.out hb); clear O_a3; have O_a3 := T_a3; clear T_a3
    have T_b3 := Lib.hid (u_own_below O_b3.out hb); clear O_b3; have O_b3 := T_b3; clear T_b3
    have T_a := Lib.hid (I_a.out.below (hb.mono (by omega))); clear I_a; have I_a := T_a; clear T_a
    have T_b := Lib.hid (I_b.out.below (hb.mono (by omega))); clear I_b; have I_b := T_b; clear T_b
    have BX := Lib.hid (BB.out.trans (hb.mono (by omega))); clear BB; have BB := BX; clear BX
    have O_h0 := Lib.hid hown
    have LT_h0 := Lib.hid hown.lt
    have TOP_h0 : w17.heap.size ≤ w18.heap.size := hb.size
    clear hown hb
    clear O_a3 LT_a3 TOP_a3
    clear O_b3 LT_b3 TOP_b3
    go_wp2_with fail
    refine (heqy.out _ _ _ (IL.of_own O_h0.out rfl RY.out (by first | omega | (have := HLEN.out; omega))) (IL.of_own O_y0.out rfl RY.out (by first | omega | (have := HLEN.out; omega)))).mono ?_
    rintro e w19 ⟨rfl, hb⟩
    have S_19 := hb.size
    have T_y0 := Lib.hid (u_own_below O_y0.out hb); clear O_y0; have O_y0 := T_y0; clear T_y0
    have T_g0 := Lib.hid (u_own_below O_g0.out hb); clear O_g0; have O_g0 := T_g0; clear T_g0
    have T_h0 := Lib.hid (u_own_below O_h0.out hb); clear O_h0; have O_h0 := T_h0; clear T_h0
    have T_a := Lib.hid (I_a.out.below (hb.mono (by omega))); clear I_a; have I_a := T_a; clear T_a
    have T_b := Lib.hid (I_b.out.below (hb.mono (by omega))); clear I_b; have I_b := T_b; clear T_b
    have BX := Lib.hid (BB.out.trans (hb.mono (by omega))); clear BB; have BB := BX; clear BX
    clear hb
    go_wp2_with fail
    refine (hhdy.out _ _ (IL.of_own O_g0.out (marksK_length _ _).symm hmr.out (by rw [marksK_length]; exact hyl))).mono ?_
    rintro e wz ⟨rfl, hwz⟩
    subst hwz
    go_wp2_with fail
    go_ret
    exact ⟨rfl, BB.out⟩
end Go.Proofs.Ytljmiodkmddllaa
