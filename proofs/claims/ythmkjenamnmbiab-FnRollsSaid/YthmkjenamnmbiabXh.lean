/- Walks: the law FnCoarser. -/
import Derived.Test.YthmkjenamnmbiabXg
import Derived.Test.YthmkjenamnmbiabXf
import Derived.Test.YthmkjenamnmbiabYv
set_option linter.unusedVariables false
set_option linter.unusedSimpArgs false
namespace Go.Proofs.Ythmkjenamnmbiab
open Go.RowKit

set_option maxRecDepth 100000 in
set_option maxHeartbeats 4000000 in
theorem DrawCoarser_any (A : Option Addr) (n c : Nat) (w : World) (h : CodeAt w A n c) :
    Calls Try.prog 39 #[.slice A n c] w fun e w' => ∃ v xs W to, e = .returned (.tuple #[v, .int .i64 W, .int .i64 to]) ∧ w'.ownsRow w.heap.size 53 6 v xs.length (rls xs) ∧ xs.length ≤ 9 ∧ RRs xs ∧ Rng W ∧ Rng to ∧ Below w.heap.size w w' := by
  have H := Lib.hid h
  clear h
  go_enter Try.func39, Try.ntmps39
  go_wp2_with fail
  refine (open_any A n c _ H.out).mono ?_
  rintro e w1 ⟨rfl, hrd1, hb1⟩
  have Hrd1 := Lib.hid hrd1
  have Hb1 := Lib.hid hb1
  have hgl := hrd1.lt
  have H1 := Lib.hid (H.out.below hb1)
  clear hrd1 hb1
  go_wp2_with fail
  refine (DrawRollsOk_any A n c _ H1.out).mono ?_
  rintro e w2 ⟨v, xs, W, rfl, hown2, hxl, hrr, hW1, hW2, hb2⟩
  have T2 := Lib.hid (show TDR w1 w.heap.size w.heap.size v xs w2 from ⟨hown2, Hrd1.out.below hb2, grew_of_below hb2 _⟩)
  have HR := Lib.hid hrr
  clear hown2 hrr hb2
  go_wp2_with fail
  refine (below_any _ _ 4 _ T2.out.rd (by omega) (by omega)).mono ?_
  rintro e w3 ⟨_, rfl, ⟨y, rfl, hy0, hy1⟩, hrd, hgr⟩
  have T3 := Lib.hid (T2.out.read hgl hrd hgr)
  clear hrd hgr T2
  have e1 : IntKind.i64.wrap (1 + y) = 1 + y := IntWalk.i64_in _ (by omega)
  have hWy : W * (1 + y) ≤ 120 ∧ 0 ≤ W * (1 + y) := by
    have h1 := Int.mul_le_mul hW2 (show 1 + y ≤ 4 by omega) (by omega) (by omega : (0 : Int) ≤ 30)
    have h2 := Int.mul_nonneg (show 0 ≤ W by omega) (show 0 ≤ 1 + y by omega)
    omega
  have e2 : IntKind.i64.wrap (W * (1 + y)) = W * (1 + y) := IntWalk.i64_in _ (by omega)
  obtain ⟨q, hq⟩ : ∃ q, q = W * (1 + y) := ⟨_, rfl⟩
  have hrq : Rng q := ⟨by omega, by omega⟩
  rw [← hq] at e2
  have e3 : W * (1 + y) = q := hq.symm
  clear hq hWy
  go_wp2_with fail
  refine (once_any _ _ 12 _ T3.out.rd (by omega) (by omega)).mono ?_
  rintro e w4 ⟨_, rfl, ⟨b, rfl⟩, hrd, hgr⟩
  have T4 := Lib.hid (T3.out.read hgl hrd hgr)
  clear hrd hgr T3
  have hrW : Rng W := ⟨by omega, by omega⟩
  cases b with
  | false =>
    go_wp2_with fail
    go_ret3
    exact ⟨v, xs, W, q, rfl, p_base T4.out.own Hb1.out.size, hxl, HR.out, hrW, hrq, Hb1.out.grown T4.out.gr Hb1.out.size (fun k hk => by injection hk with hk; omega)⟩
  | true =>
    go_wp2_with fail
    refine (off_any _ _ 1 60 _ T4.out.rd (by omega) (by omega) (by omega) (by omega)).mono ?_
    rintro e w5 ⟨_, rfl, ⟨z, rfl, hzl, hzh⟩, hrd, hgr⟩
    have T5 := Lib.hid (T4.out.read hgl hrd hgr)
    clear hrd hgr T4
    go_wp2_with fail
    go_ret3
    exact ⟨v, xs, W, z, rfl, p_base T5.out.own Hb1.out.size, hxl, HR.out, hrW, ⟨hzl, hzh⟩, Hb1.out.grown T5.out.gr Hb1.out.size (fun k hk => by injection hk with hk; omega)⟩

set_option maxRecDepth 100000 in
set_option maxHeartbeats 8000000 in
theorem walkFnCoarser (A : Option Addr) (n c : Nat) (w : World) (h : n ≤ 1048576 → CodeAt w A n c) :
    Calls Try.prog 9 #[.slice A n c] w fun e w' => e = .returned (.bool true) ∧ Below w.heap.size w w' := by
  have hbig := fun W => big_any A n c W
  by_cases hb : (n : Int) ≤ 1048576
  · have hd : decide (1048576 < (n : Int)) = false := by simp; omega
    rw [hd] at hbig
    have Hbig := Lib.hid hbig
    have hdraw := Lib.hid (fun W h => DrawCoarser_any A n c W h)
    have hdraw2 := Lib.hid (fun W h => DrawRollsOf_any A n c W h)
    have hcode := Lib.hid (h (by omega))
    have hn0 : 0 ≤ (n : Int) := by omega
    clear hbig hd h
    have hsame := Lib.hid (fun v u ys W h h' => sameRolls_any v u ys W h h')
    go_enter Try.func9, Try.ntmps9
    go_wp2_with fail
    refine (Hbig.out _).mono ?_
    rintro e w' ⟨rfl, rfl⟩
    go_wp2_with fail
    refine (hdraw.out _ hcode.out).mono ?_
    rintro e w1 ⟨v, xs, a, b, rfl, hown1, hxl, hrr, hra, hrb, hb1⟩
    have B1 := Lib.hid hb1
    have HX := Lib.hid (rrs_getD hrr)
    have P1 := Lib.hid (RL.of_own hown1 rfl HX.out (by omega))
    clear hb1 hown1 hrr hdraw Hbig
    have him := Lib.hid (fun W' h => implCoarser_any v xs a b W' h)
    have hsp := Lib.hid (fun W' h => specCoarser_any v xs a b W' h)
    have hok := crsM_ok xs a b HX.out (by omega)
    have hyl := hok.2
    have YR := Lib.hid hok.1
    clear hok
    have hrk := Lib.hid (fun v W' h => implRollsOk_any v (crsM xs a b) b W' h)
    have HV := Lib.hid (show crsB xs a b = true → rollsOkB (crsM xs a b) b = true from fun h => by
      have h2 := h
      unfold crsB at h2
      simp only [Bool.and_eq_true] at h2
      unfold crsM; rw [if_pos h]; exact h2.2.2.2)
    obtain ⟨ys, hys⟩ : ∃ ys, ys = crsM xs a b := ⟨_, rfl⟩
    rw [← hys] at him hsp YR hyl hrk HV
    clear hys
    have hpart : ∀ (K : World → Prop) , (∀ w6, Below w.heap.size w w6 → K w6) → ∀ w6, Below w.heap.size w w6 → K w6 := fun K h => h
    clear hpart
    cases hfb : crsB xs a b with
    | false =>
      rw [hfb] at him hsp HV
      clear hfb
      go_wp2_with fail
      refine (him.out _ P1.out).mono ?_
      rintro e w2 ⟨v2, rfl, hown2, hb2⟩
      have O2 := Lib.hid hown2
      have B2 := Lib.hid (B1.out.trans (hb2.mono B1.out.size))
      have P2 := Lib.hid ((P1.out.below hb2).up hb2.size)
      clear hown2 hb2
      go_wp2_with fail
      refine (hsp.out _ P2.out).mono ?_
      rintro e w3 ⟨v3, rfl, hown3, hb3⟩
      have O3 := Lib.hid (u_own_below O2.out hb3)
      have R3 := Lib.hid (RL.of_own hown3 rfl YR.out hyl)
      have B3 := Lib.hid (B2.out.trans (hb3.mono B2.out.size))
      clear hown3 hb3
      go_wp2_with fail
      refine (hsame.out _ _ _ _ (RL.of_own O3.out rfl YR.out hyl) R3.out).mono ?_
      rintro e w4 ⟨rfl, hb4⟩
      have O4 := Lib.hid (u_own_below O3.out hb4)
      have B4 := Lib.hid (B3.out.trans (hb4.mono B3.out.size))
      clear hb4 R3 O3
      go_wp2_with fail
      clear him hsp HV hrk YR hyl P2 O4 O2 B3 B2 B1 P1 HX hxl hra hrb hsame
      have C4 := Lib.hid (hcode.out.below B4.out)
      refine (hdraw2.out _ C4.out).mono ?_
      rintro e w5 ⟨u, ps, W, rfl, hown5, hpl, hpr, hrW, hb5⟩
      have B5 := Lib.hid (B4.out.trans (hb5.mono B4.out.size))
      have P5 := Lib.hid (PL.of_own hown5 rfl (prng_of hpr) (by omega))
      have HP := Lib.hid hpr
      clear hb5 hown5 hpr C4 B4
      have him := Lib.hid (fun W' h => implRollsOf_any u ps W W' h)
      have hsame := Lib.hid (fun v u ys W h h' => sameRolls_any v u ys W h h')
      have hok := rollsM_ok ps W (prng_of HP.out) (by omega)
      have YR := Lib.hid hok.1
      have hyl := hok.2
      clear hok
      cases hfb : rollsB ps W with
      | false =>
        rw [hfb] at him
        go_wp2_with fail
        refine (him.out _ P5.out).mono ?_
        rintro e w6 ⟨v6, rfl, hown6, hb6⟩
        have B6 := Lib.hid (B5.out.trans (hb6.mono B5.out.size))
        clear hown6 hb6
        go_wp2_with fail
        go_ret
        exact ⟨rfl, B6.out⟩
      | true =>
        rw [hfb] at him
        have hps : ptsSmB ps = true := by unfold rollsB at hfb; rw [Bool.and_eq_true] at hfb; exact hfb.1
        have hwd : wdB W = true := by unfold rollsB at hfb; rw [Bool.and_eq_true] at hfb; exact hfb.2
        obtain ⟨hW1, hW2⟩ := wdB_in hwd
        have HM : rollsM ps W = rollsL ps W := by unfold rollsM; rw [if_pos ⟨hps, hwd⟩]
        rw [HM] at him YR hyl
        have hn6 : 0 ≤ (n : Int) % 4 ∧ (n : Int) % 4 ≤ 3 := by omega
        obtain ⟨q6, hq6⟩ : ∃ q, q = (n : Int) % 4 := ⟨_, rfl⟩
        have et : (n : Int).tmod 4 = q6 := by rw [Int.tmod_eq_emod_of_nonneg (by omega), hq6]
        have et2 : (n : Int) % 4 = q6 := hq6.symm
        rw [← hq6] at hn6
        have e1 : IntKind.i64.wrap (1 + q6) = 1 + q6 := IntWalk.i64_in _ (by omega)
        have hmb : 0 ≤ W * (1 + q6) ∧ W * (1 + q6) ≤ 4000000 := by
          have h1 := Int.mul_nonneg (show 0 ≤ W by omega) (show 0 ≤ 1 + q6 by omega)
          have h2 := Int.mul_le_mul hW2 (show 1 + q6 ≤ 4 by omega) (by omega) (by omega : (0 : Int) ≤ 1000000)
          omega
        have e2 : IntKind.i64.wrap (W * (1 + q6)) = W * (1 + q6) := IntWalk.i64_in _ (by omega)
        obtain ⟨to, hto⟩ : ∃ t, t = W * (1 + q6) := ⟨_, rfl⟩
        have htm : to % W = 0 := by rw [hto]; exact Int.mul_emod_right W _
        have htp : 1 ≤ to := by rw [hto]; have := Int.mul_le_mul_of_nonneg_left (show 1 ≤ 1 + q6 by omega) (show 0 ≤ W by omega); omega
        rw [← hto] at e2
        have e3 : W * (1 + q6) = to := hto.symm
        clear hto hmb hn6 hq6
        have hcr := coar_rolls ps hW1 htp htm
        have him2 := Lib.hid (fun v W' h => implCoarser_any v (rollsL ps W) W to W' h)
        have him3 := Lib.hid (fun W' h => implRollsOf_any u ps to W' h)
        have hval := rollsL_valid hps hwd
        have hok2 := rollsM_ok ps to (prng_of HP.out) (by omega)
        have ZR := Lib.hid hok2.1
        have hzl := hok2.2
        have hbb : crsB (rollsL ps W) W to = rollsB ps to := by
          unfold crsB rollsB
          rw [hval, decide_eq_true htm, hcr, hps, Bool.true_and, Bool.true_and, Bool.true_and]
          cases hwt : wdB to
          · rfl
          · rw [rollsL_valid hps hwt]; rfl
        have hmm : crsM (rollsL ps W) W to = rollsM ps to := by
          unfold crsM
          rw [hbb, hcr]
          unfold rollsM rollsB
          simp [hps]
        rw [hbb, hmm] at him2
        clear hbb hmm hval hcr hok2 HM hfb hps hwd
        generalize rollsM ps to = zs at *
        go_wp2_with fail
        refine (him.out _ P5.out).mono ?_
        rintro e w6 ⟨v6, rfl, hown6, hb6⟩
        have B6 := Lib.hid (B5.out.trans (hb6.mono B5.out.size))
        have R6x := Lib.hid (RL.of_own hown6 rfl YR.out hyl)
        have P6 := Lib.hid ((P5.out.below hb6).up hb6.size)
        clear hown6 hb6
        go_wp2_with fail
        refine (him2.out _ _ R6x.out).mono ?_
        rintro e w7 ⟨v7, rfl, hown7, hb7⟩
        have B7 := Lib.hid (B6.out.trans (hb7.mono B6.out.size))
        have O7 := Lib.hid hown7
        have P7 := Lib.hid ((P6.out.below hb7).up hb7.size)
        clear hown7 hb7
        go_wp2_with fail
        refine (him3.out _ P7.out).mono ?_
        rintro e w8 ⟨v8, rfl, hown8, hb8⟩
        have B8 := Lib.hid (B7.out.trans (hb8.mono B7.out.size))
        have R8 := Lib.hid (RL.of_own hown8 rfl ZR.out hzl)
        have O8 := Lib.hid (u_own_below O7.out hb8)
        clear hown8 hb8 him him2 him3
        cases rollsB ps to with
        | false =>
          go_wp2_with fail
          go_ret
          exact ⟨rfl, B8.out⟩
        | true =>
          go_wp2_with fail
          refine (hsame.out _ _ _ _ (RL.of_own O8.out rfl ZR.out hzl) R8.out).mono ?_
          rintro e w9 ⟨rfl, hb9⟩
          have B9 := Lib.hid (B8.out.trans (hb9.mono B8.out.size))
          clear hb9
          go_wp2_with fail
          go_ret
          exact ⟨rfl, B9.out⟩
    | true =>
      rw [hfb] at him hsp HV
      clear hfb
      go_wp2_with fail
      refine (him.out _ P1.out).mono ?_
      rintro e w2 ⟨v2, rfl, hown2, hb2⟩
      have O2 := Lib.hid hown2
      have B2 := Lib.hid (B1.out.trans (hb2.mono B1.out.size))
      have P2 := Lib.hid ((P1.out.below hb2).up hb2.size)
      clear hown2 hb2
      go_wp2_with fail
      refine (hsp.out _ P2.out).mono ?_
      rintro e w3 ⟨v3, rfl, hown3, hb3⟩
      have O3 := Lib.hid (u_own_below O2.out hb3)
      have R3 := Lib.hid (RL.of_own hown3 rfl YR.out hyl)
      have B3 := Lib.hid (B2.out.trans (hb3.mono B2.out.size))
      clear hown3 hb3
      go_wp2_with fail
      refine (hsame.out _ _ _ _ (RL.of_own O3.out rfl YR.out hyl) R3.out).mono ?_
      rintro e w4 ⟨rfl, hb4⟩
      have O4 := Lib.hid (u_own_below O3.out hb4)
      have B4 := Lib.hid (B3.out.trans (hb4.mono B3.out.size))
      clear hb4 R3 O3
      rw [HV.out (by first | rfl | trivial)] at hrk
      go_wp2_with fail
      refine (hrk.out _ _ (RL.of_own O4.out rfl YR.out hyl)).mono ?_
      rintro e w5 ⟨rfl, hb5⟩
      have B5 := Lib.hid (B4.out.trans (hb5.mono B4.out.size))
      clear hb5 B4
      have B4 := B5
      clear B5
      go_wp2_with fail
      clear him hsp HV hrk YR hyl P2 O4 O2 B3 B2 B1 P1 HX hxl hra hrb hsame
      have C4 := Lib.hid (hcode.out.below B4.out)
      refine (hdraw2.out _ C4.out).mono ?_
      rintro e w5 ⟨u, ps, W, rfl, hown5, hpl, hpr, hrW, hb5⟩
      have B5 := Lib.hid (B4.out.trans (hb5.mono B4.out.size))
      have P5 := Lib.hid (PL.of_own hown5 rfl (prng_of hpr) (by omega))
      have HP := Lib.hid hpr
      clear hb5 hown5 hpr C4 B4
      have him := Lib.hid (fun W' h => implRollsOf_any u ps W W' h)
      have hsame := Lib.hid (fun v u ys W h h' => sameRolls_any v u ys W h h')
      have hok := rollsM_ok ps W (prng_of HP.out) (by omega)
      have YR := Lib.hid hok.1
      have hyl := hok.2
      clear hok
      cases hfb : rollsB ps W with
      | false =>
        rw [hfb] at him
        go_wp2_with fail
        refine (him.out _ P5.out).mono ?_
        rintro e w6 ⟨v6, rfl, hown6, hb6⟩
        have B6 := Lib.hid (B5.out.trans (hb6.mono B5.out.size))
        clear hown6 hb6
        go_wp2_with fail
        go_ret
        exact ⟨rfl, B6.out⟩
      | true =>
        rw [hfb] at him
        have hps : ptsSmB ps = true := by unfold rollsB at hfb; rw [Bool.and_eq_true] at hfb; exact hfb.1
        have hwd : wdB W = true := by unfold rollsB at hfb; rw [Bool.and_eq_true] at hfb; exact hfb.2
        obtain ⟨hW1, hW2⟩ := wdB_in hwd
        have HM : rollsM ps W = rollsL ps W := by unfold rollsM; rw [if_pos ⟨hps, hwd⟩]
        rw [HM] at him YR hyl
        have hn6 : 0 ≤ (n : Int) % 4 ∧ (n : Int) % 4 ≤ 3 := by omega
        obtain ⟨q6, hq6⟩ : ∃ q, q = (n : Int) % 4 := ⟨_, rfl⟩
        have et : (n : Int).tmod 4 = q6 := by rw [Int.tmod_eq_emod_of_nonneg (by omega), hq6]
        have et2 : (n : Int) % 4 = q6 := hq6.symm
        rw [← hq6] at hn6
        have e1 : IntKind.i64.wrap (1 + q6) = 1 + q6 := IntWalk.i64_in _ (by omega)
        have hmb : 0 ≤ W * (1 + q6) ∧ W * (1 + q6) ≤ 4000000 := by
          have h1 := Int.mul_nonneg (show 0 ≤ W by omega) (show 0 ≤ 1 + q6 by omega)
          have h2 := Int.mul_le_mul hW2 (show 1 + q6 ≤ 4 by omega) (by omega) (by omega : (0 : Int) ≤ 1000000)
          omega
        have e2 : IntKind.i64.wrap (W * (1 + q6)) = W * (1 + q6) := IntWalk.i64_in _ (by omega)
        obtain ⟨to, hto⟩ : ∃ t, t = W * (1 + q6) := ⟨_, rfl⟩
        have htm : to % W = 0 := by rw [hto]; exact Int.mul_emod_right W _
        have htp : 1 ≤ to := by rw [hto]; have := Int.mul_le_mul_of_nonneg_left (show 1 ≤ 1 + q6 by omega) (show 0 ≤ W by omega); omega
        rw [← hto] at e2
        have e3 : W * (1 + q6) = to := hto.symm
        clear hto hmb hn6 hq6
        have hcr := coar_rolls ps hW1 htp htm
        have him2 := Lib.hid (fun v W' h => implCoarser_any v (rollsL ps W) W to W' h)
        have him3 := Lib.hid (fun W' h => implRollsOf_any u ps to W' h)
        have hval := rollsL_valid hps hwd
        have hok2 := rollsM_ok ps to (prng_of HP.out) (by omega)
        have ZR := Lib.hid hok2.1
        have hzl := hok2.2
        have hbb : crsB (rollsL ps W) W to = rollsB ps to := by
          unfold crsB rollsB
          rw [hval, decide_eq_true htm, hcr, hps, Bool.true_and, Bool.true_and, Bool.true_and]
          cases hwt : wdB to
          · rfl
          · rw [rollsL_valid hps hwt]; rfl
        have hmm : crsM (rollsL ps W) W to = rollsM ps to := by
          unfold crsM
          rw [hbb, hcr]
          unfold rollsM rollsB
          simp [hps]
        rw [hbb, hmm] at him2
        clear hbb hmm hval hcr hok2 HM hfb hps hwd
        generalize rollsM ps to = zs at *
        go_wp2_with fail
        refine (him.out _ P5.out).mono ?_
        rintro e w6 ⟨v6, rfl, hown6, hb6⟩
        have B6 := Lib.hid (B5.out.trans (hb6.mono B5.out.size))
        have R6x := Lib.hid (RL.of_own hown6 rfl YR.out hyl)
        have P6 := Lib.hid ((P5.out.below hb6).up hb6.size)
        clear hown6 hb6
        go_wp2_with fail
        refine (him2.out _ _ R6x.out).mono ?_
        rintro e w7 ⟨v7, rfl, hown7, hb7⟩
        have B7 := Lib.hid (B6.out.trans (hb7.mono B6.out.size))
        have O7 := Lib.hid hown7
        have P7 := Lib.hid ((P6.out.below hb7).up hb7.size)
        clear hown7 hb7
        go_wp2_with fail
        refine (him3.out _ P7.out).mono ?_
        rintro e w8 ⟨v8, rfl, hown8, hb8⟩
        have B8 := Lib.hid (B7.out.trans (hb8.mono B7.out.size))
        have R8 := Lib.hid (RL.of_own hown8 rfl ZR.out hzl)
        have O8 := Lib.hid (u_own_below O7.out hb8)
        clear hown8 hb8 him him2 him3
        cases rollsB ps to with
        | false =>
          go_wp2_with fail
          go_ret
          exact ⟨rfl, B8.out⟩
        | true =>
          go_wp2_with fail
          refine (hsame.out _ _ _ _ (RL.of_own O8.out rfl ZR.out hzl) R8.out).mono ?_
          rintro e w9 ⟨rfl, hb9⟩
          have B9 := Lib.hid (B8.out.trans (hb9.mono B8.out.size))
          clear hb9
          go_wp2_with fail
          go_ret
          exact ⟨rfl, B9.out⟩
  · have hd : decide (1048576 < (n : Int)) = true := by simp; omega
    rw [hd] at hbig
    have Hbig := Lib.hid hbig
    clear hbig hd h
    go_enter Try.func9, Try.ntmps9
    go_wp2_with fail
    refine (Hbig.out _).mono ?_
    rintro e w' ⟨rfl, rfl⟩
    go_wp2_with fail
    go_ret
    exact ⟨rfl, Below.refl _ _⟩
end Go.Proofs.Ythmkjenamnmbiab
