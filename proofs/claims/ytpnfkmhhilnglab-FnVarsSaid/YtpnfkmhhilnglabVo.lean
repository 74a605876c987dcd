/- The walk of the law FnVars. -/
import Derived.Test.YtpnfkmhhilnglabVn
import Derived.Test.YtpnfkmhhilnglabIs
import Derived.Test.YtpnfkmhhilnglabUb
import Derived.Test.YtpnfkmhhilnglabRl
import Derived.Test.YtpnfkmhhilnglabVg
import Derived.Deep.RegionLaw
namespace Go.Proofs.Ytpnfkmhhilnglab
open Go.RowKit

theorem below_drewN_v {B : Nat} {a w : World} (h : Below B a w) (n : Nat) : Below B a (w.drewN n) := ⟨h.os, h.tape, h.output, h.size, h.block⟩
def BPost2 (b : Bool) (w : World) (e : Ending) (w' : World) : Prop := e = .returned (.bool b) ∧ Below w.heap.size w w'

set_option maxRecDepth 100000 in
set_option maxHeartbeats 20000000 in
theorem walkFnVars (A : Option Addr) (n c : Nat) (w : World) (h : n ≤ 1048576 → CodeAt w A n c) :
    Calls Try.prog 3 #[.slice A n c] w fun e w' => e = .returned (.bool true) ∧ Below w.heap.size w w' := by
  have hbig := fun W => big_any A n c W
  by_cases hn : n ≤ 1048576
  · have H := Lib.hid (h hn)
    have hd : decide (1048576 < (n : Int)) = false := by simp; omega
    rw [hd] at hbig
    have Hbig := Lib.hid hbig
    clear hbig hd h
    go_enter Try.func3, Try.ntmps3
    go_wp2_with fail
    refine (Hbig.out _).mono ?_
    rintro e w' ⟨rfl, rfl⟩
    go_wp2_with fail
    refine (DrawVarOf_any A n c _ H.out).mono ?_
    rintro e w1 ⟨⟨v, rfl, z, rfl, hz0, hz1⟩, hb1⟩
    have H1 := Lib.hid (H.out.below hb1)
    have B1 := Lib.hid hb1
    clear hb1 H
    go_wp2_with fail
    refine (implVarOf_any z _).mono ?_
    rintro e w2 ⟨rfl, hb2⟩
    have H2 := Lib.hid (H1.out.below hb2)
    have B2 := Lib.hid (B1.out.trans (hb2.mono B1.out.size))
    clear hb2 H1 B1
    go_wp2_with fail
    refine (DrawReadVar_any A n c _ H2.out).mono ?_
    rintro e w3 ⟨T, rfl, hT, hb3⟩
    have H3 := Lib.hid (H2.out.below hb3)
    have B3 := Lib.hid (B2.out.trans (hb3.mono B2.out.size))
    clear hb3 H2 B2
    have hT2 : T.size ≤ maxLen := by unfold maxLen; omega
    have rv1 := Lib.hid (fun W => implReadVar_any T W hT2)
    have rv2 := Lib.hid (fun W => specReadVar_any T W hT2)
    unfold RdVPost at rv1 rv2
    obtain ⟨a, b, t, hrd⟩ := rdVal_form T
    rw [hrd] at rv1 rv2
    have Hrd := Lib.hid hrd
    clear hrd hT2
    go_wp2_with fail
    refine (rv1.out _).mono ?_
    rintro e w4 ⟨rfl, hb4⟩
    have H4 := Lib.hid (H3.out.below hb4)
    have B4 := Lib.hid (B3.out.trans (hb4.mono B3.out.size))
    clear hb4 H3 B3 rv1
    go_wp2_with fail
    refine (rv2.out _).mono ?_
    rintro e w5 ⟨rfl, hb5⟩
    have H5 := Lib.hid (H4.out.below hb5)
    have B5 := Lib.hid (B4.out.trans (hb5.mono B4.out.size))
    clear hb5 H4 B4 rv2
    go_wp2_with fail
    refine (DrawVarsOf_any A n c _ H5.out).mono ?_
    rintro e w6 ⟨vl, xs, rfl, hown6, hxl, hxr, hb6⟩
    have H6 := Lib.hid (H5.out.below hb6)
    have B6 := Lib.hid (B5.out.trans (hb6.mono B5.out.size))
    have L6 := Lib.hid (IL.of_own hown6 rfl (rng_of hxr) (by omega))
    have Hxr := Lib.hid hxr
    clear hb6 H5 B5 hown6 hxr
    go_wp2_with fail
    refine (DrawReadVars_any A n c _ H6.out).mono ?_
    rintro e w7 ⟨U, rfl, hU, hb7⟩
    have B7 := Lib.hid (B6.out.trans (hb7.mono B6.out.size))
    have L7 := Lib.hid ((L6.out.below hb7).up hb7.size)
    clear hb7 H6 B6 L6
    have hU2 : U.size ≤ maxLen := by unfold maxLen; omega
    have rw1 := Lib.hid (fun W => implReadVars_any U W hU2)
    have rw2 := Lib.hid (fun W => specReadVars_any U W hU2)
    unfold RVPost at rw1 rw2
    have hyl := rvOut_len U
    have hyr := Lib.hid (rng_of (rvOut_rng U))
    have hyb := Lib.hid (fun hh => rvOut_back (s := U) hh)
    generalize (rvOut U).2 = ys at *
    generalize (rvOut U).1 = f at *
    clear hU2
    go_wp2_with fail
    refine (rw1.out _).mono ?_
    rintro e w8 ⟨vx, rfl, hown8, hb8⟩
    have B8 := Lib.hid (B7.out.trans (hb8.mono B7.out.size))
    have L8 := Lib.hid ((L7.out.below hb8).up hb8.size)
    have X8 := Lib.hid (IL.of_own hown8 rfl hyr.out (by omega))
    clear hb8 B7 L7 hown8 rw1
    go_wp2_with fail
    refine (rw2.out _).mono ?_
    rintro e w9 ⟨vy, rfl, hown9, hb9⟩
    have B9 := Lib.hid (B8.out.trans (hb9.mono B8.out.size))
    have L9 := Lib.hid ((L8.out.below hb9).up hb9.size)
    have X9 := Lib.hid ((X8.out.below hb9).up hb9.size)
    have Y9 := Lib.hid (IL.of_own hown9 rfl hyr.out (by omega))
    clear hb9 B8 L8 X8 hown9 rw2
    go_wp2_with fail
    refine (specVarOf_any z _).mono ?_
    rintro e wa ⟨rfl, hba⟩
    have Ba := Lib.hid (B9.out.trans (hba.mono B9.out.size))
    have La := Lib.hid ((L9.out.below hba).up hba.size)
    have Xa := Lib.hid ((X9.out.below hba).up hba.size)
    have Ya := Lib.hid ((Y9.out.below hba).up hba.size)
    clear hba B9 L9 X9 Y9
    have sI := Lib.hid (fun v u zs W h h' => sameInts_any v u zs zs W h h')
    simp only [decide_true] at sI
    go_wp2_with fail
    refine (sI.out _ _ _ _ Xa.out Ya.out).mono ?_
    rintro e wb ⟨rfl, hbb⟩
    have Bb := Lib.hid (Ba.out.trans (hbb.mono Ba.out.size))
    have Lb := Lib.hid ((La.out.below hbb).up hbb.size)
    have Xb := Lib.hid ((Xa.out.below hbb).up hbb.size)
    clear hbb Ba La Xa Ya
    go_wp2_with fail
    refine (implVarsOf_any _ _ _ Lb.out).mono ?_
    rintro e wc ⟨rfl, hbc⟩
    have Bc := Lib.hid (Bb.out.trans (hbc.mono Bb.out.size))
    have Lc := Lib.hid ((Lb.out.below hbc).up hbc.size)
    have Xc := Lib.hid ((Xb.out.below hbc).up hbc.size)
    clear hbc Bb Lb Xb
    go_wp2_with fail
    refine (specVarsOf_any _ _ _ Lc.out).mono ?_
    rintro e wd ⟨rfl, hbd⟩
    have Bd := Lib.hid (Bc.out.trans (hbd.mono Bc.out.size))
    have Ld := Lib.hid ((Lc.out.below hbd).up hbd.size)
    have Xd := Lib.hid ((Xc.out.below hbd).up hbd.size)
    have Z := Lib.hid (Below.refl wd.heap.size wd)
    clear hbd Bc Lc Xc
    have hvo := Lib.hid (fun m W => implVarOf_any m W)
    have hvs := fun W h => implVarsOf_any vx ys W h
    unfold SPost at hvs
    have Hrd2 := Hrd
    obtain ⟨S, hS⟩ : ∃ S, S = strN (varsB xs) := ⟨_, rfl⟩
    obtain ⟨S2, hS2⟩ : ∃ S2, S2 = strN (varsB ys) := ⟨_, rfl⟩
    have hx200 : xs.length ≤ 200 := by omega
    have hSr := rvOut_varsB hx200 Hxr.out
    have hSs := varsB_len hxl
    rw [← hS] at hSr hSs
    have HS := Lib.hid hS
    have HSr := Lib.hid hSr
    have Hxg := Lib.hid (rng_of Hxr.out)
    have HS2 := Lib.hid hS2
    rw [← hS]
    rw [← hS2] at hvs
    have Hvs := Lib.hid hvs
    clear hS hSr hS2 Hxr hvs
    have hzs : (varS z).size ≤ 10 := by rw [varS_size]; exact VM.var_len64 _ (i64u_lt z)
    have hrA := Lib.hid (fun W => implReadVar_any (varS z ++ T) W (by rw [ByteArray.size_append]; unfold maxLen; omega))
    unfold RdVPost at hrA
    rw [rdVal_append z T hz0 hz1] at hrA
    have hvx := fun W h => implVarsOf_any vl xs W h
    unfold SPost at hvx
    rw [← HS.out] at hvx
    have hrS := fun W => implReadVars_any S W (by unfold maxLen; omega)
    unfold RVPost at hrS
    rw [HSr.out] at hrS
    replace hvx := Lib.hid hvx
    replace hrS := Lib.hid hrS
    have hxg := Hxg
    cases t
    all_goals cases f
    · go_wp2_with fail
      go_quiet (fail)
      have Z4 := Lib.hid (below_drewN_v (Below.refl wd.heap.size wd) nq)
      all_goals
        have B0 := Lib.hid (Bd.out.trans (Z4.out.mono Bd.out.size))
        have L0 := Lib.hid ((Ld.out.below Z4.out).up Z4.out.size)
        clear Z4 Bd Ld
        go_wp2_with fail
        refine (hrA.out _).mono ?_
        rintro e wg ⟨rfl, hbg⟩
        have B1 := Lib.hid (B0.out.trans (hbg.mono B0.out.size))
        have L1 := Lib.hid ((L0.out.below hbg).up hbg.size)
        clear hbg B0 L0
        go_wp2_with fail
        refine (hvx.out _ L1.out).mono ?_
        rintro e wh ⟨rfl, hbh⟩
        have B2 := Lib.hid (B1.out.trans (hbh.mono B1.out.size))
        have L2 := Lib.hid ((L1.out.below hbh).up hbh.size)
        clear hbh B1 L1
        go_wp2_with fail
        refine (hrS.out _).mono ?_
        rintro e wi ⟨vb, rfl, hownb, hbi⟩
        have B3 := Lib.hid (B2.out.trans (hbi.mono B2.out.size))
        have L3 := Lib.hid ((L2.out.below hbi).up hbi.size)
        have K3 := Lib.hid (IL.of_own hownb rfl hxg.out (by omega))
        clear hbi B2 L2 hownb
        go_wp2_with fail
        refine (sI.out _ _ _ _ K3.out L3.out).mono ?_
        rintro e wj ⟨rfl, hbj⟩
        have B4 := Lib.hid (B3.out.trans (hbj.mono B3.out.size))
        clear hbj B3 L3 K3
        go_wp2_with fail
        go_ret
        exact ⟨rfl, B4.out⟩
    · have heqU : (S2.toList == U.toList) = true := by rw [HS2.out, hyb.out rfl]; simp
      go_wp2_with fail
      refine wp_region_any (by kernel_rfl) ?_
      change wpAny _ _ _ _ _ _ _ (World.drew _)
      refine wpAny_take (i := 0) (v := ?v0) rfl (by kernel_rfl) (by kernel_rfl) (by kernel_rfl) (fun _ _ _ h => h) (Or.inl ⟨by kernel_rfl, ?y0⟩) ?_
      case y0 => intro w; first | (go_simp; done) | (go_simp; with_reducible rfl)
      refine wpAny_take (i := 1) (v := ?v1) rfl (by kernel_rfl) (by kernel_rfl) (by kernel_rfl) (fun _ _ _ h => h) (Or.inl ⟨by kernel_rfl, ?y1⟩) ?_
      case y1 => intro w; first | (go_simp; done) | (go_simp; with_reducible rfl)
      refine wpAny_take (i := 2) (v := undef) rfl (by kernel_rfl) (by kernel_rfl) (by kernel_rfl) (fun _ _ _ h => h) (Or.inr ⟨by kernel_rfl, rfl⟩) ?_
      refine wpAny_take (i := 3) (v := undef) rfl (by kernel_rfl) (by kernel_rfl) (by kernel_rfl) (fun _ _ _ h => h) (Or.inr ⟨by kernel_rfl, rfl⟩) ?_
      refine wpAny_take (i := 4) (v := undef) rfl (by kernel_rfl) (by kernel_rfl) (by kernel_rfl) (fun _ _ _ h => h) (Or.inr ⟨by kernel_rfl, rfl⟩) ?_
      refine wpAny_take (i := 5) (v := undef) rfl (by kernel_rfl) (by kernel_rfl) (by kernel_rfl) (fun _ _ _ h => h) (Or.inr ⟨by kernel_rfl, rfl⟩) ?_
      refine wpAny_take (i := 6) (v := undef) rfl (by kernel_rfl) (by kernel_rfl) (by kernel_rfl) (fun _ _ _ h => h) (Or.inr ⟨by kernel_rfl, rfl⟩) ?_
      refine wpAny_take (i := 7) (v := undef) rfl (by kernel_rfl) (by kernel_rfl) (by kernel_rfl) (fun _ _ _ h => h) (Or.inr ⟨by kernel_rfl, rfl⟩) ?_
      refine wpAny_take (i := 8) (v := ?v8) rfl (by kernel_rfl) (by kernel_rfl) (by kernel_rfl) (fun _ _ _ h => h) (Or.inl ⟨by kernel_rfl, ?y8⟩) ?_
      case y8 => intro w; first | (go_simp; done) | (go_simp; with_reducible rfl)
      refine wpAny_take (i := 9) (v := ?v9) rfl (by kernel_rfl) (by kernel_rfl) (by kernel_rfl) (fun _ _ _ h => h) (Or.inl ⟨by kernel_rfl, ?y9⟩) ?_
      case y9 => intro w; first | (go_simp; done) | (go_simp; with_reducible rfl)
      refine wpAny_take (i := 10) (v := ?v10) rfl (by kernel_rfl) (by kernel_rfl) (by kernel_rfl) (fun _ _ _ h => h) (Or.inl ⟨by kernel_rfl, ?y10⟩) ?_
      case y10 => intro w; first | (go_simp; done) | (go_simp; with_reducible rfl)
      refine wpAny_take (i := 11) (v := ?v11) rfl (by kernel_rfl) (by kernel_rfl) (by kernel_rfl) (fun _ _ _ h => h) (Or.inl ⟨by kernel_rfl, ?y11⟩) ?_
      case y11 => intro w; first | (go_simp; done) | (go_simp; with_reducible rfl)
      refine wpAny_take (i := 12) (v := ?v12) rfl (by kernel_rfl) (by kernel_rfl) (by kernel_rfl) (fun _ _ _ h => h) (Or.inl ⟨by kernel_rfl, ?y12⟩) ?_
      case y12 => intro w; first | (go_simp; done) | (go_simp; with_reducible rfl)
      refine wpAny_take (i := 14) (v := ?v14) rfl (by kernel_rfl) (by kernel_rfl) (by kernel_rfl) (fun _ _ _ h => h) (Or.inl ⟨by kernel_rfl, ?y14⟩) ?_
      case y14 => intro w; first | (go_simp; done) | (go_simp; with_reducible rfl)
      refine wpAny_ready (rs := [13]) (by kernel_rfl) (by simp) ?_
      refine AllReady.cons rfl (fun K hK => ?_) AllReady.nil
      go_simp
      go_at_call 22
      refine (Hvs.out wd.drew (Xd.out.below ((Below.refl wd.heap.size wd).drew))).mono ?_
      rintro e wf ⟨rfl, hbf⟩
      have Z3 := Lib.hid (((Below.refl wd.heap.size wd).drew).trans hbf)
      clear hbf
      refine hK _ _ ?_
      clear hK K
      refine wpAny_take (i := 15) (v := ?v15) rfl (by kernel_rfl) (by kernel_rfl) (by kernel_rfl) (fun _ _ _ h => h) (Or.inl ⟨by kernel_rfl, ?y15⟩) ?_
      case y15 => intro w; first | (go_simp; done) | (go_simp; with_reducible rfl)
      refine wpAny_take (i := 16) (v := ?v16) rfl (by kernel_rfl) (by kernel_rfl) (by kernel_rfl) (fun _ _ _ h => h) (Or.inl ⟨by kernel_rfl, ?y16⟩) ?_
      case y16 => intro w; first | (go_simp; done) | (go_simp; with_reducible rfl)
      refine wpAny_take (i := 17) (v := ?v17) rfl (by kernel_rfl) (by kernel_rfl) (by kernel_rfl) (fun _ _ _ h => h) (Or.inl ⟨by kernel_rfl, ?y17⟩) ?_
      case y17 => intro w; first | (go_simp; done) | (go_simp; with_reducible rfl)
      refine wpAny_done (by kernel_rfl) ?_ _
      all_goals
        have Z4 := Z3
        clear heqU
        go_simp
        have B0 := Lib.hid (Bd.out.trans (Z4.out.mono Bd.out.size))
        have L0 := Lib.hid ((Ld.out.below Z4.out).up Z4.out.size)
        clear Z4 Bd Ld
        go_wp2_with fail
        refine (hrA.out _).mono ?_
        rintro e wg ⟨rfl, hbg⟩
        have B1 := Lib.hid (B0.out.trans (hbg.mono B0.out.size))
        have L1 := Lib.hid ((L0.out.below hbg).up hbg.size)
        clear hbg B0 L0
        go_wp2_with fail
        refine (hvx.out _ L1.out).mono ?_
        rintro e wh ⟨rfl, hbh⟩
        have B2 := Lib.hid (B1.out.trans (hbh.mono B1.out.size))
        have L2 := Lib.hid ((L1.out.below hbh).up hbh.size)
        clear hbh B1 L1
        go_wp2_with fail
        refine (hrS.out _).mono ?_
        rintro e wi ⟨vb, rfl, hownb, hbi⟩
        have B3 := Lib.hid (B2.out.trans (hbi.mono B2.out.size))
        have L3 := Lib.hid ((L2.out.below hbi).up hbi.size)
        have K3 := Lib.hid (IL.of_own hownb rfl hxg.out (by omega))
        clear hbi B2 L2 hownb
        go_wp2_with fail
        refine (sI.out _ _ _ _ K3.out L3.out).mono ?_
        rintro e wj ⟨rfl, hbj⟩
        have B4 := Lib.hid (B3.out.trans (hbj.mono B3.out.size))
        clear hbj B3 L3 K3
        go_wp2_with fail
        go_ret
        exact ⟨rfl, B4.out⟩
    · obtain ⟨k, rfl, hk, hva⟩ := rdVal_back Hrd.out rfl
      have heqA : ((varS a).toList == (T.extract 0 k).toList) = true := by rw [hva]; simp
      have hk2 : (k : Int) ≤ T.size := by omega
      clear hva
      go_wp2_with fail
      refine wp_region_any (by kernel_rfl) ?_
      change wpAny _ _ _ _ _ _ _ (World.drew _)
      refine wpAny_take (i := 0) (v := ?v0c) rfl (by kernel_rfl) (by kernel_rfl) (by kernel_rfl) (fun _ _ _ h => h) (Or.inl ⟨by kernel_rfl, ?y0c⟩) ?_
      case y0c => intro w; first | (go_simp; done) | (go_simp; with_reducible rfl)
      refine wpAny_take (i := 1) (v := ?v1c) rfl (by kernel_rfl) (by kernel_rfl) (by kernel_rfl) (fun _ _ _ h => h) (Or.inl ⟨by kernel_rfl, ?y1c⟩) ?_
      case y1c => intro w; first | (go_simp; done) | (go_simp; with_reducible rfl)
      refine wpAny_take (i := 2) (v := ?v2c) rfl (by kernel_rfl) (by kernel_rfl) (by kernel_rfl) (fun _ _ _ h => h) (Or.inl ⟨by kernel_rfl, ?y2c⟩) ?_
      case y2c => intro w; first | (go_simp; done) | (go_simp; with_reducible rfl)
      refine wpAny_take (i := 4) (v := ?v4c) rfl (by kernel_rfl) (by kernel_rfl) (by kernel_rfl) (fun _ _ _ h => h) (Or.inl ⟨by kernel_rfl, ?y4c⟩) ?_
      case y4c => intro w; first | (go_simp; done) | (go_simp; with_reducible rfl)
      refine wpAny_take (i := 5) (v := ?v5c) rfl (by kernel_rfl) (by kernel_rfl) (by kernel_rfl) (fun _ _ _ h => h) (Or.inl ⟨by kernel_rfl, ?y5c⟩) ?_
      case y5c => intro w; first | (go_simp; done) | (go_simp; with_reducible rfl)
      refine wpAny_take (i := 6) (v := ?v6c) rfl (by kernel_rfl) (by kernel_rfl) (by kernel_rfl) (fun _ _ _ h => h) (Or.inl ⟨by kernel_rfl, ?y6c⟩) ?_
      case y6c => intro w; first | (go_simp; done) | (go_simp; with_reducible rfl)
      refine wpAny_ready (rs := [3]) (by kernel_rfl) (by simp) ?_
      refine AllReady.cons rfl (fun K hK => ?_) AllReady.nil
      go_simp
      go_at_call 12
      refine (hvo.out _ _).mono ?_
      rintro e we ⟨rfl, hbe⟩
      have Z2 := Lib.hid (((Below.refl wd.heap.size wd).drew).trans hbe)
      clear hbe
      refine hK _ _ ?_
      clear hK K
      refine wpAny_take (i := 7) (v := ?v7c) rfl (by kernel_rfl) (by kernel_rfl) (by kernel_rfl) (fun _ _ _ h => h) (Or.inl ⟨by kernel_rfl, ?y7c⟩) ?_
      case y7c => intro w; first | (go_simp; done) | (go_simp; with_reducible rfl)
      refine wpAny_take (i := 8) (v := ?v8c) rfl (by kernel_rfl) (by kernel_rfl) (by kernel_rfl) (fun _ _ _ h => h) (Or.inl ⟨by kernel_rfl, ?y8c⟩) ?_
      case y8c => intro w; first | (go_simp; done) | (go_simp; with_reducible rfl)
      refine wpAny_take (i := 9) (v := ?v9c) rfl (by kernel_rfl) (by kernel_rfl) (by kernel_rfl) (fun _ _ _ h => h) (Or.inl ⟨by kernel_rfl, ?y9c⟩) ?_
      case y9c => intro w; first | (go_simp; done) | (go_simp; with_reducible rfl)
      refine wpAny_take (i := 10) (v := ?v10c) rfl (by kernel_rfl) (by kernel_rfl) (by kernel_rfl) (fun _ _ _ h => h) (Or.inl ⟨by kernel_rfl, ?y10c⟩) ?_
      case y10c => intro w; first | (go_simp; done) | (go_simp; with_reducible rfl)
      refine wpAny_take (i := 11) (v := ?v11c) rfl (by kernel_rfl) (by kernel_rfl) (by kernel_rfl) (fun _ _ _ h => h) (Or.inl ⟨by kernel_rfl, ?y11c⟩) ?_
      case y11c => intro w; first | (go_simp; done) | (go_simp; with_reducible rfl)
      refine wpAny_take (i := 12) (v := undef) rfl (by kernel_rfl) (by kernel_rfl) (by kernel_rfl) (fun _ _ _ h => h) (Or.inr ⟨by kernel_rfl, rfl⟩) ?_
      refine wpAny_take (i := 13) (v := undef) rfl (by kernel_rfl) (by kernel_rfl) (by kernel_rfl) (fun _ _ _ h => h) (Or.inr ⟨by kernel_rfl, rfl⟩) ?_
      refine wpAny_take (i := 14) (v := undef) rfl (by kernel_rfl) (by kernel_rfl) (by kernel_rfl) (fun _ _ _ h => h) (Or.inr ⟨by kernel_rfl, rfl⟩) ?_
      refine wpAny_take (i := 15) (v := undef) rfl (by kernel_rfl) (by kernel_rfl) (by kernel_rfl) (fun _ _ _ h => h) (Or.inr ⟨by kernel_rfl, rfl⟩) ?_
      refine wpAny_take (i := 16) (v := ?v16c) rfl (by kernel_rfl) (by kernel_rfl) (by kernel_rfl) (fun _ _ _ h => h) (Or.inl ⟨by kernel_rfl, ?y16c⟩) ?_
      case y16c => intro w; first | (go_simp; done) | (go_simp; with_reducible rfl)
      refine wpAny_take (i := 17) (v := ?v17c) rfl (by kernel_rfl) (by kernel_rfl) (by kernel_rfl) (fun _ _ _ h => h) (Or.inl ⟨by kernel_rfl, ?y17c⟩) ?_
      case y17c => intro w; first | (go_simp; done) | (go_simp; with_reducible rfl)
      refine wpAny_done (by kernel_rfl) ?_ _
      all_goals
        have Z4 := Z2
        clear heqA
        go_simp
        have B0 := Lib.hid (Bd.out.trans (Z4.out.mono Bd.out.size))
        have L0 := Lib.hid ((Ld.out.below Z4.out).up Z4.out.size)
        clear Z4 Bd Ld
        go_wp2_with fail
        refine (hrA.out _).mono ?_
        rintro e wg ⟨rfl, hbg⟩
        have B1 := Lib.hid (B0.out.trans (hbg.mono B0.out.size))
        have L1 := Lib.hid ((L0.out.below hbg).up hbg.size)
        clear hbg B0 L0
        go_wp2_with fail
        refine (hvx.out _ L1.out).mono ?_
        rintro e wh ⟨rfl, hbh⟩
        have B2 := Lib.hid (B1.out.trans (hbh.mono B1.out.size))
        have L2 := Lib.hid ((L1.out.below hbh).up hbh.size)
        clear hbh B1 L1
        go_wp2_with fail
        refine (hrS.out _).mono ?_
        rintro e wi ⟨vb, rfl, hownb, hbi⟩
        have B3 := Lib.hid (B2.out.trans (hbi.mono B2.out.size))
        have L3 := Lib.hid ((L2.out.below hbi).up hbi.size)
        have K3 := Lib.hid (IL.of_own hownb rfl hxg.out (by omega))
        clear hbi B2 L2 hownb
        go_wp2_with fail
        refine (sI.out _ _ _ _ K3.out L3.out).mono ?_
        rintro e wj ⟨rfl, hbj⟩
        have B4 := Lib.hid (B3.out.trans (hbj.mono B3.out.size))
        clear hbj B3 L3 K3
        go_wp2_with fail
        go_ret
        exact ⟨rfl, B4.out⟩
    · obtain ⟨k, rfl, hk, hva⟩ := rdVal_back Hrd.out rfl
      have heqA : ((varS a).toList == (T.extract 0 k).toList) = true := by rw [hva]; simp
      have heqU : (S2.toList == U.toList) = true := by rw [HS2.out, hyb.out rfl]; simp
      have hk2 : (k : Int) ≤ T.size := by omega
      clear hva
      go_wp2_with fail
      refine wp_region_any (by kernel_rfl) ?_
      change wpAny _ _ _ _ _ _ _ (World.drew _)
      refine wpAny_take (i := 0) (v := ?v0d) rfl (by kernel_rfl) (by kernel_rfl) (by kernel_rfl) (fun _ _ _ h => h) (Or.inl ⟨by kernel_rfl, ?y0d⟩) ?_
      case y0d => intro w; first | (go_simp; done) | (go_simp; with_reducible rfl)
      refine wpAny_take (i := 1) (v := ?v1d) rfl (by kernel_rfl) (by kernel_rfl) (by kernel_rfl) (fun _ _ _ h => h) (Or.inl ⟨by kernel_rfl, ?y1d⟩) ?_
      case y1d => intro w; first | (go_simp; done) | (go_simp; with_reducible rfl)
      refine wpAny_take (i := 2) (v := ?v2d) rfl (by kernel_rfl) (by kernel_rfl) (by kernel_rfl) (fun _ _ _ h => h) (Or.inl ⟨by kernel_rfl, ?y2d⟩) ?_
      case y2d => intro w; first | (go_simp; done) | (go_simp; with_reducible rfl)
      refine wpAny_take (i := 4) (v := ?v4d) rfl (by kernel_rfl) (by kernel_rfl) (by kernel_rfl) (fun _ _ _ h => h) (Or.inl ⟨by kernel_rfl, ?y4d⟩) ?_
      case y4d => intro w; first | (go_simp; done) | (go_simp; with_reducible rfl)
      refine wpAny_take (i := 5) (v := ?v5d) rfl (by kernel_rfl) (by kernel_rfl) (by kernel_rfl) (fun _ _ _ h => h) (Or.inl ⟨by kernel_rfl, ?y5d⟩) ?_
      case y5d => intro w; first | (go_simp; done) | (go_simp; with_reducible rfl)
      refine wpAny_take (i := 6) (v := ?v6d) rfl (by kernel_rfl) (by kernel_rfl) (by kernel_rfl) (fun _ _ _ h => h) (Or.inl ⟨by kernel_rfl, ?y6d⟩) ?_
      case y6d => intro w; first | (go_simp; done) | (go_simp; with_reducible rfl)
      refine wpAny_ready (rs := [3]) (by kernel_rfl) (by simp) ?_
      refine AllReady.cons rfl (fun K hK => ?_) AllReady.nil
      go_simp
      go_at_call 12
      refine (hvo.out _ _).mono ?_
      rintro e we ⟨rfl, hbe⟩
      have Z2 := Lib.hid (((Below.refl wd.heap.size wd).drew).trans hbe)
      clear hbe
      refine hK _ _ ?_
      clear hK K
      refine wpAny_take (i := 7) (v := ?v7d) rfl (by kernel_rfl) (by kernel_rfl) (by kernel_rfl) (fun _ _ _ h => h) (Or.inl ⟨by kernel_rfl, ?y7d⟩) ?_
      case y7d => intro w; first | (go_simp; done) | (go_simp; with_reducible rfl)
      refine wpAny_take (i := 8) (v := ?v8d) rfl (by kernel_rfl) (by kernel_rfl) (by kernel_rfl) (fun _ _ _ h => h) (Or.inl ⟨by kernel_rfl, ?y8d⟩) ?_
      case y8d => intro w; first | (go_simp; done) | (go_simp; with_reducible rfl)
      refine wpAny_take (i := 9) (v := ?v9d) rfl (by kernel_rfl) (by kernel_rfl) (by kernel_rfl) (fun _ _ _ h => h) (Or.inl ⟨by kernel_rfl, ?y9d⟩) ?_
      case y9d => intro w; first | (go_simp; done) | (go_simp; with_reducible rfl)
      refine wpAny_take (i := 10) (v := ?v10d) rfl (by kernel_rfl) (by kernel_rfl) (by kernel_rfl) (fun _ _ _ h => h) (Or.inl ⟨by kernel_rfl, ?y10d⟩) ?_
      case y10d => intro w; first | (go_simp; done) | (go_simp; with_reducible rfl)
      refine wpAny_take (i := 11) (v := ?v11d) rfl (by kernel_rfl) (by kernel_rfl) (by kernel_rfl) (fun _ _ _ h => h) (Or.inl ⟨by kernel_rfl, ?y11d⟩) ?_
      case y11d => intro w; first | (go_simp; done) | (go_simp; with_reducible rfl)
      refine wpAny_take (i := 12) (v := ?v12d) rfl (by kernel_rfl) (by kernel_rfl) (by kernel_rfl) (fun _ _ _ h => h) (Or.inl ⟨by kernel_rfl, ?y12d⟩) ?_
      case y12d => intro w; first | (go_simp; done) | (go_simp; with_reducible rfl)
      refine wpAny_take (i := 14) (v := ?v14d) rfl (by kernel_rfl) (by kernel_rfl) (by kernel_rfl) (fun _ _ _ h => h) (Or.inl ⟨by kernel_rfl, ?y14d⟩) ?_
      case y14d => intro w; first | (go_simp; done) | (go_simp; with_reducible rfl)
      refine wpAny_ready (rs := [13]) (by kernel_rfl) (by simp) ?_
      refine AllReady.cons rfl (fun K hK => ?_) AllReady.nil
      go_simp
      go_at_call 22
      refine (Hvs.out we ((Xd.out.below Z2.out).up Z2.out.size)).mono ?_
      rintro e wf ⟨rfl, hbf⟩
      have Z3 := Lib.hid (Z2.out.trans (hbf.mono Z2.out.size))
      clear hbf
      refine hK _ _ ?_
      clear hK K
      refine wpAny_take (i := 15) (v := ?v15d) rfl (by kernel_rfl) (by kernel_rfl) (by kernel_rfl) (fun _ _ _ h => h) (Or.inl ⟨by kernel_rfl, ?y15d⟩) ?_
      case y15d => intro w; first | (go_simp; done) | (go_simp; with_reducible rfl)
      refine wpAny_take (i := 16) (v := ?v16d) rfl (by kernel_rfl) (by kernel_rfl) (by kernel_rfl) (fun _ _ _ h => h) (Or.inl ⟨by kernel_rfl, ?y16d⟩) ?_
      case y16d => intro w; first | (go_simp; done) | (go_simp; with_reducible rfl)
      refine wpAny_take (i := 17) (v := ?v17d) rfl (by kernel_rfl) (by kernel_rfl) (by kernel_rfl) (fun _ _ _ h => h) (Or.inl ⟨by kernel_rfl, ?y17d⟩) ?_
      case y17d => intro w; first | (go_simp; done) | (go_simp; with_reducible rfl)
      refine wpAny_done (by kernel_rfl) ?_ _
      all_goals
        have Z4 := Z3
        clear heqA heqU
        go_simp
        have B0 := Lib.hid (Bd.out.trans (Z4.out.mono Bd.out.size))
        have L0 := Lib.hid ((Ld.out.below Z4.out).up Z4.out.size)
        clear Z4 Bd Ld
        go_wp2_with fail
        refine (hrA.out _).mono ?_
        rintro e wg ⟨rfl, hbg⟩
        have B1 := Lib.hid (B0.out.trans (hbg.mono B0.out.size))
        have L1 := Lib.hid ((L0.out.below hbg).up hbg.size)
        clear hbg B0 L0
        go_wp2_with fail
        refine (hvx.out _ L1.out).mono ?_
        rintro e wh ⟨rfl, hbh⟩
        have B2 := Lib.hid (B1.out.trans (hbh.mono B1.out.size))
        have L2 := Lib.hid ((L1.out.below hbh).up hbh.size)
        clear hbh B1 L1
        go_wp2_with fail
        refine (hrS.out _).mono ?_
        rintro e wi ⟨vb, rfl, hownb, hbi⟩
        have B3 := Lib.hid (B2.out.trans (hbi.mono B2.out.size))
        have L3 := Lib.hid ((L2.out.below hbi).up hbi.size)
        have K3 := Lib.hid (IL.of_own hownb rfl hxg.out (by omega))
        clear hbi B2 L2 hownb
        go_wp2_with fail
        refine (sI.out _ _ _ _ K3.out L3.out).mono ?_
        rintro e wj ⟨rfl, hbj⟩
        have B4 := Lib.hid (B3.out.trans (hbj.mono B3.out.size))
        clear hbj B3 L3 K3
        go_wp2_with fail
        go_ret
        exact ⟨rfl, B4.out⟩
  · have hd : decide (1048576 < (n : Int)) = true := by simp; omega
    rw [hd] at hbig
    have Hbig := Lib.hid hbig
    clear hbig hd h
    go_enter Try.func3, Try.ntmps3
    go_wp2_with fail
    refine (Hbig.out _).mono ?_
    rintro e w' ⟨rfl, rfl⟩
    go_wp2_with fail
    go_ret
    exact ⟨rfl, Below.refl _ _⟩
end Go.Proofs.Ytpnfkmhhilnglab
