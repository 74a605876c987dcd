/- Walks: the law FnRolls. -/
import Derived.Test.YthmkjenamnmbiabXh
set_option linter.unusedVariables false
set_option linter.unusedSimpArgs false
namespace Go.Proofs.Ythmkjenamnmbiab
open Go.RowKit

def cntT (l : List (Int × Int)) (W : Int) (R : List R6) (j : Nat) : Nat := ((R.take j).map (fun r => (btwL l r.1 (r.1 + W)).length)).sum
theorem cntT_succ (l : List (Int × Int)) (W : Int) {R : List R6} {j : Nat} (h : j < R.length) : cntT l W R (j + 1) = cntT l W R j + (btwL l (R.getD j z6).1 ((R.getD j z6).1 + W)).length := by
  unfold cntT
  rw [List.take_add_one, List.getElem?_eq_getElem h, List.map_append, List.sum_append, List.getD_eq_getElem?_getD, List.getElem?_eq_getElem h]
  simp
theorem cntT_le (l : List (Int × Int)) (W : Int) (R : List R6) : ∀ j, cntT l W R j ≤ j * l.length := by
  intro j
  induction j with
  | zero => simp [cntT]
  | succ j ih =>
    by_cases h : j < R.length
    · rw [cntT_succ l W h, Nat.add_mul, Nat.one_mul]
      have := (btwL_sub l (R.getD j z6).1 ((R.getD j z6).1 + W)).length_le
      omega
    · unfold cntT at ih ⊢
      rw [List.take_of_length_le (by omega)] at ih ⊢
      rw [Nat.add_mul]; omega
def mnT (p : List (Int × Int)) (k : Nat) : Int := (p.take k).foldl (fun s q => min s q.2) (p.getD 0 (0, 0)).2
def mxT (p : List (Int × Int)) (k : Nat) : Int := (p.take k).foldl (fun s q => max s q.2) (p.getD 0 (0, 0)).2
theorem take_snoc {p : List (Int × Int)} {k : Nat} (h : k < p.length) : p.take (k + 1) = p.take k ++ [p.getD k (0, 0)] := by
  rw [List.take_add_one, List.getElem?_eq_getElem h, List.getD_eq_getElem?_getD, List.getElem?_eq_getElem h]; rfl
theorem mnT_succ {p : List (Int × Int)} {k : Nat} (h : k < p.length) : mnT p (k + 1) = min (mnT p k) (p.getD k (0, 0)).2 := by unfold mnT; rw [take_snoc h, List.foldl_append]; rfl
theorem mxT_succ {p : List (Int × Int)} {k : Nat} (h : k < p.length) : mxT p (k + 1) = max (mxT p k) (p.getD k (0, 0)).2 := by unfold mxT; rw [take_snoc h, List.foldl_append]; rfl
theorem suT_succ {p : List (Int × Int)} {k : Nat} (h : k < p.length) : sumP (p.take (k + 1)) = sumP (p.take k) + (p.getD k (0, 0)).2 := by rw [take_snoc h, sumP_snoc]

set_option maxRecDepth 100000 in
set_option maxHeartbeats 16000000 in
theorem walkFnRolls (A : Option Addr) (n c : Nat) (w : World) (h : n ≤ 1048576 → CodeAt w A n c) :
    Calls Try.prog 8 #[.slice A n c] w fun e w' => e = .returned (.bool true) ∧ Below w.heap.size w w' := by
  have hbig := fun W => big_any A n c W
  by_cases hb : (n : Int) ≤ 1048576
  · have hd : decide (1048576 < (n : Int)) = false := by simp; omega
    rw [hd] at hbig
    have Hbig := Lib.hid hbig
    have hdraw := Lib.hid (fun W h => DrawRollsOf_any A n c W h)
    have hdraw2 := Lib.hid (fun W h => DrawRollsOk_any A n c W h)
    have hcode := Lib.hid (h (by omega))
    clear hbig hd h
    have hsame := Lib.hid (fun v u ys W h h' => sameRolls_any v u ys W h h')
    have hio := Lib.hid (fun v xs W w h => implRollsOk_any v xs W w h)
    have hso := Lib.hid (fun v xs W w h => specRollsOk_any v xs W w h)
    go_enter Try.func8, Try.ntmps8
    go_wp2_with fail
    refine (Hbig.out _).mono ?_
    rintro e w' ⟨rfl, rfl⟩
    go_wp2_with fail
    refine (hdraw.out _ hcode.out).mono ?_
    rintro e w1 ⟨u, ps, W, rfl, hown1, hpl, hpr, hrW, hb1⟩
    have B1 := Lib.hid hb1
    have P1 := Lib.hid (PL.of_own hown1 rfl (prng_of hpr) (by omega))
    have HP := Lib.hid hpr
    clear hb1 hown1 hpr hdraw Hbig
    have him := Lib.hid (fun W' h => implRollsOf_any u ps W W' h)
    have hsp := Lib.hid (fun W' h => specRollsOf_any u ps W W' h)
    have hok := rollsM_ok ps W (prng_of HP.out) (by omega)
    have YR := Lib.hid hok.1
    have hyl := hok.2
    clear hok
    obtain ⟨fb, hfb⟩ : ∃ fb, fb = rollsB ps W := ⟨_, rfl⟩
    obtain ⟨ys, hys⟩ : ∃ ys, ys = rollsM ps W := ⟨_, rfl⟩
    rw [← hfb, ← hys] at him hsp
    rw [← hys] at YR hyl
    have HFB := Lib.hid hfb
    have HYS := Lib.hid hys
    clear hfb hys
    go_wp2_with fail
    refine (him.out _ P1.out).mono ?_
    rintro e w2 ⟨v2, rfl, hown2, hb2⟩
    have R2 := Lib.hid (RL.of_own hown2 rfl YR.out hyl)
    have B2 := Lib.hid (B1.out.trans (hb2.mono B1.out.size))
    have P2 := Lib.hid ((P1.out.below hb2).up hb2.size)
    clear hown2 hb2 P1
    go_wp2_with fail
    refine (hsp.out _ P2.out).mono ?_
    rintro e w3 ⟨v3, rfl, hown3, hb3⟩
    have R3 := Lib.hid ((R2.out.below hb3).up hb3.size)
    have Q3 := Lib.hid (RL.of_own hown3 rfl YR.out hyl)
    have B3 := Lib.hid (B2.out.trans (hb3.mono B2.out.size))
    have P3 := Lib.hid ((P2.out.below hb3).up hb3.size)
    have C3 := Lib.hid (hcode.out.below B3.out)
    clear hown3 hb3 R2 P2 B2 B1
    go_wp2_with fail
    refine (hdraw2.out _ C3.out).mono ?_
    rintro e w4 ⟨vx, xs, V, rfl, hown4, hxl, hrr, hV1, hV2, hb4⟩
    have R4 := Lib.hid ((R3.out.below hb4).up hb4.size)
    have Q4 := Lib.hid ((Q3.out.below hb4).up hb4.size)
    have X4 := Lib.hid (RL.of_own hown4 rfl (rrs_getD hrr) (by omega))
    have B4 := Lib.hid (B3.out.trans (hb4.mono B3.out.size))
    have P4 := Lib.hid ((P3.out.below hb4).up hb4.size)
    clear hown4 hb4 R3 P3 B3 Q3 C3 hrr hdraw2 hcode
    obtain ⟨ob, hob⟩ : ∃ ob, ob = rollsOkB xs V := ⟨_, rfl⟩
    have hio2 := Lib.hid (fun v W' h => hio.out v xs V W' h)
    have hso2 := Lib.hid (fun v W' h => hso.out v xs V W' h)
    rw [← hob] at hio2 hso2
    clear hob
    go_wp2_with fail
    refine (hsame.out _ _ _ _ R4.out Q4.out).mono ?_
    rintro e w5 ⟨rfl, hb5⟩
    have R5 := Lib.hid ((R4.out.below hb5).up hb5.size)
    have Q5 := Lib.hid ((Q4.out.below hb5).up hb5.size)
    have X5 := Lib.hid ((X4.out.below hb5).up hb5.size)
    have B5 := Lib.hid (B4.out.trans (hb5.mono B4.out.size))
    have P5 := Lib.hid ((P4.out.below hb5).up hb5.size)
    clear hb5 R4 P4 B4 Q4 X4
    go_wp2_with fail
    refine (hio2.out _ _ X5.out).mono ?_
    rintro e w6 ⟨rfl, hb6⟩
    have R6x := Lib.hid ((R5.out.below hb6).up hb6.size)
    have Q6 := Lib.hid ((Q5.out.below hb6).up hb6.size)
    have X6 := Lib.hid ((X5.out.below hb6).up hb6.size)
    have B6 := Lib.hid (B5.out.trans (hb6.mono B5.out.size))
    have P6 := Lib.hid ((P5.out.below hb6).up hb6.size)
    clear hb6 R5 P5 B5 Q5 X5
    go_wp2_with fail
    refine (hso2.out _ _ X6.out).mono ?_
    rintro e w7 ⟨rfl, hb7⟩
    have R7 := Lib.hid ((R6x.out.below hb7).up hb7.size)
    have Q7 := Lib.hid ((Q6.out.below hb7).up hb7.size)
    have X7 := Lib.hid ((X6.out.below hb7).up hb7.size)
    have B7 := Lib.hid (B6.out.trans (hb7.mono B6.out.size))
    have P7 := Lib.hid ((P6.out.below hb7).up hb7.size)
    clear hb7 R6x P6 B6 Q6 X6
    cases fb with
    | false =>
      cases ob
      all_goals
        go_wp2_with fail
        refine (hsame.out _ _ _ _ R7.out Q7.out).mono ?_
        rintro e w8 ⟨rfl, hb8⟩
        have X8 := Lib.hid ((X7.out.below hb8).up hb8.size)
        have B8 := Lib.hid (B7.out.trans (hb8.mono B7.out.size))
        clear hb8
        go_wp2_with fail
        refine (hio2.out _ _ X8.out).mono ?_
        rintro e w9 ⟨rfl, hb9⟩
        have X9 := Lib.hid ((X8.out.below hb9).up hb9.size)
        have B9 := Lib.hid (B8.out.trans (hb9.mono B8.out.size))
        clear hb9
        go_wp2_with fail
        refine (hso2.out _ _ X9.out).mono ?_
        rintro e w10 ⟨rfl, hb10⟩
        have B10 := Lib.hid (B9.out.trans (hb10.mono B9.out.size))
        clear hb10
        go_wp2_with fail
        go_ret
        exact ⟨rfl, B10.out⟩
    | true =>
      have hfb := HFB.out
      have hps : ptsSmB ps = true := by unfold rollsB at hfb; have := hfb.symm; rw [Bool.and_eq_true] at this; exact this.1
      have hwd : wdB W = true := by unfold rollsB at hfb; have := hfb.symm; rw [Bool.and_eq_true] at this; exact this.2
      obtain ⟨hW1, hW2⟩ := wdB_in hwd
      have hpk := ptsSmB_ok' hps
      obtain rfl : ys = rollsL ps W := by rw [HYS.out]; unfold rollsM; rw [if_pos ⟨hps, hwd⟩]
      obtain ⟨s1, _, s3⟩ := rolls_struct W hW1 ps.length ps rfl (by omega) (pts_pairwise hpk) (pts_mem hpk) (ptsSm_mem hps)
      have S1 := Lib.hid s1
      have S3 : Hid (cntT ps W (rollsL ps W) (rollsL ps W).length = ps.length) := Lib.hid (by unfold cntT; rw [List.take_length]; exact s3)
      have HVal := Lib.hid (rollsL_valid hps hwd)
      have HSm := Lib.hid (ptsSm_mem hps)
      have hbt := Lib.hid (fun f t W h => implBetween_any u ps f t W h)
      have HBM : Hid (∀ f t, btwM ps f t = btwL ps f t) := Lib.hid (fun f t => by unfold btwM; rw [if_pos hpk])
      have HCL := Lib.hid (cntT_le ps W (rollsL ps W))
      have HCS := Lib.hid (fun j h => cntT_succ ps W (R := rollsL ps W) (j := j) h)
      have hRl := rollsL_len ps W
      have hio3 := Lib.hid (fun v W' h => hio.out v (rollsL ps W) W W' h)
      clear hfb hps hwd hpk s1 s3 HFB HYS
      obtain ⟨_, _, Ar, cr, hvr, hcr⟩ := R7.out
      obtain ⟨_, _, Ap, cp, hvp, hcp⟩ := P7.out
      subst hvr hvp
      have hs7 := B7.out.size
      cases ob
      all_goals
        go_wp2_with fail
        go_loopw [11, 12] (fun mm i wr => ∃ (j : Nat), j ≤ (rollsL ps W).length ∧ i = .int .i64 j ∧ mm = .int .i64 ((cntT ps W (rollsL ps W) j : Nat) : Int) ∧ Hid (Below w7.heap.size w7 wr)) (fun _ i _ => (rollsL ps W).length - (intOf i).toNat)
        case atStart => exact ⟨0, Nat.zero_le _, rfl, rfl, Lib.hid (Below.refl _ _)⟩
        case round =>
          obtain ⟨j, hj, rfl, rfl, HD⟩ := hrel
          by_cases hlt : j < (rollsL ps W).length
          · rcases hcr with hcr | ⟨br, or, rfl, hbr, hcr⟩
            · rw [hcr] at hlt; simp at hlt
            have hx0 : wr.cell? ⟨br, or + j * 6, none⟩ = some (.int .i64 ((rollsL ps W).getD j z6).1) := (HD.out.cell (p := ⟨br, or + j * 6, none⟩) hbr).trans (hcr j hlt).1
            have hx1 : wr.cell? ⟨br, or + j * 6 + 1, none⟩ = some (.int .i64 ((rollsL ps W).getD j z6).2.1) := (HD.out.cell (p := ⟨br, or + j * 6 + 1, none⟩) hbr).trans (hcr j hlt).2.1
            have hx2 : wr.cell? ⟨br, or + j * 6 + 2, none⟩ = some (.int .i64 ((rollsL ps W).getD j z6).2.2.1) := (HD.out.cell (p := ⟨br, or + j * 6 + 2, none⟩) hbr).trans (hcr j hlt).2.2.1
            have hx3 : wr.cell? ⟨br, or + j * 6 + 3, none⟩ = some (.int .i64 ((rollsL ps W).getD j z6).2.2.2.1) := (HD.out.cell (p := ⟨br, or + j * 6 + 3, none⟩) hbr).trans (hcr j hlt).2.2.2.1
            have hx4 : wr.cell? ⟨br, or + j * 6 + 4, none⟩ = some (.int .i64 ((rollsL ps W).getD j z6).2.2.2.2.1) := (HD.out.cell (p := ⟨br, or + j * 6 + 4, none⟩) hbr).trans (hcr j hlt).2.2.2.2.1
            have hx5 : wr.cell? ⟨br, or + j * 6 + 5, none⟩ = some (.int .i64 ((rollsL ps W).getD j z6).2.2.2.2.2) := (HD.out.cell (p := ⟨br, or + j * 6 + 5, none⟩) hbr).trans (hcr j hlt).2.2.2.2.2
            clear hcr
            have hmem : (rollsL ps W).getD j z6 ∈ rollsL ps W := by
              rw [List.getD_eq_getElem?_getD, List.getElem?_eq_getElem hlt]; exact List.getElem_mem hlt
            obtain ⟨j1, j2, j3, j4, j5⟩ := S1.out _ hmem
            have hCS := HCS.out j hlt
            have hCL := HCL.out j
            clear hmem
            obtain ⟨T, hT⟩ : ∃ T, T = ((rollsL ps W).getD j z6).1 := ⟨_, rfl⟩
            rw [← hT] at j1 j2 j3 j4 j5 hx0 hCS
            obtain ⟨g, hg⟩ : ∃ g, g = btwL ps T (T + W) := ⟨_, rfl⟩
            have hgs : g.Sublist ps := by rw [hg]; exact btwL_sub _ _ _
            rw [← hg] at j1 j2 hCS
            rw [j1] at hx1 hx2 hx3 hx4 hx5
            have HG := Lib.hid hg
            have hgl := hgs.length_le
            have hgp : 0 < g.length := List.length_pos_iff.2 j2
            have HGS := Lib.hid (fun q hq => HSm.out q (hgs.subset hq))
            have HGR := Lib.hid (fun q hq => HP.out q (hgs.subset hq))
            clear j1 j2 hT hg hgs
            simp only [rlOf] at hx1 hx2 hx3 hx4 hx5
            have eT : IntKind.i64.wrap (T + W) = T + W := IntWalk.i64_in _ (by omega)
            obtain ⟨M, hM⟩ : ∃ M, M = cntT ps W (rollsL ps W) j := ⟨_, rfl⟩
            rw [← hM] at hCS hCL ⊢
            have hMb : M ≤ 10 * 10 := Nat.le_trans hCL (Nat.mul_le_mul (by omega) (by omega))
            have HCSj := Lib.hid hCS
            clear hM hCS hCL
            have Pd := Lib.hid ((P7.out.below HD.out).up HD.out.size)
            have hszD := HD.out.size
            have hmi : 0 ≤ T + W := by omega
            have hbtj := Lib.hid (fun W' h => hbt.out T (T + W) W' h)
            rw [HBM.out, ← HG.out] at hbtj
            clear j3
            obtain ⟨sg, hsg⟩ : ∃ sg, sg = sumP g := ⟨_, rfl⟩
            obtain ⟨mg, hmg⟩ : ∃ mg, mg = minP g := ⟨_, rfl⟩
            obtain ⟨xg, hxg⟩ : ∃ xg, xg = maxP g := ⟨_, rfl⟩
            obtain ⟨lg, hlg⟩ : ∃ lg, lg = lasP g := ⟨_, rfl⟩
            rw [← hsg] at hx2
            rw [← hmg] at hx3
            rw [← hxg] at hx4
            rw [← hlg] at hx5
            have HSG := Lib.hid hsg
            have HMG := Lib.hid hmg
            have HXG := Lib.hid hxg
            have HLG := Lib.hid hlg
            clear hsg hmg hxg hlg
            go_wp2_with fail
            go_region_law (go_simp; go_at_call 31; refine (hbtj.out _ (by first | exact Pd.out | exact PL.below Pd.out (below_drewN_u (Below.refl _ _) 1))).mono ?_; rintro e w8 ⟨vp, rfl, hown8, hb8⟩; have hD8 := HD.out.trans ((show Below wr.heap.size wr w8 from ⟨hb8.os, hb8.tape, hb8.output, hb8.size, hb8.block⟩).mono hszD); have HD8 := Lib.hid hD8; have Pg := Lib.hid (PL.of_own hown8 rfl (prng_of HGR.out) (by omega)); have z0 := (hb8.cell (p := ⟨br, or + j * 6, none⟩) (by have := hszD; simp; omega)).trans hx0; have z1 := (hb8.cell (p := ⟨br, or + j * 6 + 1, none⟩) (by have := hszD; simp; omega)).trans hx1; have z2 := (hb8.cell (p := ⟨br, or + j * 6 + 2, none⟩) (by have := hszD; simp; omega)).trans hx2; have z3 := (hb8.cell (p := ⟨br, or + j * 6 + 3, none⟩) (by have := hszD; simp; omega)).trans hx3; have z4 := (hb8.cell (p := ⟨br, or + j * 6 + 4, none⟩) (by have := hszD; simp; omega)).trans hx4; have z5 := (hb8.cell (p := ⟨br, or + j * 6 + 5, none⟩) (by have := hszD; simp; omega)).trans hx5; clear hown8 hb8 hD8 hx0 hx1 hx2 hx3 hx4 hx5)
            all_goals
              go_simp
              obtain ⟨_, _, Ag, cg, hvg, hcg⟩ := Pg.out
              subst hvg
              rcases hcg with hcg | ⟨bg, og, rfl, hbg, hcg⟩
              · rw [hcg] at hgp; simp at hgp
              have ylast : w8.cell? ⟨bg, og + (g.length - 1) * 2 + 1, none⟩ = some (.int .i64 lg) := by rw [HLG.out]; exact (hcg (g.length - 1) (by omega)).2
              have yfirst : w8.cell? ⟨bg, og + 1, none⟩ = some (.int .i64 (g.getD 0 (0, 0)).2) := by have := (hcg 0 hgp).2; simpa using this
              have HCG := Lib.hid hcg
              clear hcg Pg
              have hne0 : ((g.length : Int) == 0) = false := beq_eq_false_iff_ne.2 (by omega)
              have hne0' : ¬ g.length = 0 := by omega
              have el : IntKind.i64.wrap ((g.length : Int) - 1) = (g.length : Int) - 1 := IntWalk.i64_in _ (by omega)
              have el2 : (0 : Int) ≤ (g.length : Int) - 1 := by omega
              have el2' : (1 : Int) ≤ (g.length : Int) := by omega
              have el3 : ((g.length : Int) - 1).toNat = g.length - 1 := by omega
              have el4 : (g.length : Int) - 1 < (g.length : Int) := by omega
              obtain ⟨f0, hf0⟩ : ∃ f0, f0 = (g.getD 0 (0, 0)).2 := ⟨_, rfl⟩
              rw [← hf0] at yfirst
              have HF0 := Lib.hid hf0
              clear hf0
              go_wp2_with fail
              go_quiet (fail)
              clear el el2 el2' el3 el4 hne0 hne0'
              go_wp2_with fail
              go_loopw [14, 15, 16, 17] (fun su mi ma kk wv => ∃ k : Nat, k ≤ g.length ∧ kk = .int .i64 k ∧ su = .int .i64 (sumP (g.take k)) ∧ mi = .int .i64 (mnT g k) ∧ ma = .int .i64 (mxT g k) ∧ wv = w8.drewN nq) (fun _ _ _ kk _ => g.length - (intOf kk).toNat)
              case atStart => exact ⟨0, Nat.zero_le _, rfl, rfl, by rw [HF0.out]; rfl, by rw [HF0.out]; rfl, rfl⟩
              case round =>
                obtain ⟨k, hk, rfl, rfl, rfl, rfl, rfl⟩ := hrel
                by_cases hkl : k < g.length
                · have hy := (HCG.out k hkl).2
                  have E1 := Lib.hid (suT_succ hkl)
                  have E2 := Lib.hid (mnT_succ hkl)
                  have E3 := Lib.hid (mxT_succ hkl)
                  have hsr := sum_rng (p := g.take (k + 1)) (by rw [List.length_take]; omega) (fun q hq => HGS.out q (List.mem_of_mem_take hq))
                  rw [E1.out] at hsr
                  generalize (g.getD k (0, 0)).2 = y at *
                  generalize sumP (g.take k) = s0 at *
                  generalize mnT g k = m1 at *
                  generalize mxT g k = m2 at *
                  have es : IntKind.i64.wrap (s0 + y) = s0 + y := IntWalk.i64_in _ (by omega)
                  clear hsr
                  by_cases hmn : y < m1
                  · by_cases hmx : m2 < y
                    · go_wp2_with fail
                      go_roundw
                      case rel => exact ⟨k + 1, by omega, by go_num, by rw [E1.out], by rw [E2.out, show min m1 y = y by omega], by rw [E3.out, show max m2 y = y by omega], by first | rfl | trivial⟩
                      case measure => simp [intOf]; omega
                    · have hmx' : y ≤ m2 := by omega
                      go_wp2_with fail
                      go_roundw
                      case rel => exact ⟨k + 1, by omega, by go_num, by rw [E1.out], by rw [E2.out, show min m1 y = y by omega], by rw [E3.out, show max m2 y = m2 by omega], by first | rfl | trivial⟩
                      case measure => simp [intOf]; omega
                  · have hmn' : m1 ≤ y := by omega
                    by_cases hmx : m2 < y
                    · go_wp2_with fail
                      go_roundw
                      case rel => exact ⟨k + 1, by omega, by go_num, by rw [E1.out], by rw [E2.out, show min m1 y = m1 by omega], by rw [E3.out, show max m2 y = y by omega], by first | rfl | trivial⟩
                      case measure => simp [intOf]; omega
                    · have hmx' : y ≤ m2 := by omega
                      go_wp2_with fail
                      go_roundw
                      case rel => exact ⟨k + 1, by omega, by go_num, by rw [E1.out], by rw [E2.out, show min m1 y = m1 by omega], by rw [E3.out, show max m2 y = m2 by omega], by first | rfl | trivial⟩
                      case measure => simp [intOf]; omega
                · obtain rfl : k = g.length := by omega
                  have e1 : sumP (g.take g.length) = sg := by rw [List.take_length, HSG.out]
                  have e2 : mnT g g.length = mg := by unfold mnT; rw [List.take_length, HMG.out]; rfl
                  have e3 : mxT g g.length = xg := by unfold mxT; rw [List.take_length, HXG.out]; rfl
                  rw [e1, e2, e3]
                  have em : IntKind.i64.wrap ((M : Int) + (g.length : Int)) = (M : Int) + (g.length : Int) := IntWalk.i64_in _ (by omega)
                  clear e1 e2 e3
                  go_wp2_with fail
                  go_roundw
                  case rel => exact ⟨j + 1, by omega, by go_num, by rw [HCSj.out]; push_cast; rfl, Lib.hid (below_drewN_u HD8.out _)⟩
                  case measure => simp [intOf]; omega
          · obtain rfl : j = (rollsL ps W).length := by omega
            rw [S3.out]
            have Rz := Lib.hid ((R7.out.below HD.out).up HD.out.size)
            have Bz := Lib.hid (B7.out.trans (HD.out.mono hs7))
            clear R7 B7 HD P7 X7 Q7 S1 HCS HCL
            rw [HVal.out] at hio3
            clear hcr hcp
            go_wp2_with fail
            refine (hio3.out _ _ Rz.out).mono ?_
            rintro e w8 ⟨rfl, hb8⟩
            have B8 := Lib.hid (Bz.out.trans (hb8.mono Bz.out.size))
            clear hb8
            go_wp2_with fail
            go_ret
            exact ⟨rfl, B8.out⟩
  · have hd : decide (1048576 < (n : Int)) = true := by simp; omega
    rw [hd] at hbig
    have Hbig := Lib.hid hbig
    clear hbig hd h
    go_enter Try.func8, Try.ntmps8
    go_wp2_with fail
    refine (Hbig.out _).mono ?_
    rintro e w' ⟨rfl, rfl⟩
    go_wp2_with fail
    go_ret
    exact ⟨rfl, Below.refl _ _⟩
end Go.Proofs.Ythmkjenamnmbiab
