/- Walks: the law FnHigher. -/
import Derived.Test.YtpmankbokbcmbaaTk
set_option linter.unusedVariables false
set_option linter.unusedSimpArgs false
namespace Go.Proofs.Ytpmankbokbcmbaa
open Go.RowKit

def covB (zs : List (Int × Int)) (s : Int × Int) (m : Nat) : Bool := decide ((zs.getD m (0, 0)).1 ≤ s.1) && decide (s.2 ≤ (zs.getD m (0, 0)).2)
def covTo (zs : List (Int × Int)) (s : Int × Int) (k : Nat) : Bool := (List.range k).any (covB zs s)
theorem covTo_succ (zs : List (Int × Int)) (s : Int × Int) (k : Nat) : covTo zs s (k + 1) = (covTo zs s k || covB zs s k) := by
  unfold covTo; rw [List.range_succ, List.any_append]; simp
theorem abvM_higher (xs : List (Int × Int)) {lim low : Int} (hl : low ≤ lim) (long : Int) (i : Nat) (hi : i < (abvM xs lim long).length) :
    covTo (abvM xs low long) ((abvM xs lim long).getD i (0, 0)) (abvM xs low long).length = true := by
  unfold abvM at hi ⊢
  split at hi
  · rename_i hc
    rw [if_pos hc, if_pos hc]
    obtain ⟨k, hk, h1, h2⟩ := abv_higher (upT_of hc.1) hl long hi
    unfold covTo
    exact List.any_eq_true.2 ⟨k, by simpa using hk, by unfold covB; rw [decide_eq_true h1, decide_eq_true h2]; rfl⟩
  · simp at hi

set_option maxRecDepth 100000 in
set_option maxHeartbeats 8000000 in
theorem walkFnHigher (A : Option Addr) (n c : Nat) (w : World) (h : n ≤ 1048576 → CodeAt w A n c) :
    Calls Try.prog 7 #[.slice A n c] w fun e w' => e = .returned (.bool true) ∧ Below w.heap.size w w' := by
  have hbig := fun W => big_any A n c W
  by_cases hb : (n : Int) ≤ 1048576
  · have hd : decide (1048576 < (n : Int)) = false := by simp; omega
    rw [hd] at hbig
    have Hbig := Lib.hid hbig
    have hdraw := Lib.hid (fun W h => DrawAbove_any A n c W h)
    have hcode := Lib.hid (h (by omega))
    clear hbig hd h
    go_enter Try.func7, Try.ntmps7
    go_wp2_with fail
    refine (Hbig.out _).mono ?_
    rintro e w' ⟨rfl, rfl⟩
    go_wp2_with fail
    refine (hdraw.out _ hcode.out).mono ?_
    rintro e w1 ⟨v, xs, lim, long, rfl, hown1, hxl, hxr, hrf, hrt, hb1⟩
    have B1 := Lib.hid hb1
    have P1 := Lib.hid (PL.of_own hown1 rfl (prng_of hxr) (by omega))
    have hok := abvM_ok xs lim long (prng_of hxr) (by omega)
    have YR := Lib.hid hok.1
    have hyl := hok.2
    have hok' := abvM_ok xs (lim - 3) long (prng_of hxr) (by omega)
    have ZR := Lib.hid hok'.1
    have hzl := hok'.2
    have HFA := Lib.hid (abvM_higher xs (show lim - 3 ≤ lim by omega) long)
    clear hb1 hown1 hxr hok hok' hdraw hcode Hbig
    have him := Lib.hid (fun W h => implAbove_any v xs lim long W h)
    have hsp := Lib.hid (fun W h => specAbove_any v xs lim long W h)
    have hlo := Lib.hid (fun W h => implAbove_any v xs (lim - 3) long W h)
    obtain ⟨ys, hys⟩ : ∃ ys, abvM xs lim long = ys := ⟨_, rfl⟩
    obtain ⟨zs, hzs⟩ : ∃ zs, abvM xs (lim - 3) long = zs := ⟨_, rfl⟩
    rw [hys] at YR hyl HFA him hsp
    rw [hzs] at ZR hzl HFA hlo
    clear hys hzs
    go_wp2_with fail
    refine (him.out _ P1.out).mono ?_
    rintro e w2 ⟨vs, rfl, hown2, hb2⟩
    have S1 := B1.out.size
    have S2 := hb2.size
    obtain ⟨_, _, As, cs, hvs, _⟩ := PL.of_ownS hown2 rfl YR.out hyl
    subst hvs
    have O2 := Lib.hid hown2
    have B2 := Lib.hid (B1.out.trans (hb2.mono S1))
    have P2 := Lib.hid ((P1.out.below hb2).up S2)
    clear hown2 hb2 P1 B1
    go_wp2_with fail
    refine (hsp.out _ P2.out).mono ?_
    rintro e w3 ⟨vw, rfl, hown3, hb3⟩
    have S3 := hb3.size
    have O3 := Lib.hid (u_own_below O2.out hb3)
    have B3 := Lib.hid (B2.out.trans (hb3.mono (by omega)))
    have P3 := Lib.hid ((P2.out.below hb3).up S3)
    obtain ⟨_, _, Aw, cw, hvw, _⟩ := PL.of_ownS hown3 rfl YR.out hyl
    subst hvw
    clear hown3 hb3 P2 B2 O2
    by_cases hbl : lim < -1000000
    · go_wp2_with fail
      refine (hsp.out _ P3.out).mono ?_
      rintro e w4 ⟨vw4, rfl, hown4, hb4⟩
      obtain ⟨_, _, Aw4, cw4, hvw4, _⟩ := PL.of_ownS hown4 rfl YR.out hyl
      subst hvw4
      go_wp2_with fail
      go_ret
      exact ⟨by simp, B3.out.trans (hb4.mono B3.out.size)⟩
    have e7 : IntKind.i64.wrap (lim - 3) = lim - 3 := IntWalk.i64_in _ (by unfold Rng at hrf; omega)
    go_wp2_with fail
    refine (hlo.out _ P3.out).mono ?_
    rintro e w4 ⟨vz, rfl, hown4, hb4⟩
    have S4 := hb4.size
    have Pz := PL.of_ownS hown4 rfl ZR.out hzl
    have Ps := PL.of_ownS (u_own_below O3.out hb4) rfl YR.out hyl
    have B4 := Lib.hid (B3.out.trans (hb4.mono (by omega)))
    clear hown4 hb4 P3 B3 O3 him hsp hlo e7
    obtain ⟨_, _, As', cs', hvs, hcs⟩ := Ps
    obtain ⟨_, _, Az, cz, hvz, hcz⟩ := Pz
    injection hvs with q1 q2 q3
    subst q1 q3 hvz
    clear q2
    go_wp2_with fail
    go_loopw [8] (fun i wr => ∃ (j : Nat), j ≤ ys.length ∧ i = .int .i64 j ∧ DQ w4 wr) (fun i _ => ys.length - (intOf i).toNat)
    case atStart => exact ⟨0, Nat.zero_le _, rfl, DQ.refl _⟩
    case round =>
      obtain ⟨j, hj, rfl, q, rfl⟩ := hrel
      by_cases hlt : j < ys.length
      · have hltI : (j : Int) < (ys.length : Int) := by omega
        rcases hcs with hcs | ⟨bs, os, rfl, hbs, hcs⟩
        · subst hcs; simp at hlt
        have s0 := (hcs j hlt).1
        have s1 := (hcs j hlt).2
        have HA := Lib.hid (HFA.out j hlt)
        obtain ⟨f, t, hft⟩ : ∃ f t, ys.getD j (0, 0) = (f, t) := ⟨_, _, rfl⟩
        rw [hft] at s0 s1 HA
        simp only at s0 s1
        clear hft hcs
        go_wp2_with fail
        go_loopw [9, 10] (fun b i wr => ∃ (k : Nat) (ib : Bool), k ≤ zs.length ∧ i = .int .i64 k ∧ b = .bool ib ∧ Hid (ib = covTo zs (f, t) k) ∧ DQ w4 wr) (fun _ i _ => zs.length - (intOf i).toNat)
        case atStart => exact ⟨0, false, Nat.zero_le _, rfl, rfl, Lib.hid rfl, DQ.of _ _⟩
        case round =>
          obtain ⟨k, ib, hk, rfl, rfl, HI, q', rfl⟩ := hrel
          by_cases hlk : k < zs.length
          · have hlkI : (k : Int) < (zs.length : Int) := by omega
            rcases hcz with hcz | ⟨bz, oz, rfl, hbz, hcz⟩
            · subst hcz; simp at hlk
            have z0 := (hcz k hlk).1
            have z1 := (hcz k hlk).2
            have HS := Lib.hid (covTo_succ zs (f, t) k)
            have HS2 := HS.out
            rw [← HI.out] at HS2
            unfold covB at HS2
            generalize (zs.getD k (0, 0)).1 = x at *
            generalize (zs.getD k (0, 0)).2 = y at *
            have HS3 := Lib.hid HS2
            clear HS HS2 hcz
            have hcase : ib = true ∨ (ib = false ∧ (decide (x ≤ f) = false ∨ (decide (x ≤ f) = true ∧ decide (t ≤ y) = false) ∨ (decide (x ≤ f) = true ∧ decide (t ≤ y) = true))) := by
              cases ib
              · refine .inr ⟨rfl, ?_⟩
                by_cases a1 : x ≤ f
                · by_cases a2 : t ≤ y
                  · exact .inr (.inr ⟨by simpa using a1, by simpa using a2⟩)
                  · exact .inr (.inl ⟨by simpa using a1, by simpa using a2⟩)
                · exact .inl (by simpa using a1)
              · exact .inl rfl
            clear HI
            rcases hcase with rfl | ⟨rfl, a1 | ⟨a1, a2⟩ | ⟨a1, a2⟩⟩
            · go_wp2_with fail
              refine wp_region_quiet_lit (by kernel_rfl) (by kernel_rfl) ?_
              repeat (go_big_quiet_step (fail))
              refine wpQuiet_nil ?_
              intro _ hw'
              obtain ⟨nq, hw''⟩ := hw'
              subst hw''
              go_wp2_with fail
              go_roundw
              case rel => exact ⟨k + 1, true, by omega, by go_num, rfl, Lib.hid (by rw [HS3.out]; rfl), by repeat (first | exact DQ.of _ _ | apply DQ.step)⟩
              case measure => simp [intOf]; omega
            · go_wp2_with fail
              refine wp_region_quiet_lit (by kernel_rfl) (by kernel_rfl) ?_
              repeat (go_big_quiet_step (fail))
              refine wpQuiet_nil ?_
              intro _ hw'
              obtain ⟨nq, hw''⟩ := hw'
              subst hw''
              go_wp2_with fail
              go_roundw
              case rel => exact ⟨k + 1, false, by omega, by go_num, rfl, Lib.hid (by rw [HS3.out]; simp only [a1]; rfl), by repeat (first | exact DQ.of _ _ | apply DQ.step)⟩
              case measure => simp [intOf]; omega
            · go_wp2_with fail
              refine wp_region_quiet_lit (by kernel_rfl) (by kernel_rfl) ?_
              repeat (go_big_quiet_step (fail))
              refine wpQuiet_nil ?_
              intro _ hw'
              obtain ⟨nq, hw''⟩ := hw'
              subst hw''
              go_wp2_with fail
              go_roundw
              case rel => exact ⟨k + 1, false, by omega, by go_num, rfl, Lib.hid (by rw [HS3.out]; simp only [a1, a2]; rfl), by repeat (first | exact DQ.of _ _ | apply DQ.step)⟩
              case measure => simp [intOf]; omega
            · go_wp2_with fail
              refine wp_region_quiet_lit (by kernel_rfl) (by kernel_rfl) ?_
              repeat (go_big_quiet_step (fail))
              refine wpQuiet_nil ?_
              intro _ hw'
              obtain ⟨nq, hw''⟩ := hw'
              subst hw''
              go_wp2_with fail
              go_roundw
              case rel => exact ⟨k + 1, true, by omega, by go_num, rfl, Lib.hid (by rw [HS3.out]; simp only [a1, a2]; rfl), by repeat (first | exact DQ.of _ _ | apply DQ.step)⟩
              case measure => simp [intOf]; omega
          · obtain rfl : k = zs.length := by omega
            obtain rfl : ib = true := by rw [HI.out]; exact HA.out
            go_wp2_with fail
            go_roundw
            case rel => exact ⟨j + 1, by omega, by go_num, by repeat (first | exact DQ.of _ _ | apply DQ.step)⟩
            case measure => simp [intOf]; omega
      · obtain rfl : j = ys.length := by omega
        go_wp2_with fail
        go_ret
        exact ⟨rfl, below_drewN_u B4.out _⟩
  · have hd : decide (1048576 < (n : Int)) = true := by simp; omega
    rw [hd] at hbig
    have Hbig := Lib.hid hbig
    clear hbig hd h
    go_enter Try.func7, Try.ntmps7
    go_wp2_with fail
    refine (Hbig.out _).mono ?_
    rintro e w' ⟨rfl, rfl⟩
    go_wp2_with fail
    go_ret
    exact ⟨rfl, Below.refl _ _⟩
end Go.Proofs.Ytpmankbokbcmbaa
