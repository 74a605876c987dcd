/- Walks: the law FnAbove. -/
import Derived.Deep.DeepCutAuto
import Derived.Test.YtpmankbokbcmbaaTk
set_option linter.unusedVariables false
set_option linter.unusedSimpArgs false
namespace Go.Proofs.Ytpmankbokbcmbaa
open Go.RowKit

set_option maxRecDepth 100000 in
set_option maxHeartbeats 8000000 in
theorem walkFnAbove (A : Option Addr) (n c : Nat) (w : World) (h : n ≤ 1048576 → CodeAt w A n c) :
    Calls Try.prog 5 #[.slice A n c] w fun e w' => e = .returned (.bool true) ∧ Below w.heap.size w w' := by
  have hbig := fun W => big_any A n c W
  by_cases hb : (n : Int) ≤ 1048576
  · have hd : decide (1048576 < (n : Int)) = false := by simp; omega
    rw [hd] at hbig
    have Hbig := Lib.hid hbig
    have hdraw := Lib.hid (fun W h => DrawAbove_any A n c W h)
    have hcode := Lib.hid (h (by omega))
    clear hbig hd h
    go_enter Try.func5, Try.ntmps5
    go_wp2_with fail
    refine (Hbig.out _).mono ?_
    rintro e w' ⟨rfl, rfl⟩
    go_wp2_with fail
    refine (hdraw.out _ hcode.out).mono ?_
    rintro e w1 ⟨v, xs, lim, long, rfl, hown1, hxl, hxr, hrf, hrt, hb1⟩
    have B1 := Lib.hid hb1
    have P1 := Lib.hid (PL.of_own hown1 rfl (prng_of hxr) (by omega))
    have hok := abvM_ok xs lim long (prng_of hxr) (by omega)
    have YR := Lib.hid hok.1
    have hyl := hok.2
    have HFA := Lib.hid (abvM_facts xs lim long)
    clear hb1 hown1 hxr hok hdraw hcode Hbig
    have him := Lib.hid (fun W h => implAbove_any v xs lim long W h)
    have hsp := Lib.hid (fun W h => specAbove_any v xs lim long W h)
    obtain ⟨ys, hys⟩ : ∃ ys, abvM xs lim long = ys := ⟨_, rfl⟩
    rw [hys] at YR hyl HFA him hsp
    clear hys
    go_wp2_with fail
    refine (him.out _ P1.out).mono ?_
    rintro e w2 ⟨vs, rfl, hown2, hb2⟩
    have S1 := B1.out.size
    have S2 := hb2.size
    have O2 := Lib.hid hown2
    have B2 := Lib.hid (B1.out.trans (hb2.mono S1))
    have P2 := Lib.hid ((P1.out.below hb2).up S2)
    clear hown2 hb2 P1 B1
    go_wp2_with fail
    refine (hsp.out _ P2.out).mono ?_
    rintro e w3 ⟨vw, rfl, hown3, hb3⟩
    have S3 := hb3.size
    have Ps := PL.of_ownS (u_own_below O2.out hb3) rfl YR.out hyl
    have Pw := PL.of_ownS hown3 rfl YR.out hyl
    have B3 := Lib.hid (B2.out.trans (hb3.mono (by omega)))
    have P3 := (P2.out.below hb3).up S3
    clear hown3 hb3 P2 B2 O2 him hsp
    obtain ⟨_, _, As, cs, hvs, hcs⟩ := Ps
    obtain ⟨_, _, Aw, cw, hvw, hcw⟩ := Pw
    obtain ⟨_, _, Ax, cx, hvx, hcx⟩ := P3
    subst hvs hvw hvx
    go_wp2_with fail
    go_loopw [8] (fun i wr => ∃ (j : Nat), j ≤ ys.length ∧ i = .int .i64 j ∧ DQ w3 wr) (fun i _ => ys.length - (intOf i).toNat)
    case atStart => exact ⟨0, Nat.zero_le _, rfl, DQ.refl _⟩
    case round =>
      obtain ⟨j, hj, rfl, q, rfl⟩ := hrel
      by_cases hlt : j < ys.length
      · rcases hcs with hcs | ⟨bs, os, rfl, hbs, hcs⟩
        · subst hcs; simp at hlt
        rcases hcw with hcw | ⟨bw, ow, rfl, hbw, hcw⟩
        · subst hcw; simp at hlt
        obtain ⟨f1, f2, f3, f4, f5⟩ := HFA.out j hlt
        have s0 := (hcs j hlt).1
        have s1 := (hcs j hlt).2
        have v0 := (hcw j hlt).1
        have v1 := (hcw j hlt).2
        have p1 := (hcs (j - 1) (by omega)).2
        have HC := Lib.hid hcs
        have HW := Lib.hid hcw
        have F4 := Lib.hid f4
        have F5 := Lib.hid f5
        obtain ⟨f, t, hft⟩ : ∃ f t, ys.getD j (0, 0) = (f, t) := ⟨_, _, rfl⟩
        rw [hft] at s0 s1 v0 v1 f1 f2 f3 F4 F5
        simp only at s0 s1 v0 v1 f1 f2 f3
        have e7 : IntKind.i64.wrap (t - f) = t - f := IntWalk.i64_in _ (by omega)
        have e8 : decide (t - f < long) = false := by simp; omega
        have hHK : (decide (0 < j) = false) ∨ (decide (0 < j) = true ∧ IntKind.i64.wrap ((j : Int) - 1) = (j : Int) - 1 ∧ (0 : Int) ≤ (j : Int) - 1 ∧ (1 : Int) ≤ (j : Int) ∧ ((j : Int) - 1).toNat = j - 1 ∧ (j : Int) - 1 < (ys.length : Int) ∧ decide (f ≤ (ys.getD (j - 1) (0, 0)).2) = false) := by
          by_cases h0 : 0 < j
          · exact .inr ⟨by simpa using h0, IntWalk.i64_in _ (by omega), by omega, by omega, by omega, by omega, decide_eq_false (by have := f3 h0; omega)⟩
          · exact .inl (by simpa using h0)
        generalize (ys.getD (j - 1) (0, 0)).2 = p at *
        have HFT := Lib.hid hft
        clear hft hcs hcw f3 f4 f5
        have hltI : (j : Int) < (ys.length : Int) := by omega
        go_upto_region 11 with fail
        go_cut [79] (fun cv wx => cv = .bool false ∧ DQ w3 wx)
        case first =>
          rcases hHK with k1 | ⟨k1, k2, k3, k4, k5, k6, k7⟩
          all_goals
            refine wp_region_quiet_lit (by kernel_rfl) (by kernel_rfl) ?_
            repeat (go_big_quiet_step (fail))
            refine wpQuiet_nil ?_
            intro _ hw'
            obtain ⟨nq, hw''⟩ := hw'
            subst hw''
            go_wp2_with fail
            go_meet
            case rel => exact ⟨rfl, by repeat (first | exact DQ.of _ _ | apply DQ.step)⟩
        case rest =>
          obtain ⟨rfl, hdq⟩ := hcut
          clear s0 s1 v0 v1 p1 hHK
          go_wp2_with fail
          go_loopw [9] (fun i wr => ∃ (k : Nat), k ≤ xs.length ∧ i = .int .i64 k ∧ DQ w3 wr) (fun i _ => xs.length - (intOf i).toNat)
          case atStart => exact ⟨0, Nat.zero_le _, rfl, hdq⟩
          case round =>
            obtain ⟨k, hk, rfl, q', rfl⟩ := hrel
            clear hdq
            by_cases hlk : k < xs.length
            · rcases hcx with hcx | ⟨bx, ox, rfl, hbx, hcx⟩
              · subst hcx; simp at hlk
              have hlkI : (k : Int) < (xs.length : Int) := by omega
              have x0 := (hcx k hlk).1
              have x1 := (hcx k hlk).2
              have y0 := (hcx (k - 1) (by omega)).1
              have y1 := (hcx (k - 1) (by omega)).2
              have s0 := (HC.out j hlt).1
              have s1 := (HC.out j hlt).2
              rw [HFT.out] at s0 s1
              simp only at s0 s1
              have G4 := F4.out k hlk
              have G5 := fun h0 => F5.out k h0 hlk
              unfold inS at G4 G5
              simp only at G4 G5
              generalize (xs.getD k (0, 0)).1 = x at *
              generalize (xs.getD k (0, 0)).2 = y at *
              generalize (xs.getD (k - 1) (0, 0)).1 = x' at *
              generalize (xs.getD (k - 1) (0, 0)).2 = y' at *
              have HG4 := Lib.hid G4
              have HG5 := Lib.hid G5
              clear G4 G5 hcx
              go_upto_region 16 with fail
              go_cut [10] (fun cv wx => cv = .bool (decide (f ≤ x) && decide (x ≤ t)) ∧ DQ w3 wx)
              case first =>
                by_cases a1 : f ≤ x
                · have c1 : decide (f ≤ x) = true := decide_eq_true a1
                  by_cases a2 : x ≤ t
                  · have c2 : decide (x ≤ t) = true := decide_eq_true a2
                    refine wp_region_quiet_lit (by kernel_rfl) (by kernel_rfl) ?_
                    repeat (go_big_quiet_step (fail))
                    refine wpQuiet_nil ?_
                    intro _ hw'
                    obtain ⟨nq, hw''⟩ := hw'
                    subst hw''
                    go_wp2_with fail
                    go_meet
                    case rel => exact ⟨by rw [c1, c2]; rfl, by repeat (first | exact DQ.of _ _ | apply DQ.step)⟩
                  · have c2 : decide (x ≤ t) = false := decide_eq_false a2
                    refine wp_region_quiet_lit (by kernel_rfl) (by kernel_rfl) ?_
                    repeat (go_big_quiet_step (fail))
                    refine wpQuiet_nil ?_
                    intro _ hw'
                    obtain ⟨nq, hw''⟩ := hw'
                    subst hw''
                    go_wp2_with fail
                    go_meet
                    case rel => exact ⟨by rw [c1, c2]; rfl, by repeat (first | exact DQ.of _ _ | apply DQ.step)⟩
                · have c1 : decide (f ≤ x) = false := decide_eq_false a1
                  refine wp_region_quiet_lit (by kernel_rfl) (by kernel_rfl) ?_
                  repeat (go_big_quiet_step (fail))
                  refine wpQuiet_nil ?_
                  intro _ hw'
                  obtain ⟨nq, hw''⟩ := hw'
                  subst hw''
                  go_wp2_with fail
                  go_meet
                  case rel => exact ⟨by rw [c1]; rfl, by repeat (first | exact DQ.of _ _ | apply DQ.step)⟩
              case rest =>
                obtain ⟨rfl, hdq2⟩ := hcut
                obtain ⟨q2, rfl⟩ := hdq2
                obtain ⟨inb, hinb⟩ : ∃ inb, (decide (f ≤ x) && decide (x ≤ t)) = inb := ⟨_, rfl⟩
                rw [hinb] at HG4 HG5 ⊢
                have HIN := Lib.hid hinb
                clear hinb
                go_upto_region 17 with fail
                go_cut [119] (fun cv wx => cv = .bool false ∧ DQ w3 wx)
                case first =>
                  cases inb
                  · go_wp2_with fail
                    go_meet
                    case rel => exact ⟨rfl, by repeat (first | exact DQ.of _ _ | apply DQ.step)⟩
                  · have c3 : decide (y ≤ lim) = false := decide_eq_false (by have := HG4.out rfl; omega)
                    go_wp2_with fail
                    go_meet
                    case rel => exact ⟨by first | rfl | rw [c3], by repeat (first | exact DQ.of _ _ | apply DQ.step)⟩
                case rest =>
                obtain ⟨rfl, hdq3⟩ := hcut
                obtain ⟨q3, rfl⟩ := hdq3
                go_upto_region 19 with fail
                go_cut [170] (fun cv wx => cv = .bool false ∧ DQ w3 wx)
                case first =>
                  by_cases h0 : 0 < k
                  case neg =>
                    have b1 : decide (0 < k) = false := decide_eq_false h0
                    have H0 := Lib.hid h0
                    clear h0
                    refine wp_region_quiet_lit (by kernel_rfl) (by kernel_rfl) ?_
                    repeat (go_big_quiet_step (fail))
                    refine wpQuiet_nil ?_
                    intro _ hw'
                    obtain ⟨nq, hw''⟩ := hw'
                    subst hw''
                    go_wp2_with fail
                    go_meet
                    case rel => exact ⟨rfl, by repeat (first | exact DQ.of _ _ | apply DQ.step)⟩
                  have b1 : decide (0 < k) = true := decide_eq_true h0
                  have b4 : IntKind.i64.wrap ((k : Int) - 1) = (k : Int) - 1 := IntWalk.i64_in _ (by omega)
                  have b5 : (0 : Int) ≤ (k : Int) - 1 := by omega
                  have b6 : (1 : Int) ≤ (k : Int) := by omega
                  have b7 : ((k : Int) - 1).toNat = k - 1 := by omega
                  have b8 : (k : Int) - 1 < (xs.length : Int) := by omega
                  have HG6 := Lib.hid (HG5.out h0)
                  have H0 := Lib.hid h0
                  clear h0 HG5
                  by_cases h1 : lim < y
                  case neg =>
                    have b2 : decide (lim < y) = false := decide_eq_false h1
                    refine wp_region_quiet_lit (by kernel_rfl) (by kernel_rfl) ?_
                    repeat (go_big_quiet_step (fail))
                    refine wpQuiet_nil ?_
                    intro _ hw'
                    obtain ⟨nq, hw''⟩ := hw'
                    subst hw''
                    go_wp2_with fail
                    go_meet
                    case rel => exact ⟨rfl, by repeat (first | exact DQ.of _ _ | apply DQ.step)⟩
                  have b2 : decide (lim < y) = true := decide_eq_true h1
                  by_cases h2 : lim < y'
                  case neg =>
                    have b3 : decide (lim < y') = false := decide_eq_false h2
                    refine wp_region_quiet_lit (by kernel_rfl) (by kernel_rfl) ?_
                    repeat (go_big_quiet_step (fail))
                    refine wpQuiet_nil ?_
                    intro _ hw'
                    obtain ⟨nq, hw''⟩ := hw'
                    subst hw''
                    go_wp2_with fail
                    go_meet
                    case rel => exact ⟨rfl, by repeat (first | exact DQ.of _ _ | apply DQ.step)⟩
                  have b3 : decide (lim < y') = true := decide_eq_true h2
                  have hq := HG6.out h1 h2
                  by_cases a1 : f ≤ x'
                  · have c1 : decide (f ≤ x') = true := decide_eq_true a1
                    by_cases a2 : x' ≤ t
                    · have c2 : decide (x' ≤ t) = true := decide_eq_true a2
                      obtain rfl : inb = true := by rw [hq, c1, c2]; rfl
                      clear hq
                      refine wp_region_quiet_lit (by kernel_rfl) (by kernel_rfl) ?_
                      repeat (go_big_quiet_step (fail))
                      refine wpQuiet_nil ?_
                      intro _ hw'
                      obtain ⟨nq, hw''⟩ := hw'
                      subst hw''
                      go_wp2_with fail
                      go_meet
                      case rel => exact ⟨rfl, by repeat (first | exact DQ.of _ _ | apply DQ.step)⟩
                    · have c2 : decide (x' ≤ t) = false := decide_eq_false a2
                      obtain rfl : inb = false := by rw [hq, c1, c2]; rfl
                      clear hq
                      refine wp_region_quiet_lit (by kernel_rfl) (by kernel_rfl) ?_
                      repeat (go_big_quiet_step (fail))
                      refine wpQuiet_nil ?_
                      intro _ hw'
                      obtain ⟨nq, hw''⟩ := hw'
                      subst hw''
                      go_wp2_with fail
                      go_meet
                      case rel => exact ⟨rfl, by repeat (first | exact DQ.of _ _ | apply DQ.step)⟩
                  · have c1 : decide (f ≤ x') = false := decide_eq_false a1
                    obtain rfl : inb = false := by rw [hq, c1]; rfl
                    clear hq
                    refine wp_region_quiet_lit (by kernel_rfl) (by kernel_rfl) ?_
                    repeat (go_big_quiet_step (fail))
                    refine wpQuiet_nil ?_
                    intro _ hw'
                    obtain ⟨nq, hw''⟩ := hw'
                    subst hw''
                    go_wp2_with fail
                    go_meet
                    case rel => exact ⟨rfl, by repeat (first | exact DQ.of _ _ | apply DQ.step)⟩
                case rest =>
                obtain ⟨rfl, hdq4⟩ := hcut
                go_wp2_with fail
                go_roundw
                case rel => exact ⟨k + 1, by omega, by go_num, hdq4⟩
                case measure => simp [intOf]; omega
            · obtain rfl : k = xs.length := by omega
              go_wp2_with fail
              go_roundw
              case rel => exact ⟨j + 1, by omega, by go_num, DQ.of _ _⟩
              case measure => simp [intOf]; omega
      · obtain rfl : j = ys.length := by omega
        go_wp2_with fail
        go_ret
        exact ⟨rfl, below_drewN_u B3.out _⟩
  · have hd : decide (1048576 < (n : Int)) = true := by simp; omega
    rw [hd] at hbig
    have Hbig := Lib.hid hbig
    clear hbig hd h
    go_enter Try.func5, Try.ntmps5
    go_wp2_with fail
    refine (Hbig.out _).mono ?_
    rintro e w' ⟨rfl, rfl⟩
    go_wp2_with fail
    go_ret
    exact ⟨rfl, Below.refl _ _⟩
end Go.Proofs.Ytpmankbokbcmbaa
