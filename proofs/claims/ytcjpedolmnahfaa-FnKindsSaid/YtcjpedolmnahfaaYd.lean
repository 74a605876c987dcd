/- Walks: the model's check of rolls. -/
import Derived.Test.YtcjpedolmnahfaaYb
set_option linter.unusedVariables false
set_option linter.unusedSimpArgs false
namespace Go.Proofs.Ytcjpedolmnahfaa
open Go.RowKit

set_option maxRecDepth 100000 in
set_option maxHeartbeats 8000000 in
theorem specRollsOk_any (v : Value) (xs : List R6) (W : Int) (w : World) (h : RL w w.heap.size v xs) :
    Calls Try.prog 64 #[v, .int .i64 W] w (BoolPost (rollsOkB xs W) w) := by
  obtain ⟨hr, hlen, A, c, rfl, h3⟩ := h
  clear hr
  have HW := Lib.hid (fun w => l7Width_any W w)
  by_cases hw : 1 ≤ W ∧ W ≤ 1000000
  case neg =>
    have E := Lib.hid (show rollsOkB xs W = false from by unfold rollsOkB wdB; rw [vIn_false hw]; simp)
    rw [show wdB W = false from vIn_false hw] at HW
    clear hw
    go_enter Try.func64, Try.ntmps64
    go_wp2_with (go_at_call 102; refine (HW.out _).mono ?_; rintro e w' ⟨rfl, rfl⟩)
    go_ret
    exact ⟨by rw [E.out]; rfl, Below.refl _ _⟩
  rw [show wdB W = true from vIn_true hw.1 hw.2] at HW
  by_cases h400 : xs.length ≤ 400
  case neg =>
    have E := Lib.hid (show rollsOkB xs W = false from by unfold rollsOkB; rw [decide_eq_false h400]; simp)
    have hd : decide (400 < xs.length) = true := by simp; omega
    go_enter Try.func64, Try.ntmps64
    go_wp2_with (go_at_call 102; refine (HW.out _).mono ?_; rintro e w' ⟨rfl, rfl⟩)
    go_ret
    exact ⟨by rw [E.out]; rfl, Below.refl _ _⟩
  have hd : decide (400 < xs.length) = false := by simp; omega
  have EE := Lib.hid (show gdToR xs W xs.length = true → rollsOkB xs W = true from fun h => by unfold rollsOkB wdB; rw [vIn_true hw.1 hw.2, decide_eq_true h400, h]; rfl)
  have hw0 : ¬ W = 0 := by omega
  have hwz : (W == 0) = false := by simpa using hw0
  obtain ⟨hw1, hw2⟩ := hw
  go_enter Try.func64, Try.ntmps64
  go_wp2_with (go_at_call 102; refine (HW.out _).mono ?_; rintro e w' ⟨rfl, rfl⟩)
  go_loopw [5] (fun i wr => ∃ (k : Nat), k ≤ xs.length ∧ i = .int .i64 k ∧ gdToR xs W k = true ∧ Below w.heap.size w wr) (fun i _ => xs.length - (intOf i).toNat)
  case atStart => exact ⟨0, Nat.zero_le _, rfl, rfl, Below.refl _ _⟩
  case round =>
    obtain ⟨k, hk, rfl, hg, hb⟩ := hrel
    have Hg := Lib.hid hg
    clear hg
    have hsz := hb.size
    by_cases hlt : k < xs.length
    · rcases h3 with h3 | ⟨b, off, rfl, hbl, hc⟩
      · subst h3; simp at hlt
      have hx0 : wr.cell? ⟨b, off + k * 6, none⟩ = some (.int .i64 (xs.getD k z6).1) := (hb.cell (p := ⟨b, off + k * 6, none⟩) hbl).trans (hc k hlt).1
      have hx1 : wr.cell? ⟨b, off + k * 6 + 1, none⟩ = some (.int .i64 (xs.getD k z6).2.1) := (hb.cell (p := ⟨b, off + k * 6 + 1, none⟩) hbl).trans (hc k hlt).2.1
      have hx2 : wr.cell? ⟨b, off + k * 6 + 2, none⟩ = some (.int .i64 (xs.getD k z6).2.2.1) := (hb.cell (p := ⟨b, off + k * 6 + 2, none⟩) hbl).trans (hc k hlt).2.2.1
      have hx3 : wr.cell? ⟨b, off + k * 6 + 3, none⟩ = some (.int .i64 (xs.getD k z6).2.2.2.1) := (hb.cell (p := ⟨b, off + k * 6 + 3, none⟩) hbl).trans (hc k hlt).2.2.2.1
      have hx4 : wr.cell? ⟨b, off + k * 6 + 4, none⟩ = some (.int .i64 (xs.getD k z6).2.2.2.2.1) := (hb.cell (p := ⟨b, off + k * 6 + 4, none⟩) hbl).trans (hc k hlt).2.2.2.2.1
      have hx5 : wr.cell? ⟨b, off + k * 6 + 5, none⟩ = some (.int .i64 (xs.getD k z6).2.2.2.2.2) := (hb.cell (p := ⟨b, off + k * 6 + 5, none⟩) hbl).trans (hc k hlt).2.2.2.2.2
      have G1 := Lib.hid (fun h => rollsOkB_bad (gdR_badT (l := xs) (W := W) (k := k) h) hlt)
      have G2 := Lib.hid (fun h => rollsOkB_bad (gdR_badM (l := xs) (W := W) (k := k) h) hlt)
      have G3 := Lib.hid (fun hk h => rollsOkB_bad (gdR_badL (l := xs) (W := W) (k := k) hk h) hlt)
      have G4 := Lib.hid (fun h => rollsOkB_bad (gdR_badV (l := xs) (W := W) (k := k) h) hlt)
      have G5 := Lib.hid (gdR_ok (l := xs) (W := W) (k := k))
      have hprev : ¬ k = 0 → wr.cell? ⟨b, off + (k - 1) * 6, none⟩ = some (.int .i64 (xs.getD (k - 1) z6).1) := fun hk0 => (hb.cell (p := ⟨b, off + (k - 1) * 6, none⟩) hbl).trans (hc (k - 1) (by omega)).1
      have Hp := Lib.hid hprev
      clear hc hprev
      generalize (xs.getD k z6).1 = t at *
      generalize (xs.getD k z6).2.1 = c at *
      generalize (xs.getD k z6).2.2.1 = s at *
      generalize (xs.getD k z6).2.2.2.1 = mn at *
      generalize (xs.getD k z6).2.2.2.2.1 = mx at *
      generalize (xs.getD k z6).2.2.2.2.2 = la at *
      generalize (xs.getD (k - 1) z6).1 = y at *
      have HIt := Lib.hid (fun w => v_l1In_q t 0 1000000000000 w)
      have HIc := Lib.hid (fun w => v_l1In_q c 1 1000000 w)
      have HIl := Lib.hid (fun w => v_l1In_q la mn mx w)
      have HSn := Lib.hid (fun W => l7Val_any mn W)
      have HSx := Lib.hid (fun W => l7Val_any mx W)
      by_cases c1 : 0 ≤ t ∧ t ≤ 1000000000000
      case neg =>
        rw [vIn_false c1] at HIt
        have E := Lib.hid (G1.out c1)
        go_wp2_with fail
        go_quiet ((go_at_call 61; first | (with_reducible exact Calls.quiet_of_same (HIt.out _)) | (with_reducible exact Calls.quiet_of_same (HIc.out _)) | (with_reducible exact Calls.quiet_of_same (HIl.out _))))
        skip
        go_wp2_with fail
        go_ret
        exact ⟨by rw [E.out]; rfl, by
          first | exact below_drewN_u (hb.alloc hsz _) _ | exact hb.alloc hsz _⟩
      rw [vIn_true c1.1 c1.2] at HIt
      by_cases c2 : t % W = 0
      case neg =>
        have c3' : (t % W != 0) = true := by simpa using c2
        have c3'' : decide (t % W = 0) = false := decide_eq_false c2
        have E := Lib.hid (G2.out c2)
        go_wp2_with fail
        go_quiet ((go_at_call 61; first | (with_reducible exact Calls.quiet_of_same (HIt.out _)) | (with_reducible exact Calls.quiet_of_same (HIc.out _)) | (with_reducible exact Calls.quiet_of_same (HIl.out _))))
        skip
        go_wp2_with fail
        go_ret
        exact ⟨by rw [E.out]; rfl, by
          first | exact below_drewN_u (hb.alloc hsz _) _ | exact hb.alloc hsz _⟩
      by_cases hk0 : k ≤ 0
      · have hd0 : decide (0 < k) = false := by simp; omega
        have Hk0 := Lib.hid hk0
        have hk0' := hk0
        clear hk0
        by_cases c4 : 1 ≤ c ∧ c ≤ 1000000
        case neg =>
          rw [vIn_false c4] at HIc
          have E := Lib.hid (G4.out (by unfold okVB; rw [decide_eq_false_iff_not]; intro h; omega))
          go_wp2_with fail
          go_quiet ((go_at_call 61; first | (with_reducible exact Calls.quiet_of_same (HIt.out _)) | (with_reducible exact Calls.quiet_of_same (HIc.out _)) | (with_reducible exact Calls.quiet_of_same (HIl.out _))))
          skip
          go_wp2_with fail
          go_ret
          exact ⟨by rw [E.out]; rfl, by
            first | exact below_drewN_u (hb.alloc hsz _) _ | exact hb.alloc hsz _⟩
        rw [vIn_true c4.1 c4.2] at HIc
        by_cases c5 : mn ≤ mx
        case neg =>
          have c5' : decide (mx < mn) = true := decide_eq_true (by omega)
          have E := Lib.hid (G4.out (by unfold okVB; rw [decide_eq_false_iff_not]; intro h; omega))
          go_wp2_with fail
          go_quiet ((go_at_call 61; first | (with_reducible exact Calls.quiet_of_same (HIt.out _)) | (with_reducible exact Calls.quiet_of_same (HIc.out _)) | (with_reducible exact Calls.quiet_of_same (HIl.out _))))
          skip
          go_wp2_with fail
          go_ret
          exact ⟨by rw [E.out]; rfl, by
            first | exact below_drewN_u (hb.alloc hsz _) _ | exact hb.alloc hsz _⟩
        have c5' : decide (mx < mn) = false := decide_eq_false (by omega)
        by_cases c6 : mn ≤ la ∧ la ≤ mx
        case neg =>
          rw [vIn_false c6] at HIl
          have E := Lib.hid (G4.out (by unfold okVB; rw [decide_eq_false_iff_not]; intro h; omega))
          go_wp2_with fail
          go_quiet ((go_at_call 61; first | (with_reducible exact Calls.quiet_of_same (HIt.out _)) | (with_reducible exact Calls.quiet_of_same (HIc.out _)) | (with_reducible exact Calls.quiet_of_same (HIl.out _))))
          skip
          go_wp2_with fail
          go_ret
          exact ⟨by rw [E.out]; rfl, by
            first | exact below_drewN_u (hb.alloc hsz _) _ | exact hb.alloc hsz _⟩
        rw [vIn_true c6.1 c6.2] at HIl
        by_cases c7 : -1000000000 ≤ mn ∧ mn ≤ 1000000000
        case neg =>
          rw [show smB mn = false from vIn_false c7] at HSn
          have HIs := Lib.hid trivial
          have E := Lib.hid (G4.out (by unfold okVB; rw [decide_eq_false_iff_not]; intro h; omega))
          go_wp2_with fail
          go_quiet ((go_at_call 61; first | (with_reducible exact Calls.quiet_of_same (HIt.out _)) | (with_reducible exact Calls.quiet_of_same (HIc.out _)) | (with_reducible exact Calls.quiet_of_same (HIl.out _))))
          skip
          go_wp2_with (first | ((go_at_call 74; first | (with_reducible refine (HSn.out _).mono ?_) | (with_reducible refine (HSx.out _).mono ?_)); rintro e w' ⟨rfl, rfl⟩) | ((go_at_call 61; with_reducible refine (HIs.out _).mono ?_); rintro e w' ⟨rfl, rfl⟩))
          go_ret
          exact ⟨by rw [E.out]; rfl, by
            first | exact below_drewN_u (hb.alloc hsz _) _ | exact hb.alloc hsz _⟩
        rw [show smB mn = true from vIn_true c7.1 c7.2] at HSn
        by_cases c8 : -1000000000 ≤ mx ∧ mx ≤ 1000000000
        case neg =>
          rw [show smB mx = false from vIn_false c8] at HSx
          have HIs := Lib.hid trivial
          have E := Lib.hid (G4.out (by unfold okVB; rw [decide_eq_false_iff_not]; intro h; omega))
          go_wp2_with fail
          go_quiet ((go_at_call 61; first | (with_reducible exact Calls.quiet_of_same (HIt.out _)) | (with_reducible exact Calls.quiet_of_same (HIc.out _)) | (with_reducible exact Calls.quiet_of_same (HIl.out _))))
          skip
          go_wp2_with (first | ((go_at_call 74; first | (with_reducible refine (HSn.out _).mono ?_) | (with_reducible refine (HSx.out _).mono ?_)); rintro e w' ⟨rfl, rfl⟩) | ((go_at_call 61; with_reducible refine (HIs.out _).mono ?_); rintro e w' ⟨rfl, rfl⟩))
          go_ret
          exact ⟨by rw [E.out]; rfl, by
            first | exact below_drewN_u (hb.alloc hsz _) _ | exact hb.alloc hsz _⟩
        rw [show smB mx = true from vIn_true c8.1 c8.2] at HSx
        have em1 := wrap_mul c4.1 c4.2 c7.1 c7.2
        have em2 := wrap_mul c4.1 c4.2 c8.1 c8.2
        have HIs := Lib.hid (fun w => v_l1In_any s (c * mn) (c * mx) w)
        by_cases c9 : c * mn ≤ s ∧ s ≤ c * mx
        case neg =>
          rw [vIn_false c9] at HIs
          have E := Lib.hid (G4.out (by unfold okVB; rw [decide_eq_false_iff_not]; intro h; omega))
          go_wp2_with fail
          go_quiet ((go_at_call 61; first | (with_reducible exact Calls.quiet_of_same (HIt.out _)) | (with_reducible exact Calls.quiet_of_same (HIc.out _)) | (with_reducible exact Calls.quiet_of_same (HIl.out _))))
          skip
          go_wp2_with (first | ((go_at_call 74; first | (with_reducible refine (HSn.out _).mono ?_) | (with_reducible refine (HSx.out _).mono ?_)); rintro e w' ⟨rfl, rfl⟩) | ((go_at_call 61; with_reducible refine (HIs.out _).mono ?_); rintro e w' ⟨rfl, rfl⟩))
          go_ret
          exact ⟨by rw [E.out]; rfl, by
            first | exact below_drewN_u (hb.alloc hsz _) _ | exact hb.alloc hsz _⟩
        rw [vIn_true c9.1 c9.2] at HIs
        have G := Lib.hid (show gdToR xs W (k + 1) = true from by
          rw [gdToR_succ, Hg.out]
          exact G5.out c1 c2 (by unfold okVB; rw [decide_eq_true_iff]; exact ⟨c4, c7, c8, c5, c6.1, c6.2, c9⟩) (.inl (by omega)))
        go_wp2_with fail
        go_quiet ((go_at_call 61; first | (with_reducible exact Calls.quiet_of_same (HIt.out _)) | (with_reducible exact Calls.quiet_of_same (HIc.out _)) | (with_reducible exact Calls.quiet_of_same (HIl.out _))))
        skip
        go_wp2_with (first | ((go_at_call 74; first | (with_reducible refine (HSn.out _).mono ?_) | (with_reducible refine (HSx.out _).mono ?_)); rintro e w' ⟨rfl, rfl⟩) | ((go_at_call 61; with_reducible refine (HIs.out _).mono ?_); rintro e w' ⟨rfl, rfl⟩))
        go_roundw
        case rel => exact ⟨k + 1, by omega, by go_num, G.out, by
          first | exact below_drewN_u (hb.alloc hsz _) _ | exact hb.alloc hsz _⟩
        case measure => simp [intOf]; omega
      · have hd0 : decide (0 < k) = true := by simp; omega
        have hy := (((Below.refl _ wr).alloc (Nat.le_refl _) (.cells #[.int .i64 t, .int .i64 c, .int .i64 s, .int .i64 mn, .int .i64 mx, .int .i64 la] 48)).cell (p := ⟨b, off + (k - 1) * 6, none⟩) (show b < wr.heap.size by omega)).trans (Hp.out (by omega))
        have e1 : IntKind.i64.wrap ((k : Int) - 1) = (k : Int) - 1 := IntWalk.i64_in _ (by omega)
        have e2 : (0 : Int) ≤ (k : Int) - 1 := by omega
        have e2' : (1 : Int) ≤ (k : Int) := by omega
        have e3 : ((k : Int) - 1).toNat = k - 1 := by omega
        have e4 : (k : Int) - 1 < (xs.length : Int) := by omega
        by_cases cl : y < t
        case neg =>
          have hxy : decide (t ≤ y) = true := decide_eq_true (by omega)
          have E := Lib.hid (G3.out (by omega) cl)
          go_wp2_with fail
          go_quiet ((go_at_call 61; first | (with_reducible exact Calls.quiet_of_same (HIt.out _)) | (with_reducible exact Calls.quiet_of_same (HIc.out _)) | (with_reducible exact Calls.quiet_of_same (HIl.out _))))
          clear e1 e2 e2' e3 e4
          go_wp2_with fail
          go_ret
          exact ⟨by rw [E.out]; rfl, by
            first | exact below_drewN_u (hb.alloc hsz _) _ | exact hb.alloc hsz _⟩
        have hxy : decide (t ≤ y) = false := decide_eq_false (by omega)
        by_cases c4 : 1 ≤ c ∧ c ≤ 1000000
        case neg =>
          rw [vIn_false c4] at HIc
          have E := Lib.hid (G4.out (by unfold okVB; rw [decide_eq_false_iff_not]; intro h; omega))
          go_wp2_with fail
          go_quiet ((go_at_call 61; first | (with_reducible exact Calls.quiet_of_same (HIt.out _)) | (with_reducible exact Calls.quiet_of_same (HIc.out _)) | (with_reducible exact Calls.quiet_of_same (HIl.out _))))
          clear e1 e2 e2' e3 e4
          go_wp2_with fail
          go_ret
          exact ⟨by rw [E.out]; rfl, by
            first | exact below_drewN_u (hb.alloc hsz _) _ | exact hb.alloc hsz _⟩
        rw [vIn_true c4.1 c4.2] at HIc
        by_cases c5 : mn ≤ mx
        case neg =>
          have c5' : decide (mx < mn) = true := decide_eq_true (by omega)
          have E := Lib.hid (G4.out (by unfold okVB; rw [decide_eq_false_iff_not]; intro h; omega))
          go_wp2_with fail
          go_quiet ((go_at_call 61; first | (with_reducible exact Calls.quiet_of_same (HIt.out _)) | (with_reducible exact Calls.quiet_of_same (HIc.out _)) | (with_reducible exact Calls.quiet_of_same (HIl.out _))))
          clear e1 e2 e2' e3 e4
          go_wp2_with fail
          go_ret
          exact ⟨by rw [E.out]; rfl, by
            first | exact below_drewN_u (hb.alloc hsz _) _ | exact hb.alloc hsz _⟩
        have c5' : decide (mx < mn) = false := decide_eq_false (by omega)
        by_cases c6 : mn ≤ la ∧ la ≤ mx
        case neg =>
          rw [vIn_false c6] at HIl
          have E := Lib.hid (G4.out (by unfold okVB; rw [decide_eq_false_iff_not]; intro h; omega))
          go_wp2_with fail
          go_quiet ((go_at_call 61; first | (with_reducible exact Calls.quiet_of_same (HIt.out _)) | (with_reducible exact Calls.quiet_of_same (HIc.out _)) | (with_reducible exact Calls.quiet_of_same (HIl.out _))))
          clear e1 e2 e2' e3 e4
          go_wp2_with fail
          go_ret
          exact ⟨by rw [E.out]; rfl, by
            first | exact below_drewN_u (hb.alloc hsz _) _ | exact hb.alloc hsz _⟩
        rw [vIn_true c6.1 c6.2] at HIl
        by_cases c7 : -1000000000 ≤ mn ∧ mn ≤ 1000000000
        case neg =>
          rw [show smB mn = false from vIn_false c7] at HSn
          have HIs := Lib.hid trivial
          have E := Lib.hid (G4.out (by unfold okVB; rw [decide_eq_false_iff_not]; intro h; omega))
          go_wp2_with fail
          go_quiet ((go_at_call 61; first | (with_reducible exact Calls.quiet_of_same (HIt.out _)) | (with_reducible exact Calls.quiet_of_same (HIc.out _)) | (with_reducible exact Calls.quiet_of_same (HIl.out _))))
          clear e1 e2 e2' e3 e4
          go_wp2_with (first | ((go_at_call 74; first | (with_reducible refine (HSn.out _).mono ?_) | (with_reducible refine (HSx.out _).mono ?_)); rintro e w' ⟨rfl, rfl⟩) | ((go_at_call 61; with_reducible refine (HIs.out _).mono ?_); rintro e w' ⟨rfl, rfl⟩))
          go_ret
          exact ⟨by rw [E.out]; rfl, by
            first | exact below_drewN_u (hb.alloc hsz _) _ | exact hb.alloc hsz _⟩
        rw [show smB mn = true from vIn_true c7.1 c7.2] at HSn
        by_cases c8 : -1000000000 ≤ mx ∧ mx ≤ 1000000000
        case neg =>
          rw [show smB mx = false from vIn_false c8] at HSx
          have HIs := Lib.hid trivial
          have E := Lib.hid (G4.out (by unfold okVB; rw [decide_eq_false_iff_not]; intro h; omega))
          go_wp2_with fail
          go_quiet ((go_at_call 61; first | (with_reducible exact Calls.quiet_of_same (HIt.out _)) | (with_reducible exact Calls.quiet_of_same (HIc.out _)) | (with_reducible exact Calls.quiet_of_same (HIl.out _))))
          clear e1 e2 e2' e3 e4
          go_wp2_with (first | ((go_at_call 74; first | (with_reducible refine (HSn.out _).mono ?_) | (with_reducible refine (HSx.out _).mono ?_)); rintro e w' ⟨rfl, rfl⟩) | ((go_at_call 61; with_reducible refine (HIs.out _).mono ?_); rintro e w' ⟨rfl, rfl⟩))
          go_ret
          exact ⟨by rw [E.out]; rfl, by
            first | exact below_drewN_u (hb.alloc hsz _) _ | exact hb.alloc hsz _⟩
        rw [show smB mx = true from vIn_true c8.1 c8.2] at HSx
        have em1 := wrap_mul c4.1 c4.2 c7.1 c7.2
        have em2 := wrap_mul c4.1 c4.2 c8.1 c8.2
        have HIs := Lib.hid (fun w => v_l1In_any s (c * mn) (c * mx) w)
        by_cases c9 : c * mn ≤ s ∧ s ≤ c * mx
        case neg =>
          rw [vIn_false c9] at HIs
          have E := Lib.hid (G4.out (by unfold okVB; rw [decide_eq_false_iff_not]; intro h; omega))
          go_wp2_with fail
          go_quiet ((go_at_call 61; first | (with_reducible exact Calls.quiet_of_same (HIt.out _)) | (with_reducible exact Calls.quiet_of_same (HIc.out _)) | (with_reducible exact Calls.quiet_of_same (HIl.out _))))
          clear e1 e2 e2' e3 e4
          go_wp2_with (first | ((go_at_call 74; first | (with_reducible refine (HSn.out _).mono ?_) | (with_reducible refine (HSx.out _).mono ?_)); rintro e w' ⟨rfl, rfl⟩) | ((go_at_call 61; with_reducible refine (HIs.out _).mono ?_); rintro e w' ⟨rfl, rfl⟩))
          go_ret
          exact ⟨by rw [E.out]; rfl, by
            first | exact below_drewN_u (hb.alloc hsz _) _ | exact hb.alloc hsz _⟩
        rw [vIn_true c9.1 c9.2] at HIs
        have G := Lib.hid (show gdToR xs W (k + 1) = true from by
          rw [gdToR_succ, Hg.out]
          exact G5.out c1 c2 (by unfold okVB; rw [decide_eq_true_iff]; exact ⟨c4, c7, c8, c5, c6.1, c6.2, c9⟩) (.inr (by omega)))
        go_wp2_with fail
        go_quiet ((go_at_call 61; first | (with_reducible exact Calls.quiet_of_same (HIt.out _)) | (with_reducible exact Calls.quiet_of_same (HIc.out _)) | (with_reducible exact Calls.quiet_of_same (HIl.out _))))
        clear e1 e2 e2' e3 e4
        go_wp2_with (first | ((go_at_call 74; first | (with_reducible refine (HSn.out _).mono ?_) | (with_reducible refine (HSx.out _).mono ?_)); rintro e w' ⟨rfl, rfl⟩) | ((go_at_call 61; with_reducible refine (HIs.out _).mono ?_); rintro e w' ⟨rfl, rfl⟩))
        go_roundw
        case rel => exact ⟨k + 1, by omega, by go_num, G.out, by
          first | exact below_drewN_u (hb.alloc hsz _) _ | exact hb.alloc hsz _⟩
        case measure => simp [intOf]; omega
    · obtain rfl : k = xs.length := by omega
      go_wp2_with fail
      go_ret
      exact ⟨by rw [EE.out Hg.out]; rfl, hb⟩
end Go.Proofs.Ytcjpedolmnahfaa
