/- Walks: Firing, both. -/
import Derived.Test.YtpmankbokbcmbaaTf
set_option linter.unusedVariables false
set_option linter.unusedSimpArgs false
namespace Go.Proofs.Ytpmankbokbcmbaa
open Go.RowKit

theorem rsN_lo_eq {xs : List (Int × Int)} {lim : Int} {k : Nat} (h : k = 0 ∨ ¬ lim < (xs.getD (k - 1) (0, 0)).2) : rsN xs lim k = k := by
  rcases h with rfl | h
  · rfl
  · cases k with
    | zero => rfl
    | succ k => rw [rsN, if_neg (by simpa using h)]
theorem rsN_hi_eq {xs : List (Int × Int)} {lim : Int} {k : Nat} (h0 : 0 < k) (h : lim < (xs.getD (k - 1) (0, 0)).2) : rsN xs lim k = rsN xs lim (k - 1) := by
  cases k with
  | zero => omega
  | succ k => rw [rsN, if_pos (by simpa using h)]; rfl
set_option maxRecDepth 100000 in
set_option maxHeartbeats 400000 in
theorem timeOkT_any (v : Int) (w : World) : Calls Try.prog 41 #[.int .i64 v] w fun e w' => e = .returned (.bool (vIn v 0 1000000000000)) ∧ w' = w := by
  by_cases h1 : 0 ≤ v
  · by_cases h2 : v ≤ 1000000000000
    · rw [vIn_true h1 h2]
      go_enter Try.func41, Try.ntmps41
      go_wp2
      go_ret
      exact ⟨rfl, rfl⟩
    · rw [vIn_false (fun h => h2 h.2)]
      go_enter Try.func41, Try.ntmps41
      go_wp2
      go_ret
      exact ⟨rfl, rfl⟩
  · rw [vIn_false (fun h => h1 h.1)]
    go_enter Try.func41, Try.ntmps41
    go_wp2
    go_ret
    exact ⟨rfl, rfl⟩
theorem firB_f1 {xs : List (Int × Int)} {lim long now : Int} (h : ptsOkB xs = false) : firB xs lim long now = false := by unfold firB; rw [h]; rfl
theorem firB_f2 {xs : List (Int × Int)} {lim long now : Int} (h : vIn long 0 1000000000000 = false) : firB xs lim long now = false := by unfold firB; rw [h]; simp
theorem firB_f3 {xs : List (Int × Int)} {lim long now : Int} (h : vIn now 0 1000000000000 = false) : firB xs lim long now = false := by unfold firB; rw [h]; simp
theorem firB_f4 {xs : List (Int × Int)} {lim long now : Int} (h : ¬ 0 < xs.length) : firB xs lim long now = false := by unfold firB; rw [decide_eq_false h]; simp
theorem firB_t {xs : List (Int × Int)} {lim long now : Int} (h1 : ptsOkB xs = true) (h2 : vIn long 0 1000000000000 = true) (h3 : vIn now 0 1000000000000 = true) (h4 : 0 < xs.length) :
    firB xs lim long now = (decide (rsN xs lim xs.length < xs.length) && (decide ((xs.getD (xs.length - 1) (0, 0)).1 ≤ now) && decide (long ≤ now - (xs.getD (rsN xs lim xs.length) (0, 0)).1))) := by
  unfold firB; rw [h1, h2, h3, decide_eq_true h4]; rfl

set_option maxRecDepth 100000 in
set_option maxHeartbeats 4000000 in
theorem specFiring_any (v : Value) (xs : List (Int × Int)) (lim long now : Int) (w : World) (h : PL w w.heap.size v xs) :
    Calls Try.prog 19 #[v, .int .i64 lim, .int .i64 long, .int .i64 now] w (BoolPost (firB xs lim long now) w) := by
  have HP := Lib.hid h
  have hP := Lib.hid (fun W h => specPointsOk_any v xs W h)
  have hL := Lib.hid (fun W => v_l1In_q long 0 1000000000000 W)
  have hN := Lib.hid (fun W => v_l1In_q now 0 1000000000000 W)
  obtain ⟨hr, hlen, A, c, rfl, h3⟩ := h
  clear hr
  cases h1 : ptsOkB xs with
  | false =>
    rw [firB_f1 h1]
    rw [h1] at hP
    clear h1 h3 hL hN
    go_enter Try.func19, Try.ntmps19
    go_wp2_with fail
    refine (hP.out _ HP.out).mono ?_
    rintro e w2 ⟨rfl, hb2⟩
    go_wp2_with fail
    go_ret
    exact ⟨rfl, hb2⟩
  | true =>
  cases h2 : vIn long 0 1000000000000 with
  | false =>
    rw [firB_f2 h2]
    rw [h1] at hP
    rw [h2] at hL
    clear h1 h2 h3 hN
    go_enter Try.func19, Try.ntmps19
    go_wp2_with fail
    refine (hP.out _ HP.out).mono ?_
    rintro e w2 ⟨rfl, hb2⟩
    go_wp2_with fail
    refine (hL.out _).mono ?_
    rintro e w3 ⟨rfl, rfl⟩
    go_wp2_with fail
    go_ret
    exact ⟨rfl, hb2⟩
  | true =>
  cases h4 : vIn now 0 1000000000000 with
  | false =>
    rw [firB_f3 h4]
    rw [h1] at hP
    rw [h2] at hL
    rw [h4] at hN
    clear h1 h2 h3 h4
    go_enter Try.func19, Try.ntmps19
    go_wp2_with fail
    refine (hP.out _ HP.out).mono ?_
    rintro e w2 ⟨rfl, hb2⟩
    go_wp2_with fail
    refine (hL.out _).mono ?_
    rintro e w3 ⟨rfl, rfl⟩
    go_wp2_with fail
    refine (hN.out _).mono ?_
    rintro e w4 ⟨rfl, rfl⟩
    go_wp2_with fail
    go_ret
    exact ⟨rfl, hb2⟩
  | true =>
  by_cases h5 : 0 < xs.length
  case neg =>
    rw [firB_f4 h5]
    rw [h1] at hP
    rw [h2] at hL
    rw [h4] at hN
    have h6 : (xs.length : Int) = 0 := by omega
    clear h1 h2 h3 h4 h5
    go_enter Try.func19, Try.ntmps19
    go_wp2_with fail
    refine (hP.out _ HP.out).mono ?_
    rintro e w2 ⟨rfl, hb2⟩
    go_wp2_with fail
    refine (hL.out _).mono ?_
    rintro e w3 ⟨rfl, rfl⟩
    go_wp2_with fail
    refine (hN.out _).mono ?_
    rintro e w4 ⟨rfl, rfl⟩
    go_wp2_with fail
    go_ret
    exact ⟨rfl, hb2⟩
  rw [firB_t h1 h2 h4 h5]
  have HT := Lib.hid (fun j hj => (ptsOkB_atT h1 (j := j) hj).1)
  have hnow : 0 ≤ now ∧ now ≤ 1000000000000 := by unfold vIn at h4; exact of_decide_eq_true h4
  rw [h1] at hP
  rw [h2] at hL
  rw [h4] at hN
  have h6 : ¬ (xs.length : Int) = 0 := by omega
  have h6b : ((xs.length : Int) == 0) = false := by simpa using h6
  rcases h3 with h3 | ⟨b, off, rfl, hbl, hc⟩
  · subst h3; simp at h5
  have HC := Lib.hid hc
  obtain ⟨R, hR⟩ : ∃ R, rsN xs lim xs.length = R := ⟨_, rfl⟩
  have hRn : R ≤ xs.length := by rw [← hR]; exact rsN_le _ _ _
  have HR := Lib.hid hR
  rw [hR]
  obtain ⟨V, hV⟩ : ∃ V, (decide (R < xs.length) && (decide ((xs.getD (xs.length - 1) (0, 0)).1 ≤ now) && decide (long ≤ now - (xs.getD R (0, 0)).1))) = V := ⟨_, rfl⟩
  rw [hV]
  have HV := Lib.hid hV
  clear hV
  clear h1 h2 h4 hc hR
  go_enter Try.func19, Try.ntmps19
  go_wp2_with fail
  refine (hP.out _ HP.out).mono ?_
  rintro e w2 ⟨rfl, hb2⟩
  have HB2 := Lib.hid hb2
  clear hb2
  go_wp2_with fail
  refine (hL.out _).mono ?_
  rintro e w3 ⟨rfl, rfl⟩
  go_wp2_with fail
  refine (hN.out _).mono ?_
  rintro e w4 ⟨rfl, rfl⟩
  clear hP hL hN HP
  go_wp2_with fail
  have e1 : IntKind.i64.wrap ((xs.length : Int) - 1) = (xs.length : Int) - 1 := IntWalk.i64_in _ (by omega)
  have e2 : (0 : Int) ≤ (xs.length : Int) - 1 := by omega
  have e2' : (1 : Int) ≤ (xs.length : Int) := by omega
  have e3 : ((xs.length : Int) - 1).toNat = xs.length - 1 := by omega
  have e4 : (xs.length : Int) - 1 < (xs.length : Int) := by omega
  go_loopw [9] (fun i wr => ∃ k : Nat, k ≤ xs.length ∧ i = .int .i64 (k : Int) ∧ Hid (rsN xs lim k = R) ∧ Hid (Below w.heap.size w wr)) (fun i _ => (intOf i).toNat)
  case atStart => exact ⟨xs.length, Nat.le_refl _, rfl, HR, HB2⟩
  case round =>
    obtain ⟨k, hk, rfl, HK, HB⟩ := hrel
    have HC2 := Lib.hid (fun j hj => ((HB.out.cell (p := ⟨b, off + j * 2, none⟩) hbl).trans (HC.out j hj).1))
    have HC3 := Lib.hid (fun j hj => ((HB.out.cell (p := ⟨b, off + j * 2 + 1, none⟩) hbl).trans (HC.out j hj).2))
    by_cases hgo : 0 < k ∧ lim < (xs.getD (k - 1) (0, 0)).2
    · obtain ⟨g0, g1⟩ := hgo
      have d0 := HC3.out (k - 1) (by omega)
      have E := Lib.hid (show rsN xs lim (k - 1) = R from by rw [← HK.out, rsN_hi_eq g0 g1])
      have q0 : (0 : Int) < (k : Int) := by omega
      have q1 : IntKind.i64.wrap ((k : Int) - 1) = (k : Int) - 1 := IntWalk.i64_in _ (by omega)
      have q2 : (0 : Int) ≤ (k : Int) - 1 := by omega
      have q2' : (1 : Int) ≤ (k : Int) := by omega
      have q3 : ((k : Int) - 1).toNat = k - 1 := by omega
      have q4 : (k : Int) - 1 < (xs.length : Int) := by omega
      generalize (xs.getD (k - 1) (0, 0)).2 = y at *
      clear HC2 HC3
      go_wp2_with fail
      go_roundw
      case rel => exact ⟨k - 1, by omega, by congr 1; omega, E, HB⟩
      case measure => simp [intOf]; omega
    · have hkR : k = R := by
        rw [← HK.out]
        exact (rsN_lo_eq (by
          by_cases g0 : k = 0
          · exact .inl g0
          · exact .inr (fun g1 => hgo ⟨by omega, g1⟩))).symm
      subst hkR
      by_cases g0 : k = 0
      · have q0 : decide (0 < k) = false := by simp; omega
        have G0 := Lib.hid g0
        clear hgo g0
        by_cases g1 : k < xs.length
        · have g1I : (k : Int) < (xs.length : Int) := by omega
          have c1 := HC2.out (xs.length - 1) (by omega)
          have c2 := HC2.out k g1
          have t2 := HT.out k g1
          by_cases g2 : (xs.getD (xs.length - 1) (0, 0)).1 ≤ now
          · by_cases g3 : long ≤ now - (xs.getD k (0, 0)).1
            · obtain rfl : V = true := by rw [← HV.out, decide_eq_true g1, decide_eq_true g2, decide_eq_true g3]; rfl
              generalize (xs.getD (xs.length - 1) (0, 0)).1 = y at *
              generalize (xs.getD k (0, 0)).1 = x at *
              have e7 : IntKind.i64.wrap (now - x) = now - x := IntWalk.i64_in _ (by omega)
              clear HC2 HC3 HC
              go_wp2_with fail
              go_ret
              exact ⟨by first | rfl | simp | (simp; omega), HB.out⟩
            · obtain rfl : V = false := by rw [← HV.out, decide_eq_true g1, decide_eq_true g2, decide_eq_false g3]; rfl
              generalize (xs.getD (xs.length - 1) (0, 0)).1 = y at *
              generalize (xs.getD k (0, 0)).1 = x at *
              have e7 : IntKind.i64.wrap (now - x) = now - x := IntWalk.i64_in _ (by omega)
              clear HC2 HC3 HC
              go_wp2_with fail
              go_ret
              exact ⟨by first | rfl | simp | (simp; omega), HB.out⟩
          · obtain rfl : V = false := by rw [← HV.out, decide_eq_true g1, decide_eq_false g2]; rfl
            generalize (xs.getD (xs.length - 1) (0, 0)).1 = y at *
            generalize (xs.getD k (0, 0)).1 = x at *
            clear HC2 HC3 HC
            go_wp2_with fail
            go_ret
            exact ⟨by first | rfl | simp | (simp; omega), HB.out⟩
        · have g1I : ¬ (k : Int) < (xs.length : Int) := by omega
          obtain rfl : V = false := by rw [← HV.out, decide_eq_false g1]; rfl
          clear HC2 HC3 HC
          go_wp2_with fail
          go_ret
          exact ⟨by first | rfl | simp | (simp; omega), HB.out⟩

      · have q0 : decide (0 < k) = true := by simp; omega
        have G0 := Lib.hid g0
        clear g0
        have d0 := HC3.out (k - 1) (by have := G0.out; omega)
        have hlo : ¬ lim < (xs.getD (k - 1) (0, 0)).2 := fun g1 => hgo ⟨by have := G0.out; omega, g1⟩
        have q1 : IntKind.i64.wrap ((k : Int) - 1) = (k : Int) - 1 := IntWalk.i64_in _ (by omega)
        have q2 : (0 : Int) ≤ (k : Int) - 1 := by have := G0.out; omega
        have q2' : (1 : Int) ≤ (k : Int) := by have := G0.out; omega
        have q3 : ((k : Int) - 1).toNat = k - 1 := by omega
        have q4 : (k : Int) - 1 < (xs.length : Int) := by omega
        generalize (xs.getD (k - 1) (0, 0)).2 = z at *
        clear hgo
        by_cases g1 : k < xs.length
        · have g1I : (k : Int) < (xs.length : Int) := by omega
          have c1 := HC2.out (xs.length - 1) (by omega)
          have c2 := HC2.out k g1
          have t2 := HT.out k g1
          by_cases g2 : (xs.getD (xs.length - 1) (0, 0)).1 ≤ now
          · by_cases g3 : long ≤ now - (xs.getD k (0, 0)).1
            · obtain rfl : V = true := by rw [← HV.out, decide_eq_true g1, decide_eq_true g2, decide_eq_true g3]; rfl
              generalize (xs.getD (xs.length - 1) (0, 0)).1 = y at *
              generalize (xs.getD k (0, 0)).1 = x at *
              have e7 : IntKind.i64.wrap (now - x) = now - x := IntWalk.i64_in _ (by omega)
              clear HC2 HC3 HC
              go_wp2_with fail
              go_ret
              exact ⟨by first | rfl | simp | (simp; omega), HB.out⟩
            · obtain rfl : V = false := by rw [← HV.out, decide_eq_true g1, decide_eq_true g2, decide_eq_false g3]; rfl
              generalize (xs.getD (xs.length - 1) (0, 0)).1 = y at *
              generalize (xs.getD k (0, 0)).1 = x at *
              have e7 : IntKind.i64.wrap (now - x) = now - x := IntWalk.i64_in _ (by omega)
              clear HC2 HC3 HC
              go_wp2_with fail
              go_ret
              exact ⟨by first | rfl | simp | (simp; omega), HB.out⟩
          · obtain rfl : V = false := by rw [← HV.out, decide_eq_true g1, decide_eq_false g2]; rfl
            generalize (xs.getD (xs.length - 1) (0, 0)).1 = y at *
            generalize (xs.getD k (0, 0)).1 = x at *
            clear HC2 HC3 HC
            go_wp2_with fail
            go_ret
            exact ⟨by first | rfl | simp | (simp; omega), HB.out⟩
        · have g1I : ¬ (k : Int) < (xs.length : Int) := by omega
          obtain rfl : V = false := by rw [← HV.out, decide_eq_false g1]; rfl
          clear HC2 HC3 HC
          go_wp2_with fail
          go_ret
          exact ⟨by first | rfl | simp | (simp; omega), HB.out⟩
end Go.Proofs.Ytpmankbokbcmbaa
