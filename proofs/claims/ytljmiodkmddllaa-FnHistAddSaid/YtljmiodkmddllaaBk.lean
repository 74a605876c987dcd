/- Walks: Quantile of the model and of the program; the law FnExactQuantile. -/
import Derived.Test.YtljmiodkmddllaaBj
set_option linter.unusedVariables false
set_option linter.unusedSimpArgs false
namespace Go.Proofs.Ytljmiodkmddllaa
open Go.RowKit

theorem pts_len {xs : List (Int × Int)} (h : ptsOkB xs = true) : xs.length ≤ 120 := by
  unfold ptsOkB timesOkB at h
  rw [Bool.and_eq_true] at h
  simpa using h.1
def quB (l : List (Int × Int)) (m : Int) : Bool := ptsOkB l && decide (l.length ≠ 0) && milB m
def quV (l : List (Int × Int)) (m : Int) : Int := (srt (l.map Prod.snd)).getD (qIx l.length m).toNat 0
def quM (l : List (Int × Int)) (m : Int) : Int × Bool := if quB l m = true then (quV l m, true) else (0, false)
theorem quM_no {l : List (Int × Int)} {m : Int} (e : quB l m = false) : quM l m = (0, false) := by unfold quM; rw [e]; rfl
theorem quM_yes {l : List (Int × Int)} {m : Int} (e : quB l m = true) : quM l m = (quV l m, true) := by unfold quM; rw [if_pos e]
def QuPost (r : Int × Bool) (w : World) (e : Ending) (w' : World) : Prop := e = .returned (.tuple #[.int .i64 r.1, .bool r.2]) ∧ Below w.heap.size w w'

set_option maxRecDepth 100000 in
set_option maxHeartbeats 4000000 in
theorem specQuantile_any (v : Value) (xs : List (Int × Int)) (m : Int) (w : World) (h : PL w w.heap.size v xs) :
    Calls Try.prog 24 #[v, .int .i64 m] w (QuPost (quM xs m) w) := by
  have hP := Lib.hid (specPointsOk_any v xs w h)
  have hM := Lib.hid (fun W => v_l1In_q m 0 1000 W)
  have Q1 := Lib.hid h
  have hlen := h.2.1
  obtain ⟨-, -, A, c, rfl, -⟩ := h
  generalize hn : xs.length = n at *
  have HN := Lib.hid hn
  clear hn
  cases ep : ptsOkB xs with
  | false =>
    have E := Lib.hid (quM_no (l := xs) (m := m) (by unfold quB; rw [ep]; rfl))
    rw [ep] at hP
    clear Q1 hM ep
    rw [E.out]
    go_enter Try.func24, Try.ntmps24
    go_wp2_with fail
    refine hP.out.mono ?_
    rintro e w1 ⟨rfl, hb1⟩
    go_wp2_with fail
    go_ret2
    exact ⟨rfl, hb1⟩
  | true =>
  by_cases h0 : n = 0
  · have E := Lib.hid (quM_no (l := xs) (m := m) (by unfold quB; rw [decide_eq_false (fun h => h (HN.out.trans h0))]; simp))
    rw [ep] at hP
    rw [E.out]
    clear Q1 hM ep E
    clear HN
    subst h0
    go_enter Try.func24, Try.ntmps24
    go_wp2_with fail
    refine hP.out.mono ?_
    rintro e w1 ⟨rfl, hb1⟩
    go_wp2_with fail
    go_ret2
    exact ⟨rfl, hb1⟩
  have h0' : ((n : Int) == 0) = false := by simp; omega
  have h0s : decide ((n : Int) = 0) = false := by simp; omega
  cases em : milB m with
  | false =>
    have E := Lib.hid (quM_no (l := xs) (m := m) (by unfold quB; rw [em]; simp))
    rw [ep] at hP
    have em' : vIn m 0 1000 = false := em
    rw [em'] at hM
    rw [E.out]
    clear Q1 ep em em' E
    go_enter Try.func24, Try.ntmps24
    go_wp2_with fail
    refine hP.out.mono ?_
    rintro e w1 ⟨rfl, hb1⟩
    go_wp2_with fail
    refine (hM.out _).mono ?_
    rintro e w2 ⟨rfl, rfl⟩
    go_wp2_with fail
    go_ret2
    exact ⟨rfl, hb1⟩
  | true =>
    have E := Lib.hid (quM_yes (l := xs) (m := m) (by unfold quB; rw [ep, em, decide_eq_true (show xs.length ≠ 0 by rw [HN.out]; exact h0)]; rfl))
    have hR := Lib.hid (fun W => l16Rank_any (n : Int) m W (by omega) (by omega) em)
    have hqi := qIx_in (n := (n : Int)) (m := m) (by omega) em
    have hQV : quV xs m = (srt (xs.map Prod.snd)).getD (qIx n m).toNat 0 := by rw [← HN.out]; rfl
    have HQV := Lib.hid hQV
    have H120 := Lib.hid (show n ≤ 120 from HN.out ▸ pts_len ep)
    rw [ep] at hP
    have em' : vIn m 0 1000 = true := em
    rw [em'] at hM
    rw [E.out]
    have HRV := Lib.hid (rng_snd Q1.out.1)
    have HVL := Lib.hid (show (xs.map Prod.snd).length = n by rw [List.length_map]; exact HN.out)
    have HSV := Lib.hid (srt_rng HRV.out)
    have HSL := Lib.hid ((srt_length (xs.map Prod.snd)).trans HVL.out)
    have hS := Lib.hid (fun W (hW : PL W W.heap.size (.slice A n c) xs) => l16Sorted_any _ xs W hW (by have := H120.out; have := HN.out; omega))
    generalize qIx (n : Int) m = q at *
    obtain ⟨p, rfl⟩ : ∃ p : Nat, q = (p : Int) := ⟨q.toNat, by omega⟩
    rw [Int.toNat_natCast] at HQV
    generalize srt (xs.map Prod.snd) = S at *
    generalize quV xs m = y at *
    clear ep em em' E hQV
    have hpl : p < n := by omega
    go_enter Try.func24, Try.ntmps24
    go_wp2_with fail
    refine hP.out.mono ?_
    rintro e w1 ⟨rfl, hb1⟩
    have HB1 := Lib.hid hb1
    have HI1 := Lib.hid ((Q1.out.below hb1).up hb1.size)
    clear hb1
    go_wp2_with fail
    refine (hM.out _).mono ?_
    rintro e w2 ⟨rfl, rfl⟩
    go_wp2_with fail
    refine (hS.out _ HI1.out).mono ?_
    rintro e w3 ⟨vs, rfl, hown, hb⟩
    rw [HSL.out] at hown
    obtain ⟨g, cap, rfl, hc1, hc2⟩ := own_shape hown (by omega)
    have hx : w3.cell? ⟨g, p, none⟩ = some (.int .i64 y) := by
      rw [hown.cellAt _ (by omega), ints_get _ _ (by rw [HSL.out]; omega), HQV.out]
    have HB3 := Lib.hid (HB1.out.trans (hb.mono HB1.out.size))
    clear hown hb
    go_wp2_with fail
    refine (hR.out _).mono ?_
    rintro e w4 ⟨rfl, rfl⟩
    go_wp2_with fail
    go_ret2
    exact ⟨rfl, HB3.out⟩
set_option maxRecDepth 100000 in
set_option maxHeartbeats 4000000 in
theorem implQuantile_any (v : Value) (xs : List (Int × Int)) (m : Int) (w : World) (h : PL w w.heap.size v xs) :
    Calls Try.prog 26 #[v, .int .i64 m] w (QuPost (quM xs m) w) := by
  have hP := Lib.hid (implPointsOk_any v xs w h)
  have hM := Lib.hid (fun W => milleOk_any m W)
  have Q1 := Lib.hid h
  have hlen := h.2.1
  obtain ⟨-, -, A, c, rfl, -⟩ := h
  generalize hn : xs.length = n at *
  have HN := Lib.hid hn
  clear hn
  cases ep : ptsOkB xs with
  | false =>
    have E := Lib.hid (quM_no (l := xs) (m := m) (by unfold quB; rw [ep]; rfl))
    rw [ep] at hP
    clear Q1 hM ep
    rw [E.out]
    go_enter Try.func26, Try.ntmps26
    go_wp2_with fail
    refine hP.out.mono ?_
    rintro e w1 ⟨rfl, hb1⟩
    go_wp2_with fail
    go_ret2
    exact ⟨rfl, hb1⟩
  | true =>
  by_cases h0 : n = 0
  · have E := Lib.hid (quM_no (l := xs) (m := m) (by unfold quB; rw [decide_eq_false (fun h => h (HN.out.trans h0))]; simp))
    rw [ep] at hP
    rw [E.out]
    clear Q1 hM ep E
    clear HN
    subst h0
    go_enter Try.func26, Try.ntmps26
    go_wp2_with fail
    refine hP.out.mono ?_
    rintro e w1 ⟨rfl, hb1⟩
    go_wp2_with fail
    go_ret2
    exact ⟨rfl, hb1⟩
  have h0' : ((n : Int) == 0) = false := by simp; omega
  have h0s : decide ((n : Int) = 0) = false := by simp; omega
  cases em : milB m with
  | false =>
    have E := Lib.hid (quM_no (l := xs) (m := m) (by unfold quB; rw [em]; simp))
    rw [ep] at hP
    have em' : milB m = false := em
    rw [em'] at hM
    rw [E.out]
    clear Q1 ep em em' E
    go_enter Try.func26, Try.ntmps26
    go_wp2_with fail
    refine hP.out.mono ?_
    rintro e w1 ⟨rfl, hb1⟩
    go_wp2_with fail
    refine (hM.out _).mono ?_
    rintro e w2 ⟨rfl, rfl⟩
    go_wp2_with fail
    go_ret2
    exact ⟨rfl, hb1⟩
  | true =>
    have E := Lib.hid (quM_yes (l := xs) (m := m) (by unfold quB; rw [ep, em, decide_eq_true (show xs.length ≠ 0 by rw [HN.out]; exact h0)]; rfl))
    have hR := Lib.hid (fun W => quantileIndex_any (n : Int) m W (by omega) (by omega) em)
    have hqi := qIx_in (n := (n : Int)) (m := m) (by omega) em
    have hQV : quV xs m = (srt (xs.map Prod.snd)).getD (qIx n m).toNat 0 := by rw [← HN.out]; rfl
    have HQV := Lib.hid hQV
    have H120 := Lib.hid (show n ≤ 120 from HN.out ▸ pts_len ep)
    rw [ep] at hP
    have em' : milB m = true := em
    rw [em'] at hM
    rw [E.out]
    have HRV := Lib.hid (rng_snd Q1.out.1)
    have HVL := Lib.hid (show (xs.map Prod.snd).length = n by rw [List.length_map]; exact HN.out)
    have HSV := Lib.hid (srt_rng HRV.out)
    have HSL := Lib.hid ((srt_length (xs.map Prod.snd)).trans HVL.out)
    have hV := Lib.hid (fun W (hW : PL W W.heap.size (.slice A n c) xs) => valuesOf_any _ xs W hW)
    have hS := Lib.hid (fun v W (hW : IL W W.heap.size v (xs.map Prod.snd)) => sorted_any v (xs.map Prod.snd) W hW)
    have hSE : ((xs.map Prod.snd).mergeSort fun x y => decide (x ≤ y)) = srt (xs.map Prod.snd) := rfl
    rw [hSE] at hS
    generalize qIx (n : Int) m = q at *
    obtain ⟨p, rfl⟩ : ∃ p : Nat, q = (p : Int) := ⟨q.toNat, by omega⟩
    rw [Int.toNat_natCast] at HQV
    generalize srt (xs.map Prod.snd) = S at *
    generalize quV xs m = y at *
    clear ep em em' E hQV hSE
    have hpl : p < n := by omega
    go_enter Try.func26, Try.ntmps26
    go_wp2_with fail
    refine hP.out.mono ?_
    rintro e w1 ⟨rfl, hb1⟩
    have HB1 := Lib.hid hb1
    have HI1 := Lib.hid ((Q1.out.below hb1).up hb1.size)
    clear hb1
    go_wp2_with fail
    refine (hM.out _).mono ?_
    rintro e w2 ⟨rfl, rfl⟩
    go_wp2_with fail
    refine (hV.out _ HI1.out).mono ?_
    rintro e w3 ⟨vv, rfl, hown, hb⟩
    have HI3 := Lib.hid (IL.of_own hown (by rw [List.length_map]) HRV.out (by rw [HVL.out]; exact hlen))
    have HB3 := Lib.hid (HB1.out.trans (hb.mono HB1.out.size))
    clear hown hb
    go_wp2_with fail
    refine (hS.out _ _ HI3.out).mono ?_
    rintro e w4 ⟨vs, rfl, hown, hb⟩
    rw [HSL.out] at hown
    obtain ⟨g, cap, rfl, hc1, hc2⟩ := own_shape hown (by omega)
    have hx : w4.cell? ⟨g, p, none⟩ = some (.int .i64 y) := by
      rw [hown.cellAt _ (by omega), ints_get _ _ (by rw [HSL.out]; omega), HQV.out]
    have HB4 := Lib.hid (HB3.out.trans (hb.mono HB3.out.size))
    clear hown hb
    go_wp2_with fail
    refine (hR.out _).mono ?_
    rintro e w5 ⟨rfl, rfl⟩
    go_wp2_with fail
    go_ret2
    exact ⟨rfl, HB4.out⟩

set_option maxRecDepth 100000 in
set_option maxHeartbeats 2000000 in
theorem walkFnExactQuantile (A : Option Addr) (n c : Nat) (m : Int) (w : World) (hn : n ≤ maxLen) (hx : n ≤ 1048576 → ∃ xs : List (Int × Int), xs.length = n ∧ PL w w.heap.size (.slice A n c) xs) (r_m : Rng m) :
    Calls Try.prog 6 #[.slice A n c, .int .i64 m] w fun e w' => e = .returned (.bool true) ∧ Below w.heap.size w w' := by
  unfold maxLen at hn
  by_cases hbig : (1048576 : Int) < n
  · clear hx
    have e1 : wrap64 (1048576 - (n : Int)) = 1048576 - (n : Int) := by unfold wrap64; omega
    go_enter Try.func6, Try.ntmps6
    go_wp2
    go_ret
    exact ⟨rfl, Below.refl _ _⟩
  · obtain ⟨xs, rfl, hil⟩ := hx (by omega)
    have Hil := Lib.hid hil
    have Hrng := Lib.hid hil.1
    have hsp := Lib.hid (fun v W h => specQuantile_any v xs m W h)
    have him := Lib.hid (fun v W h => implQuantile_any v xs m W h)
    obtain ⟨S, hS⟩ : ∃ S, quM xs m = S := ⟨_, rfl⟩
    rw [hS] at hsp him
    clear hS
    obtain ⟨q, ok⟩ := S
    have hcp := Lib.hid (fun v W h => toPointS_any v xs W h)
    have heq := Lib.hid (fun v u W h h' => eqPointS_any v u xs xs W h h')
    rw [decide_eq_true rfl] at heq
    clear hx hil
    have e1 : wrap64 (1048576 - (xs.length : Int)) = 1048576 - (xs.length : Int) := by unfold wrap64; omega
    cases ok
    all_goals
      go_enter Try.func6, Try.ntmps6
      go_wp2_with (first | (go_at_call 23; go_in) | fail)
      refine (hcp.out _ _ Hil.out).mono ?_
      rintro e w1 ⟨v1, rfl, hown1, hb1⟩
      have H1 := Lib.hid (PL.of_own hown1 rfl Hrng.out (by omega))
      have Hil1 := Lib.hid ((Hil.out.below hb1).up hb1.size)
      have B1 := Lib.hid hb1
      clear hown1 hb1 Hil
      go_wp2_with fail
      refine (hsp.out _ _ H1.out).mono ?_
      rintro e w2 ⟨rfl, hb2⟩
      have Hil2 := Lib.hid ((Hil1.out.below hb2).up hb2.size)
      have B2 := Lib.hid (B1.out.trans (hb2.mono B1.out.size))
      clear hb2 Hil1 B1 H1
      go_wp2_with fail
      refine (hcp.out _ _ Hil2.out).mono ?_
      rintro e w3 ⟨v3, rfl, hown3, hb3⟩
      have H3 := Lib.hid (PL.of_own hown3 rfl Hrng.out (by omega))
      have Hil3 := Lib.hid ((Hil2.out.below hb3).up hb3.size)
      have B3 := Lib.hid (B2.out.trans (hb3.mono B2.out.size))
      clear hown3 hb3 Hil2 B2
      go_wp2_with fail
      refine (him.out _ _ H3.out).mono ?_
      rintro e w4 ⟨rfl, hb4⟩
      have Hil4 := Lib.hid ((Hil3.out.below hb4).up hb4.size)
      have H4 := Lib.hid ((H3.out.below hb4).up hb4.size)
      have B4 := Lib.hid (B3.out.trans (hb4.mono B3.out.size))
      clear hb4 Hil3 B3 H3
      go_wp2_with fail
      refine (hcp.out _ _ Hil4.out).mono ?_
      rintro e w5 ⟨v5, rfl, hown5, hb5⟩
      have H5 := Lib.hid (PL.of_own hown5 rfl Hrng.out (by omega))
      have H45 := Lib.hid ((H4.out.below hb5).up hb5.size)
      have B5 := Lib.hid (B4.out.trans (hb5.mono B4.out.size))
      clear hown5 hb5 Hil4 B4 H4
      go_wp2_with fail
      refine (heq.out _ _ _ H45.out H5.out).mono ?_
      rintro e w6 ⟨rfl, hb6⟩
      have B6 := Lib.hid (B5.out.trans (hb6.mono B5.out.size))
      clear hb6 B5
      go_wp2_with fail
      go_ret
      exact ⟨rfl, B6.out⟩
end Go.Proofs.Ytljmiodkmddllaa
